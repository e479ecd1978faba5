/- copied: a value in memory of its own, each list with one place more. -/
import Derived.Test.YtbpmhgcjefpigaaGreatDoorCopy7
import Derived.Test.YtbpmhgcjefpigaaGreatDoorMapTwo
import Derived.Test.YtbpmhgcjefpigaaGreatDoorJoin18
namespace Go.Proofs.YtbpmhgcjefpigaaGreatDoor
open Go.RowKit Go.Shelf Go.WideShapes
set_option linter.unusedVariables false
set_option linter.unusedSimpArgs false
/-- What stands behind a round of copied. -/
def Copying (W3 : World) (ts : List Tree) (j : Nat) (lv : Value) (wr : World) : Prop :=
  ∃ xs, wr.ownsRow W3.heap.size 26 6 lv j xs ∧ Row6 (fun b => W3.heap.size ≤ b ∧ b < wr.heap.size ∧ some b ≠ lv.ownBlock) wr xs (ts.take j)
theorem spare_form {p : Nat → Prop} {w : World} {v : Value} {T : Tree} (h : SpareP p w v T) : ∃ c0 c1 c2 c3 c4 c5, v = .agg #[c0, c1, c2, c3, c4, c5] ∧ ∀ u ∈ [c0, c1, c2, c3, c4, c5], u.oneCell' = true := by
  obtain ⟨k, x, n, s, ks, ts⟩ := T
  simp only [SpareP] at h
  obtain ⟨bk, kc, bl, lc, rfl, -⟩ := h
  exact ⟨_, _, _, _, _, _, rfl, by simp [Value.oneCell']⟩
theorem copying_start (W3 : World) (ts : List Tree) : Copying W3 ts 0 (.slice none 0 0) W3 := ⟨[], World.ownsRow_nil _ _ _ _, by simp only [List.take_zero, Row6]⟩
/-- One more. -/
theorem copying_step {W3 wr w2 w4 : World} {ts : List Tree} {t : Tree} {j g cap : Nat} {lv : Value} {xs : List Value} {c0 c1 c2 c3 c4 c5 : Value} (hx : ts[j]? = some t)
    (hown : wr.ownsRow W3.heap.size 26 6 lv j xs) (hrow : Row6 (fun b => W3.heap.size ≤ b ∧ b < wr.heap.size ∧ some b ≠ lv.ownBlock) wr xs (ts.take j)) (h3 : W3.heap.size ≤ wr.heap.size)
    (hb2 : Below wr.heap.size wr w2) (hsp : SpareP (fun b => wr.heap.size ≤ b ∧ b < w2.heap.size) w2 (.agg #[c0, c1, c2, c3, c4, c5]) t)
    (h4 : w4.ownsRow W3.heap.size 26 6 (.slice (some ⟨g, 0, none⟩) (j + 1) cap) (j + 1) (xs ++ [c0, c1, c2, c3, c4, c5])) (hg : w2.grownBy w4 lv.ownBlock) (hpl : lv.ownBlock = some g ∨ w2.heap.size ≤ g) :
    Copying W3 ts (j + 1) (.slice (some ⟨g, 0, none⟩) (j + 1) cap) w4 := by
  have hlv : ∀ q, lv.ownBlock = some q → q < wr.heap.size := fun q hq => (hown.lt q hq).2
  have s1 : Stay (fun b => W3.heap.size ≤ b ∧ b < wr.heap.size ∧ some b ≠ lv.ownBlock) wr w4 := fun b i hb =>
    World.cell?_of_block ((hg.block b (Nat.lt_of_lt_of_le hb.2.1 hb2.size) hb.2.2).trans (hb2.block b hb.2.1))
  have s2 : Stay (fun b => wr.heap.size ≤ b ∧ b < w2.heap.size) w2 w4 := fun b i hb => World.cell?_of_block (hg.block b hb.2 fun e => by
    have := hlv b e.symm
    omega)
  have hs4 := hg.size
  have hs2 := hb2.size
  refine ⟨_, h4, ?_⟩
  rw [List.take_add_one, hx]
  refine Row6.snoc ?_ (hrow.keep s1 ?_)
  · refine (hsp.keep s2).mono fun b hb => ⟨by omega, by omega, ?_⟩
    simp only [Value.ownBlock, ne_eq, Option.some.injEq]
    rcases hpl with h | h
    · have := hlv g h; omega
    · omega
  · rintro b ⟨q1, q2, q3⟩
    refine ⟨q1, by omega, ?_⟩
    simp only [Value.ownBlock, ne_eq, Option.some.injEq]
    rcases hpl with h | h
    · rw [h] at q3; simpa using q3
    · omega
set_option maxRecDepth 100000 in
set_option maxHeartbeats 4000000 in
theorem spared_any : ∀ (T : Tree) (B : Nat) (v : Value) (w : World), B ≤ w.heap.size → Lies B w v T → T.total ≤ 800000 →
    Calls Tryz.prog 17 #[v] w fun e w' => ∃ v', e = .returned v' ∧ SpareP (fun b => w.heap.size ≤ b ∧ b < w'.heap.size) w' v' T ∧ Below w.heap.size w w' := by
  refine Tree.ind ?_
  intro k x n s ks ts ih B v w hB hv htot
  simp only [Lies] at hv
  obtain ⟨ka, kc, la, lc, rfl, ⟨hs1, hs2, hs3, hs4, hs5⟩, hk, ht⟩ := hv
  rw [Tree.total] at htot
  have hkb := keyBytes_pos ks
  have htl := totalL_len ts
  have hkl : ks.length ≤ 800000 := by omega
  have htl2 : ts.length ≤ 800000 := by omega
  have HTOT : Hid (∀ t ∈ ts, t.total ≤ 800000) := fun t ht => by have := totalL_mem ht; omega
  have HIH := hidE ih
  have HT := hidE ht
  have HKS : Hid (∀ i, i < ks.length → (ks.getD i ⟨#[]⟩).size ≤ maxLen) := fun i hi => by
    rcases hk with h | ⟨_, _, _, _, h⟩
    · subst h; simp at hi
    · exact (h i hi).2
  obtain ⟨W2, hW2⟩ : ∃ W2, (w.alloc (.cells #[.int .i64 k, .bool x, .int .i64 n, .string s, .slice ka ks.length kc, .slice la ts.length lc] 26)).alloc (.cells #[.int .i64 0, .bool false, .int .i64 0, .string ⟨#[]⟩, .slice none 0 0, .slice none 0 0] 26) = W2 := ⟨_, rfl⟩
  have hz2 : W2.heap.size = w.heap.size + 1 + 1 := by rw [← hW2]; simp
  have hb2 : Below w.heap.size w W2 := hW2 ▸ ((Below.refl _ _).alloc (Nat.le_refl _) _).alloc (by simp) _
  have hqa : W2.heap[w.heap.size]? = some (.cells #[.int .i64 k, .bool x, .int .i64 n, .string s, .slice ka ks.length kc, .slice la ts.length lc] 26 (0, 0)) := by
    rw [← hW2, Below.heap_alloc _ _ _ (by simp)]; exact World.alloc_heap_new _ _
  have hqb : W2.heap[w.heap.size + 1]? = some (.cells #[.int .i64 0, .bool false, .int .i64 0, .string ⟨#[]⟩, .slice none 0 0, .slice none 0 0] 26 (0, 0)) := by
    rw [← hW2]
    have := World.alloc_heap_new (w.alloc (.cells #[.int .i64 k, .bool x, .int .i64 n, .string s, .slice ka ks.length kc, .slice la ts.length lc] 26)) (.cells #[.int .i64 0, .bool false, .int .i64 0, .string ⟨#[]⟩, .slice none 0 0, .slice none 0 0] 26)
    rwa [World.size_alloc] at this
  have hcell : ∀ i v, (#[.int .i64 k, .bool x, .int .i64 n, .string s, .slice ka ks.length kc, .slice la ts.length lc] : Array Value)[i]? = some v → W2.cell? ⟨w.heap.size, i, none⟩ = some v := fun i v hi => box_cell hqa hi
  have hres : ∀ i v, (#[.int .i64 0, .bool false, .int .i64 0, .string ⟨#[]⟩, .slice none 0 0, .slice none 0 0] : Array Value)[i]? = some v → W2.cell? ⟨w.heap.size + 1, i, none⟩ = some v := fun i v hi => box_cell hqb hi
  have hfa : ∀ i, W2.frozen? ⟨w.heap.size, i, none⟩ = false := fun i => by unfold World.frozen?; simp [hqa]
  have hfb : ∀ i, W2.frozen? ⟨w.heap.size + 1, i, none⟩ = false := fun i => by unfold World.frozen?; simp [hqb]
  have HWC : Hid (WC1 w.heap.size B kc ka ks W2) := ⟨hcell 4 _ rfl, hfa 4, keys_below hk hb2 hB, Nat.le_trans hB hb2.size, by omega⟩
  have HW2 := hidE hW2
  have HC2 := hidE (And.intro hcell (And.intro hres (And.intro hfa hfb)))
  have HB2 := hidE (And.intro hb2 hz2)
  clear ih ht hk hW2 hqa hqb hcell hres hfa hfb hb2 hz2 htot hkb
  go_enter Tryz.func17, Tryz.ntmps17
  go_upto_region 1 with fail
  rw [HW2.out]
  show (Code.region 1 RC1 true).wp _ _ _ _
  refine regionC1 w.heap.size B kc ka ks W2 _ _ ⟨rfl, rfl⟩ HWC.out ?_
  intro c g cap W hS hbW hown hlt hle
  have hl : c = ⟨#[Value.agg #[Value.int IntKind.i64 k, Value.bool x, Value.int IntKind.i64 n, Value.string s, Value.slice ka ks.length kc, Value.slice la ts.length lc], Value.pointer (some { block := w.heap.size, off := 0 }), Value.pointer (some { block := w.heap.size + 1, off := 0 }), undef, undef, c.eval (.tmp 5), c.eval (.tmp 6), c.eval (.tmp 7), c.eval (.tmp 8), c.eval (.tmp 9), c.eval (.tmp 10), c.eval (.tmp 11), c.eval (.tmp 12), c.eval (.tmp 13), c.eval (.tmp 14), c.eval (.tmp 15), undef, undef, undef, undef, undef, undef, undef, undef, undef, undef, undef, undef, undef, undef, undef, undef, undef, undef, undef, undef, undef, undef, undef, undef, undef, undef], []⟩ := (same_lay hS).trans (by kernel_rfl)
  generalize c.eval (.tmp 5) = z5 at hl
  generalize c.eval (.tmp 6) = z6 at hl
  generalize c.eval (.tmp 7) = z7 at hl
  generalize c.eval (.tmp 8) = z8 at hl
  generalize c.eval (.tmp 9) = z9 at hl
  generalize c.eval (.tmp 10) = z10 at hl
  generalize c.eval (.tmp 11) = z11 at hl
  generalize c.eval (.tmp 12) = z12 at hl
  generalize c.eval (.tmp 13) = z13 at hl
  generalize c.eval (.tmp 14) = z14 at hl
  generalize c.eval (.tmp 15) = z15 at hl
  clear hS
  subst hl
  obtain ⟨W3, hW3⟩ : ∃ W3, W.setCell ⟨w.heap.size, 4, none⟩ (.slice (some ⟨g, 0, none⟩) ks.length cap) = W3 := ⟨_, rfl⟩
  have hz3 : W3.heap.size = W.heap.size := by rw [← hW3]; simp [World.setCell]
  have hb3 : Below w.heap.size w W3 := hW3 ▸ (HB2.out.1.trans (hbW.mono HB2.out.1.size)).setCell (p := ⟨w.heap.size, 4, none⟩) (Nat.le_refl _) _
  have hbx : ∀ i, i ≠ 4 → W3.cell? ⟨w.heap.size, i, none⟩ = W2.cell? ⟨w.heap.size, i, none⟩ := fun i hi => by
    rw [← hW3, World.cell?_setCell_other _ _ _ _ (fun e => by simp only [Addr.mk.injEq] at e; omega)]
    exact hbW.cell (p := ⟨w.heap.size, i, none⟩) (by have := HB2.out.2; show w.heap.size < _; omega)
  have hb4 : W3.cell? ⟨w.heap.size, 4, none⟩ = some (.slice (some ⟨g, 0, none⟩) ks.length cap) := by
    rw [← hW3]
    exact World.cell?_setCell_same _ _ _ ((hbW.cell (p := ⟨w.heap.size, 4, none⟩) (by have := HB2.out.2; show w.heap.size < _; omega)).trans (HC2.out.1 4 _ rfl))
  have hrs : ∀ i, W3.cell? ⟨w.heap.size + 1, i, none⟩ = W2.cell? ⟨w.heap.size + 1, i, none⟩ := fun i => by
    rw [← hW3, World.cell?_setCell_other _ _ _ _ (fun e => by simp only [Addr.mk.injEq] at e; omega)]
    exact hbW.cell (p := ⟨w.heap.size + 1, i, none⟩) (by have := HB2.out.2; show w.heap.size + 1 < _; omega)
  have hfz : ∀ q i, q < w.heap.size + 1 + 1 → W3.frozen? ⟨q, i, none⟩ = W2.frozen? ⟨q, i, none⟩ := fun q i hq => by
    rw [← hW3, World.frozen?_setCell]
    exact World.frozen?_of_block (hbW.block q (by have := HB2.out.2; omega))
  have HX3 : Hid (∀ wr, Below W3.heap.size W3 wr → ((wr.cell? ⟨w.heap.size, 0, none⟩ = some (.int .i64 k) ∧ wr.cell? ⟨w.heap.size, 1, none⟩ = some (.bool x) ∧ wr.cell? ⟨w.heap.size, 2, none⟩ = some (.int .i64 n) ∧ wr.cell? ⟨w.heap.size, 3, none⟩ = some (.string s) ∧ wr.cell? ⟨w.heap.size, 4, none⟩ = some (.slice (some ⟨g, 0, none⟩) ks.length cap) ∧ wr.cell? ⟨w.heap.size, 5, none⟩ = some (.slice la ts.length lc)) ∧
      (∀ i v, (#[.int .i64 0, .bool false, .int .i64 0, .string ⟨#[]⟩, .slice none 0 0, .slice none 0 0] : Array Value)[i]? = some v → wr.cell? ⟨w.heap.size + 1, i, none⟩ = some v) ∧ (∀ i, wr.frozen? ⟨w.heap.size, i, none⟩ = false) ∧ (∀ i, wr.frozen? ⟨w.heap.size + 1, i, none⟩ = false)) ∧ Below w.heap.size w wr) := fun wr hb => by
    have l1 : w.heap.size + 1 < W3.heap.size := by have := HB2.out.2; have := hbW.size; omega
    have c1 : ∀ i, wr.cell? ⟨w.heap.size, i, none⟩ = W3.cell? ⟨w.heap.size, i, none⟩ := fun i => hb.cell (p := ⟨w.heap.size, i, none⟩) (by show w.heap.size < _; omega)
    refine ⟨⟨⟨?_, ?_, ?_, ?_, ?_, ?_⟩, fun i v hi => ?_, fun i => ?_, fun i => ?_⟩, hb3.trans (hb.mono (by omega))⟩
    · rw [c1, hbx 0 (by decide)]; exact HC2.out.1 0 _ rfl
    · rw [c1, hbx 1 (by decide)]; exact HC2.out.1 1 _ rfl
    · rw [c1, hbx 2 (by decide)]; exact HC2.out.1 2 _ rfl
    · rw [c1, hbx 3 (by decide)]; exact HC2.out.1 3 _ rfl
    · rw [c1]; exact hb4
    · rw [c1, hbx 5 (by decide)]; exact HC2.out.1 5 _ rfl
    · rw [hb.cell (p := ⟨w.heap.size + 1, i, none⟩) (by show w.heap.size + 1 < _; omega), hrs]; exact HC2.out.2.1 i v hi
    · rw [World.frozen?_of_block (a := ⟨w.heap.size, i, none⟩) (hb.block w.heap.size (by omega)), hfz _ _ (by omega)]; exact HC2.out.2.2.1 i
    · rw [World.frozen?_of_block (a := ⟨w.heap.size + 1, i, none⟩) (hb.block (w.heap.size + 1) (by omega)), hfz _ _ (by omega)]; exact HC2.out.2.2.2 i
  have HO3 : Hid (W3.ownsRow W2.heap.size 9 1 (.slice (some ⟨g, 0, none⟩) (ks.length + 1) cap) (ks.length + 1) (ks.map .string ++ [.string spareB])) := hW3 ▸ ownsRow_setCell_below hown (by have := HB2.out.2; show w.heap.size < _; omega) _
  have HCAP := hidE (And.intro hlt hle)
  have HW3 := hidE hW3
  have HZ3 : Hid (w.heap.size + 1 + 1 ≤ W3.heap.size) := by
    show w.heap.size + 1 + 1 ≤ W3.heap.size
    have := HB2.out.2
    have := hbW.size
    omega
  rw [hW3]
  clear hbW hown hlt hle hW3 hz3 hb3 hbx hb4 hrs hfz HW3 HWC HW2 HC2
  go_wp2_with fail
  unfold maxLen at hs5
  go_loopw [4, 3] (fun i lv wr => ∃ j : Nat, j ≤ ts.length ∧ i = .int .i64 j ∧ Below W3.heap.size W3 wr ∧ Copying W3 ts j lv wr) (fun i _ _ => ts.length - (intOf i).toNat)
  case atStart => exact ⟨0, Nat.zero_le _, rfl, Below.refl _ _, copying_start W3 ts⟩
  case round =>
    obtain ⟨j, hj, rfl, hbr, hcp⟩ := hrel
    obtain ⟨xs, hown, hrow⟩ := hcp
    have HOWN := hidE hown
    have HROW := hidE hrow
    obtain ⟨⟨⟨b0, b1, b2, b3, b4, b5⟩, hzr, hfa, hfb⟩, hbw⟩ := HX3.out wr hbr
    have HRES := hidE (And.intro hzr (And.intro hfa hfb))
    have HBR := hidE (And.intro hbr hbw)
    clear hown hrow hzr hfa hfb hbr hbw
    by_cases hlt : j < ts.length
    · obtain ⟨bl, off, rfl, hbl, hkk⟩ := HT.out.resolve_left (by intro e; subst e; simp at hlt)
      obtain ⟨⟨p0, p1, p2, p3, p4, p5⟩, hx⟩ : ∃ t, ts[j]? = some t := ⟨_, List.getElem?_eq_getElem hlt⟩
      obtain ⟨ja, jc, jl, jd, ⟨c0, c1, c2, c3, c4, c5⟩, hlx⟩ := (hkk.below (HBR.out.2.mono hB) hbl).cells hx
      have HX := hidE hx
      have HC := hidE (HIH.out _ (List.mem_of_getElem? hx) B _ wr (Nat.le_trans hB HBR.out.2.size) hlx (HTOT.out _ (List.mem_of_getElem? hx)))
      clear hx hkk hlx
      go_wp2_with fail
      refine HC.out.mono ?_
      rintro e w2 ⟨v', rfl, hsp, hb2⟩
      obtain ⟨d0, d1, d2, d3, d4, d5, rfl, hone⟩ := spare_form hsp
      obtain ⟨WA, hWA⟩ : ∃ WA, w2.alloc (.cells #[d0, d1, d2, d3, d4, d5] 26) = WA := ⟨_, rfl⟩
      have hba : Below w2.heap.size w2 WA := hWA ▸ (Below.refl _ _).alloc (Nat.le_refl _) _
      have HBA : Hid (Below wr.heap.size wr WA) := hb2.trans (hba.mono hb2.size)
      have HSP : Hid (SpareP (fun b => wr.heap.size ≤ b ∧ b < WA.heap.size) WA (.agg #[d0, d1, d2, d3, d4, d5]) (.mk p0 p1 p2 p3 p4 p5)) :=
        (hsp.keep (fun b i hb => hba.cell (p := ⟨b, i, none⟩) hb.2)).mono fun b hb => ⟨hb.1, Nat.lt_of_lt_of_le hb.2 hba.size⟩
      have HOA : Hid (WA.ownsRow W3.heap.size 26 6 u3 j xs) := by
        obtain ⟨g1, ⟨g2, g3⟩ | ⟨g, cap, cur, g2, g3, g4, g5⟩⟩ := HOWN.out
        · exact ⟨g1, .inl ⟨g2, g3⟩⟩
        · exact ⟨g1, .inr ⟨g, cap, cur, g2, g3, (HBA.out.block g (Array.getElem?_eq_some_iff.1 g4).1).trans g4, g5⟩⟩
      have HNW : Hid (∀ q u, [d0, d1, d2, d3, d4, d5][q]? = some u → WA.cell? ((⟨w2.heap.size, 0, none⟩ : Addr).add q) = some u) := fun q u hq => by
        rw [add_plain, Nat.zero_add, ← hWA]; exact cell_new _ _ _ q _ (by simpa using hq)
      have HON := hidE hone
      have HWA := hidE hWA
      obtain ⟨i0, hi, hz0, hz1, hz2⟩ := info_parts Tryz.info26
      clear hsp hb2 hba hone hWA HC c0 c1 c2 c3 c4 c5
      go_wp2_with (at_builtin; rw [HWA.out]; refine wpList_append_lies WA rfl _ _ 24 rfl W3.heap.size 26 i0 (.agg #[.int .i64 0, .bool false, .int .i64 0, .string ⟨#[]⟩, .slice none 0 0, .slice none 0 0]) 6 88 Tryz.underlying24 hi hz0 hz1 hz2 rfl (by decide) u3 j xs rfl HOA.out ⟨w2.heap.size, 0, none⟩ 1 1 [d0, d1, d2, d3, d4, d5] rfl rfl HNW.out HON.out (by decide) (by unfold maxLen; omega) (by omega) (Nat.le_trans HBR.out.1.size HBA.out.size) WA.heap.size rfl ?_; intro g2 cap2 w4 q1 q2 q3 q4)
      go_roundw
      case rel =>
        refine ⟨j + 1, by omega, by go_num, ?_, ?_⟩
        · exact (HBR.out.1.trans (HBA.out.mono HBR.out.1.size)).grown q2 (Nat.le_trans HBR.out.1.size HBA.out.size) fun q h => (HOA.out.lt q h).1
        · exact copying_step HX.out HOWN.out HROW.out HBR.out.1.size HBA.out HSP.out q1 q2 (q3.imp id fun h => by omega)
      case measure => simp [intOf]; omega
    · obtain rfl : j = ts.length := by omega
      have HRW : Hid (Row6 (fun b => W3.heap.size ≤ b ∧ b < wr.heap.size ∧ some b ≠ u3.ownBlock) wr xs ts) := by
        have := HROW.out
        rwa [List.take_of_length_le (Nat.le_refl _)] at this
      go_upto_region 7 with fail
      show (Code.region 7 RC7 true).wp _ _ _ _
      have hzz := HZ3.out
      refine regionC7 w.heap.size ts.length lc W3.heap.size la u3 xs wr _ _ ⟨rfl, rfl, rfl⟩ ⟨b5, HRES.out.2.1 5, HOWN.out, HBR.out.1.size, by omega, by omega⟩ ?_
      intro c g2 cap2 W5 hS q1 q2 q3 q4 q5
      have hl : c = ⟨#[Value.agg #[Value.int IntKind.i64 k, Value.bool x, Value.int IntKind.i64 n, Value.string s, Value.slice ka ks.length kc, Value.slice la ts.length lc], Value.pointer (some { block := w.heap.size, off := 0 }), Value.pointer (some { block := w.heap.size + 1, off := 0 }), u3, Value.int IntKind.i64 ↑ts.length, z5, z6, z7, z8, z9, z10, z11, z12, z13, z14, z15, Value.int IntKind.i64 ↑ts.length, Value.pointer (some { block := w.heap.size, off := 5 }), Value.slice la ts.length lc, Value.int IntKind.i64 ↑ts.length, Value.bool false, u21, u22, u23, u24, u25, u26, u27, u28, u29, u30, u31, c.eval (.tmp 32), c.eval (.tmp 33), c.eval (.tmp 34), c.eval (.tmp 35), c.eval (.tmp 36), c.eval (.tmp 37), c.eval (.tmp 38), c.eval (.tmp 39), c.eval (.tmp 40), undef], []⟩ := (same_lay hS).trans (by kernel_rfl)
      generalize c.eval (.tmp 32) = z32 at hl
      generalize c.eval (.tmp 33) = z33 at hl
      generalize c.eval (.tmp 34) = z34 at hl
      generalize c.eval (.tmp 35) = z35 at hl
      generalize c.eval (.tmp 36) = z36 at hl
      generalize c.eval (.tmp 37) = z37 at hl
      generalize c.eval (.tmp 38) = z38 at hl
      generalize c.eval (.tmp 39) = z39 at hl
      generalize c.eval (.tmp 40) = z40 at hl
      clear hS
      subst hl
      obtain ⟨W6, hW6⟩ : ∃ W6, W5.setCell ⟨w.heap.size, 5, none⟩ (.slice (some ⟨g2, 0, none⟩) ts.length cap2) = W6 := ⟨_, rfl⟩
      have hwr : W3.heap.size ≤ wr.heap.size := HBR.out.1.size
      have hne : ∀ q, q < W3.heap.size → some q ≠ u3.ownBlock := fun q hq e => by have := (HOWN.out.lt q e.symm).1; omega
      have hblk : ∀ q, q < W3.heap.size → W5.heap[q]? = wr.heap[q]? := fun q hq => q2.block q (by omega) (hne q hq)
      have hbx : ∀ i, i ≠ 5 → W6.cell? ⟨w.heap.size, i, none⟩ = wr.cell? ⟨w.heap.size, i, none⟩ := fun i hi => by
        rw [← hW6, World.cell?_setCell_other _ _ _ _ (fun e => by simp only [Addr.mk.injEq] at e; omega)]
        exact World.cell?_of_block (hblk w.heap.size (by omega))
      have y0 := (hbx 0 (by decide)).trans b0
      have y1 := (hbx 1 (by decide)).trans b1
      have y2 := (hbx 2 (by decide)).trans b2
      have y3 := (hbx 3 (by decide)).trans b3
      have y4 := (hbx 4 (by decide)).trans b4
      have y5 : W6.cell? ⟨w.heap.size, 5, none⟩ = some (.slice (some ⟨g2, 0, none⟩) ts.length cap2) := by
        rw [← hW6]
        exact World.cell?_setCell_same _ _ _ ((World.cell?_of_block (a := ⟨w.heap.size, 5, none⟩) (hblk w.heap.size (by omega))).trans b5)
      have hrs : ∀ i v, (#[.int .i64 0, .bool false, .int .i64 0, .string ⟨#[]⟩, .slice none 0 0, .slice none 0 0] : Array Value)[i]? = some v → W6.cell? ⟨w.heap.size + 1, i, none⟩ = some v := fun i v hi => by
        rw [← hW6, World.cell?_setCell_other _ _ _ _ (fun e => by simp only [Addr.mk.injEq] at e; omega)]
        exact (World.cell?_of_block (a := ⟨w.heap.size + 1, i, none⟩) (hblk (w.heap.size + 1) (by omega))).trans (HRES.out.1 i v hi)
      have hrf : ∀ i, W6.frozen? ⟨w.heap.size + 1, i, none⟩ = false := fun i => by
        rw [← hW6, World.frozen?_setCell]
        exact (World.frozen?_of_block (a := ⟨w.heap.size + 1, i, none⟩) (hblk (w.heap.size + 1) (by omega))).trans (HRES.out.2.2 i)
      have r0 := hrs 0 _ rfl
      have r1 := hrs 1 _ rfl
      have r2 := hrs 2 _ rfl
      have r3 := hrs 3 _ rfl
      have r4 := hrs 4 _ rfl
      have r5 := hrs 5 _ rfl
      have f0 := hrf 0
      have f1 := hrf 1
      have f2 := hrf 2
      have f3 := hrf 3
      have f4 := hrf 4
      have f5 := hrf 5
      have HBLK := hidE hblk
      have HQ := hidE (And.intro q1 (And.intro q2 (And.intro q3 (And.intro q4 q5))))
      have HW6 := hidE hW6
      rw [hW6]
      clear q1 q2 q3 q4 q5 hblk hne hbx hrs hrf hW6 b0 b1 b2 b3 b4 b5
      go_wp2_with fail
      have HFB : Hid (Below w.heap.size w (six W6 (w.heap.size + 1) 0 (.int .i64 k) (.bool x) (.int .i64 n) (.string s) (.slice (some ⟨g, 0, none⟩) ks.length cap) (.slice (some ⟨g2, 0, none⟩) ts.length cap2))) :=
        six_below (HW6.out ▸ (HBR.out.2.grown HQ.out.2.1 HBR.out.2.size fun q h => (by have := (HOWN.out.lt q h).1; omega)).setCell (p := ⟨w.heap.size, 5, none⟩) (Nat.le_refl _) _) (by omega) _ _ _ _ _ _
      refine bodyPost_ret (v := .agg #[.int .i64 k, .bool x, .int .i64 n, .string s, .slice (some ⟨g, 0, none⟩) ks.length cap, .slice (some ⟨g2, 0, none⟩) ts.length cap2]) (by simp [results, Tryz.results17, go_sem, r0, r1, r2, r3, r4, r5]) rfl ⟨_, rfl, ?_, HFB.out⟩
      show SpareP (fun b => w.heap.size ≤ b ∧ b < (six W6 (w.heap.size + 1) 0 (.int .i64 k) (.bool x) (.int .i64 n) (.string s) (.slice (some ⟨g, 0, none⟩) ks.length cap) (.slice (some ⟨g2, 0, none⟩) ts.length cap2)).heap.size) (six W6 (w.heap.size + 1) 0 (.int .i64 k) (.bool x) (.int .i64 n) (.string s) (.slice (some ⟨g, 0, none⟩) ks.length cap) (.slice (some ⟨g2, 0, none⟩) ts.length cap2)) _ _
      obtain ⟨W7, hW7⟩ : ∃ W7, six W6 (w.heap.size + 1) 0 (.int .i64 k) (.bool x) (.int .i64 n) (.string s) (.slice (some ⟨g, 0, none⟩) ks.length cap) (.slice (some ⟨g2, 0, none⟩) ts.length cap2) = W7 := ⟨_, rfl⟩
      rw [hW7]
      obtain ⟨q1, q2, q3, q4, q5⟩ := HQ.out
      have c7 : ∀ q i, w.heap.size + 1 < q → W7.cell? ⟨q, i, none⟩ = W5.cell? ⟨q, i, none⟩ := fun q i hq => by
        rw [← hW7, six_out (fun e => by omega), ← HW6.out]
        exact World.cell?_setCell_other _ _ _ _ (fun e => by simp only [Addr.mk.injEq] at e; omega)
      have s7 : W7.heap.size = W5.heap.size := by rw [← hW7, six_size, ← HW6.out]; simp [World.setCell]
      have s5 := q2.size
      have hgl := HO3.out.lt g rfl
      have hg2 := q1.lt g2 rfl
      have h2s := HB2.out.2
      have hxl : xs.length = ts.length * 6 := HOWN.out.1
      have cg : ∀ i, W7.cell? ⟨g, i, none⟩ = W3.cell? ⟨g, i, none⟩ := fun i => by
        rw [c7 g i (by omega), World.cell?_of_block (a := ⟨g, i, none⟩) (HBLK.out g hgl.2)]
        exact HBR.out.1.cell (p := ⟨g, i, none⟩) hgl.2
      have ck : ∀ i u, (ks.map Value.string ++ [.string spareB])[i]? = some u → W7.cell? ⟨g, i, none⟩ = some u := fun i u hu => by
        have := HO3.out.cells rfl i u hu
        rw [add_plain, Nat.zero_add] at this
        rw [cg]; exact this
      have cl : ∀ i u, (xs ++ six77)[i]? = some u → W7.cell? ⟨g2, i, none⟩ = some u := fun i u hu => by
        have := q1.cells rfl i u hu
        rw [add_plain, Nat.zero_add] at this
        rw [c7 g2 i (by omega)]; exact this
      simp only [SpareP]
      refine ⟨g, cap, g2, cap2, rfl, ⟨hs1, HCAP.out.1, HCAP.out.2, q4, q5⟩, ⟨⟨by omega, by omega⟩, ⟨by omega, by omega⟩⟩, fun i hi => ⟨ck i _ ?_, HKS.out i hi⟩, ck _ _ ?_, ?_, cl _ _ ?_⟩
      · rw [List.getElem?_append_left (by simpa using hi), List.getElem?_map, List.getElem?_eq_getElem hi, List.getD_eq_getElem?_getD, List.getElem?_eq_getElem hi]; rfl
      · rw [List.getElem?_append_right (by simp)]; simp
      · refine Row6.kids (xs := xs) (HRW.out.keep (fun b i hb => ?_) (fun b hb => ⟨by omega, by omega⟩)) (fun i u hu => ?_)
        · rw [c7 b i (by omega)]; exact World.cell?_of_block (q2.block b hb.2.1 hb.2.2)
        · rw [Nat.zero_add]
          refine cl i u ?_
          rw [List.getElem?_append_left (List.getElem?_eq_some_iff.1 hu).1]; exact hu
      · rw [List.getElem?_append_right (by omega), hxl, Nat.sub_self]; rfl
end Go.Proofs.YtbpmhgcjefpigaaGreatDoor
