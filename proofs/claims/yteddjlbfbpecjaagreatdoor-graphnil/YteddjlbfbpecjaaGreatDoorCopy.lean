/- Copies of lists and of values, at every value of moderate size. -/
import Derived.Test.YteddjlbfbpecjaaGreatDoorCopies
import Derived.Test.YteddjlbfbpecjaaGreatDoorJoin5
import Derived.Deep.QuietTactic
import Derived.BigQuiet
namespace Go.Proofs.YteddjlbfbpecjaaGreatDoor
open Go.RowKit Go.Shelf Go.WideShapes
set_option linter.unusedVariables false

theorem Tryz.info60 : (Tryz.prog.info? 60).map (fun i => (i.zero, i.size, i.bytes)) = some (some (.agg #[.int .i64 0, .bool false, .int .i64 0, .string ⟨#[]⟩, .slice none 0 0, .slice none 0 0]), 6, 88) := by kernel_rfl

mutual
theorem total_pos : ∀ (T : Tree), 1 ≤ T.total
  | .mk k b n s ks ts => by
    have := totalL_len ts
    have := keyBytes_nonneg ks
    simp only [Tree.total]; omega
theorem totalL_len : ∀ (l : List Tree), (l.length : Int) ≤ Tree.totalL l
  | [] => by simp [Tree.totalL]
  | t :: ts => by
    have h := total_pos t
    have g := totalL_len ts
    simp only [Tree.totalL, List.length_cons]; omega
end
theorem totalL_mem : ∀ {ts : List Tree} {t : Tree}, t ∈ ts → t.total ≤ Tree.totalL ts
  | u :: us, t, h => by
    have h1 := totalL_len us
    have h2 := total_pos u
    rcases List.mem_cons.1 h with rfl | h
    · simp only [Tree.totalL]; omega
    · have := totalL_mem h; simp only [Tree.totalL]; omega

/-- What Copy does at a value. -/
def CopyOk (T : Tree) : Prop := ∀ (B : Nat) (v : Value) (w : World), B ≤ w.heap.size → Lies B w v T → T.total ≤ 1000000 →
  Calls Tryz.prog 147 #[v] w fun e w' => ∃ v', e = .returned v' ∧ LiesR w.heap.size w'.heap.size w' v' T ∧ Below w.heap.size w w'

/-- There is room for n values in the block. -/
def Room (w : World) (g n : Nat) : Prop := ∀ o, o < n * 6 → (w.cell? ⟨g, o, none⟩).isSome = true ∧ w.frozen? ⟨g, o, none⟩ = false
theorem Room.below {w w' : World} {g n : Nat} (h : Room w g n) (hb : Below w.heap.size w w') (hg : g < w.heap.size) : Room w' g n := fun o ho => by
  rw [hb.cell (p := ⟨g, o, none⟩) hg, hb.frozen (p := ⟨g, o, none⟩) hg]; exact h o ho

theorem six_eq (w : World) (b o : Nat) (v0 v1 v2 v3 v4 v5 : Value) : (((((w.setCell ⟨b, o, none⟩ v0).setCell ⟨b, o + 1, none⟩ v1).setCell ⟨b, o + 2, none⟩ v2).setCell ⟨b, o + 3, none⟩ v3).setCell ⟨b, o + 4, none⟩ v4).setCell ⟨b, o + 5, none⟩ v5 = six w b o v0 v1 v2 v3 v4 v5 := rfl
theorem six_frozen {w : World} {b o : Nat} {v0 v1 v2 v3 v4 v5 : Value} (a : Addr) : (six w b o v0 v1 v2 v3 v4 v5).frozen? a = w.frozen? a := by
  simp only [six, World.setCells, World.frozen?_setCell]
theorem Room.six {w : World} {g n o : Nat} (h : Room w g n) (ho : o + 6 ≤ n * 6) (v0 v1 v2 v3 v4 v5 : Value) : Room (six w g o v0 v1 v2 v3 v4 v5) g n := fun p hp => by
  rw [six_frozen]
  refine ⟨?_, (h p hp).2⟩
  by_cases hin : p < o ∨ o + 6 ≤ p
  · rw [six_out (fun _ => hin)]; exact (h p hp).1
  · obtain ⟨q, rfl⟩ : ∃ q, p = o + q := ⟨p - o, by omega⟩
    obtain ⟨c0, c1, c2, c3, c4, c5⟩ := six_in (w := w) (b := g) (o := o) (v0 := v0) (v1 := v1) (v2 := v2) (v3 := v3) (v4 := v4) (v5 := v5) (fun j hj => (h (o + j) (by omega)).1)
    match q, (show q < 6 by omega) with
    | 0, _ => rw [Nat.add_zero, c0]; rfl
    | 1, _ => rw [c1]; rfl
    | 2, _ => rw [c2]; rfl
    | 3, _ => rw [c3]; rfl
    | 4, _ => rw [c4]; rfl
    | 5, _ => rw [c5]; rfl
theorem take_snoc {ts : List Tree} {p : Nat} {t : Tree} (h : ts[p]? = some t) : ts.take (p + 1) = ts.take p ++ [t] := by
  rw [List.take_add_one, h]; rfl

/-- One more value is stored behind those that were. -/
theorem kids_step {ts : List Tree} {t : Tree} {g j lo : Nat} {wr w2 : World} (hx : ts[j]? = some t) (hg : g < wr.heap.size) (hb : Below wr.heap.size wr w2) (hk : KidsR (g + 1) wr.heap.size wr g 0 (ts.take j)) {v0 v1 v2 v3 v4 v5 : Value}
    (hlo : g + 1 ≤ lo) (hv : LiesR lo w2.heap.size w2 (.agg #[v0, v1, v2, v3, v4, v5]) t) (hr : ∀ q, q < 6 → (w2.cell? ⟨g, j * 6 + q, none⟩).isSome = true) :
    KidsR (g + 1) (six w2 g (j * 6) v0 v1 v2 v3 v4 v5).heap.size (six w2 g (j * 6) v0 v1 v2 v3 v4 v5) g 0 (ts.take (j + 1)) := by
  have hjl : j < ts.length := (List.getElem?_eq_some_iff.1 hx).1
  have hkeep : ∀ (lo' : Nat), g + 1 ≤ lo' → ∀ B, Keeps lo' B w2 (six w2 g (j * 6) v0 v1 v2 v3 v4 v5) := fun lo' h B b o h1 _ => six_out (fun e => by omega)
  refine kidsR_of _ 0 fun i u hu => ?_
  simp only [Nat.zero_add]
  rw [six_size]
  by_cases hij : i = j
  · subst hij
    have : u = t := by
      rw [take_snoc hx, List.getElem?_append_right (by simp; omega)] at hu
      simp [show min i ts.length = i by omega] at hu
      exact hu.symm
    subst this
    obtain ⟨c0, c1, c2, c3, c4, c5⟩ := six_in (w := w2) (b := g) (o := i * 6) (v0 := v0) (v1 := v1) (v2 := v2) (v3 := v3) (v4 := v4) (v5 := v5) hr
    exact ⟨v0, v1, v2, v3, v4, v5, ⟨c0, c1, c2, c3, c4, c5⟩, (hv.keep (hkeep lo hlo _)).mono hlo (Nat.le_refl _)⟩
  · have hil : i < j := by
      have h := (List.getElem?_eq_some_iff.1 hu).1
      simp at h; omega
    have hu' : (ts.take j)[i]? = some u := by
      rw [take_snoc hx, List.getElem?_append_left (by simp; omega)] at hu
      exact hu
    obtain ⟨x0, x1, x2, x3, x4, x5, ⟨c0, c1, c2, c3, c4, c5⟩, hl⟩ := hk.at hu'
    simp only [Nat.zero_add] at c0 c1 c2 c3 c4 c5
    have hc : ∀ o v, o < i * 6 + 6 → wr.cell? ⟨g, o, none⟩ = some v → (six w2 g (j * 6) v0 v1 v2 v3 v4 v5).cell? ⟨g, o, none⟩ = some v := fun o v ho h => by
      rw [six_out (fun _ => .inl (by omega)), hb.cell (p := ⟨g, o, none⟩) hg]; exact h
    exact ⟨x0, x1, x2, x3, x4, x5, ⟨hc _ _ (by omega) c0, hc _ _ (by omega) c1, hc _ _ (by omega) c2, hc _ _ (by omega) c3, hc _ _ (by omega) c4, hc _ _ (by omega) c5⟩,
      ((hl.keep (keeps_below hb (Nat.le_refl _))).mono (Nat.le_refl _) hb.size).keep (hkeep _ (Nat.le_refl _) _)⟩

set_option maxRecDepth 100000 in
set_option maxHeartbeats 2000000 in
theorem copies_some (ts : List Tree) (ih : ∀ t ∈ ts, CopyOk t) (B : Nat) (a : Addr) (lc : Nat) (w : World) (hB : B ≤ w.heap.size) (hl : ListLies B w (some a) ts) (h1 : ts.length ≤ lc) (h2 : lc ≤ maxLen) (htot : Tree.totalL ts ≤ 1000000) :
    Calls Tryz.prog 183 #[.slice (some a) ts.length lc] w fun e w' => ∃ la', e = .returned (.slice la' ts.length ts.length) ∧ ListR w.heap.size w'.heap.size w' la' ts ∧ Below w.heap.size w w' := by
  unfold maxLen at h2
  obtain ⟨i0, hi, hz0, hz1, hz2⟩ := info_parts Tryz.info60
  have hlen := totalL_len ts
  have hmk : ∀ W : World, (Instr.makeSlice 58 (.int .i64 (ts.length : Int)) (.int .i64 (ts.length : Int))).run Tryz.prog W = .ok (.slice (some ⟨W.heap.size, 0, none⟩) ts.length ts.length) (W.alloc (.cells (madeCells #[.int .i64 0, .bool false, .int .i64 0, .string ⟨#[]⟩, .slice none 0 0, .slice none 0 0] (ts.length * 6)) 60)) := fun W => by
    have := run_makeSlice (P := Tryz.prog) W 58 60 i0 _ Tryz.underlying58 hi hz0 .i64 .i64 (ts.length : Int) (ts.length : Int) (by omega) (by omega) (by rw [hz1]; omega) (by rw [hz2]; omega) (by omega)
    simpa [hz1, Value.cells] using this
  have heq : ∀ W : World, (binOp .eql 58 (.slice (some a) ts.length lc) (.slice none 0 0)).run Tryz.prog W = .ok (.bool false) W := fun W => by
    have := Lib.run_eql_slice_nil (P := Tryz.prog) W 58 60 (some a) ts.length lc 0 0 Tryz.underlying58
    simpa using this
  obtain ⟨W1, hW1⟩ : ∃ W1, w.alloc (.cells (madeCells #[.int .i64 0, .bool false, .int .i64 0, .string ⟨#[]⟩, .slice none 0 0, .slice none 0 0] (ts.length * 6)) 60) = W1 := ⟨_, rfl⟩
  have hb1 : Below w.heap.size w W1 := hW1 ▸ (Below.refl _ _).alloc (Nat.le_refl _) _
  have hg1 : w.heap.size < W1.heap.size := by rw [← hW1]; simp
  have hroom : Room W1 w.heap.size ts.length := by
    intro o ho
    rw [← hW1]
    have hs : (madeCells #[.int .i64 0, .bool false, .int .i64 0, .string ⟨#[]⟩, .slice none 0 0, .slice none 0 0] (ts.length * 6)).size = ts.length * 6 := size_madeCells _ _
    refine ⟨?_, ?_⟩
    · rw [cell_new _ _ _ o _ (Array.getElem?_eq_getElem (by rw [hs]; exact ho))]; rfl
    · have hn := World.alloc_heap_new w (.cells (madeCells #[.int .i64 0, .bool false, .int .i64 0, .string ⟨#[]⟩, .slice none 0 0, .slice none 0 0] (ts.length * 6)) 60)
      unfold World.frozen?
      simp only [hn]
      simp
  have HLL := hidE hl
  have HIH := hidE ih
  have HW1 := hidE hW1
  have HTOT := hidE htot
  clear hl ih hW1 htot
  go_enter Tryz.func183, Tryz.ntmps183
  go_wp2_with fail
  rw [HW1.out]
  clear hmk heq HW1
  go_loopw [13] (fun i wr => ∃ j : Nat, j ≤ ts.length ∧ i = .int .i64 j ∧ Below w.heap.size w wr ∧ w.heap.size < wr.heap.size ∧ Room wr w.heap.size ts.length ∧ KidsR (w.heap.size + 1) wr.heap.size wr w.heap.size 0 (ts.take j)) (fun i _ => ts.length - (intOf i).toNat)
  case atStart => exact ⟨0, Nat.zero_le _, rfl, hb1, hg1, hroom, by simp only [List.take_zero, KidsR]⟩
  case round =>
    obtain ⟨j, hj, rfl, hbr, hgr, hrm, hkids⟩ := hrel
    have HBR := hidE hbr
    have HRM := hidE hrm
    have HKI := hidE hkids
    clear hbr hrm hkids
    by_cases hlt : j < ts.length
    · obtain ⟨bl, off, ha, hbl, hkk⟩ := (HLL.out.below (HBR.out.mono hB)).resolve_left (by intro e; subst e; simp at hlt)
      obtain rfl : a = ⟨bl, off, none⟩ := by simpa using ha
      obtain ⟨⟨p0, p1, p2, p3, p4, p5⟩, hx⟩ : ∃ t, ts[j]? = some t := ⟨_, List.getElem?_eq_getElem hlt⟩
      obtain ⟨ja, jc, jl, jd, ⟨c0, c1, c2, c3, c4, c5⟩, hlx⟩ := hkk.cells hx
      have HX := hidE hx
      have hm := totalL_mem (List.mem_of_getElem? hx)
      have HC := hidE (HIH.out _ (List.mem_of_getElem? hx) B _ (wr.alloc (.cells #[.int .i64 p0, .bool p1, .int .i64 p2, .string p3, .slice ja p4.length jc, .slice jl p5.length jd] 60)) (by have := HBR.out.size; simp; omega)
        (hlx.below (((Below.refl _ wr).alloc (Nat.le_refl _) _).mono (Nat.le_trans hB HBR.out.size))) (by have := HTOT.out; omega))
      clear hkk hlx hx hm
      go_wp2_with fail
      refine HC.out.mono ?_
      rintro e w2 ⟨v2, rfl, hv2, hb2⟩
      have HBA := hidE (below_alloc hb2)
      have hsz2 : wr.heap.size < w2.heap.size := by have := hb2.size; simp at this; omega
      obtain ⟨k0, b0, n0, s0, l0, l1⟩ := (show Tree from .mk p0 p1 p2 p3 p4 p5)
      have hv2' := hv2
      simp only [LiesR] at hv2'
      obtain ⟨ka', kc', la', lc', rfl, -⟩ := hv2'
      have HV2 := hidE hv2
      have hrm2 := HRM.out.below HBA.out hgr
      obtain ⟨u0, d0⟩ := Option.isSome_iff_exists.1 (hrm2 (j * 6) (by omega)).1
      obtain ⟨u1, d1⟩ := Option.isSome_iff_exists.1 (hrm2 (j * 6 + 1) (by omega)).1
      obtain ⟨u2, d2⟩ := Option.isSome_iff_exists.1 (hrm2 (j * 6 + 2) (by omega)).1
      obtain ⟨u3, d3⟩ := Option.isSome_iff_exists.1 (hrm2 (j * 6 + 3) (by omega)).1
      obtain ⟨u4, d4⟩ := Option.isSome_iff_exists.1 (hrm2 (j * 6 + 4) (by omega)).1
      obtain ⟨u5, d5⟩ := Option.isSome_iff_exists.1 (hrm2 (j * 6 + 5) (by omega)).1
      have f0 := (hrm2 (j * 6) (by omega)).2
      have f1 := (hrm2 (j * 6 + 1) (by omega)).2
      have f2 := (hrm2 (j * 6 + 2) (by omega)).2
      have f3 := (hrm2 (j * 6 + 3) (by omega)).2
      have f4 := (hrm2 (j * 6 + 4) (by omega)).2
      have f5 := (hrm2 (j * 6 + 5) (by omega)).2
      have HR2 := hidE hrm2
      clear hv2 hb2 hrm2 c0 c1 c2 c3 c4 c5 HC
      go_wp2_with fail
      clear d0 d1 d2 d3 d4 d5 f0 f1 f2 f3 f4 f5
      rw [six_eq]
      go_roundw
      case rel =>
        refine ⟨j + 1, by omega, by go_num, six_below (HBR.out.trans (HBA.out.mono HBR.out.size)) (Nat.le_refl _) _ _ _ _ _ _, by rw [six_size]; omega, HR2.out.six (by omega) _ _ _ _ _ _, ?_⟩
        exact kids_step HX.out hgr HBA.out HKI.out (by simp; omega) HV2.out (fun q hq => (HR2.out _ (by omega)).1)
      case measure => simp [intOf]; omega
    · have HT : Hid (ts.take j = ts) := List.take_of_length_le (by omega)
      have HK2 : Hid (KidsR (w.heap.size + 1) wr.heap.size wr w.heap.size 0 ts) := by have := HKI.out; rwa [HT.out] at this
      go_wp2_with fail
      go_ret
      refine ⟨some ⟨w.heap.size, 0, none⟩, rfl, ?_, HBR.out⟩
      exact .inr ⟨w.heap.size, 0, rfl, Nat.le_refl _, hgr, HK2.out.mono (by omega) (Nat.le_refl _)⟩

theorem copies_nil (n lc : Nat) (w : World) : Calls Tryz.prog 183 #[.slice none n lc] w fun e w' => e = .returned (.slice none 0 0) ∧ w' = w := by
  have heq : ∀ W : World, (binOp .eql 58 (.slice none n lc) (.slice none 0 0)).run Tryz.prog W = .ok (.bool true) W := fun W => by
    have := Lib.run_eql_slice_nil (P := Tryz.prog) W 58 60 none n lc 0 0 Tryz.underlying58
    simpa using this
  go_enter Tryz.func183, Tryz.ntmps183
  go_wp2_with fail
  go_ret
  exact ⟨rfl, rfl⟩

theorem copies_any (ts : List Tree) (ih : ∀ t ∈ ts, CopyOk t) (B : Nat) (la : Option Addr) (lc : Nat) (w : World) (hB : B ≤ w.heap.size) (hl : ListLies B w la ts) (h1 : ts.length ≤ lc) (h2 : lc ≤ maxLen) (htot : Tree.totalL ts ≤ 1000000) :
    Calls Tryz.prog 183 #[.slice la ts.length lc] w fun e w' => ∃ la' lc', e = .returned (.slice la' ts.length lc') ∧ (ts.length ≤ lc' ∧ lc' ≤ maxLen) ∧ ListR w.heap.size w'.heap.size w' la' ts ∧ Below w.heap.size w w' := by
  cases la with
  | none =>
    have h0 : ts = [] := hl.elim id fun ⟨bl, off, e, _⟩ => by cases e
    subst h0
    refine (copies_nil 0 lc w).mono ?_
    rintro e w' ⟨rfl, rfl⟩
    exact ⟨none, 0, rfl, ⟨Nat.le_refl _, by unfold maxLen; omega⟩, .inl rfl, Below.refl _ _⟩
  | some a =>
    refine (copies_some ts ih B a lc w hB hl h1 h2 htot).mono ?_
    rintro e w' ⟨la', rfl, hl', hb⟩
    exact ⟨la', ts.length, rfl, ⟨Nat.le_refl _, by have := totalL_len ts; unfold maxLen; omega⟩, hl', hb⟩

/-- The texts of a list, cloned. -/
theorem clone_any (B : Nat) (ka : Option Addr) (kc : Nat) (ks : List ByteArray) (w : World) (hk : KeysLie B w ka ks) (hl : ks.length ≤ 1000000) :
    Calls Tryz.prog 99 #[.slice ka ks.length kc] w fun e w' => ∃ ka' kc', e = .returned (.slice ka' ks.length kc') ∧ (ks.length ≤ kc' ∧ kc' ≤ maxLen) ∧ KeysR w.heap.size w'.heap.size w' ka' ks ∧ Below w.heap.size w w' := by
  by_cases h0 : ks = []
  · subst h0
    cases ka with
    | none =>
      refine (Tryz.slices_Clone_string_nil 0 kc w).mono ?_
      rintro e w' ⟨rfl, rfl⟩
      exact ⟨none, 0, rfl, ⟨Nat.le_refl _, by unfold maxLen; omega⟩, .inl rfl, Below.refl _ _⟩
    | some a =>
      refine (Tryz.slices_Clone_string_zero a kc w).mono ?_
      rintro e w' ⟨v', rfl, ho, _, hb⟩
      obtain ⟨_, ⟨rfl, _⟩ | ⟨g, cap, cur, rfl, _, _, h5, h6, _⟩⟩ := ho
      · exact ⟨none, 0, rfl, ⟨Nat.le_refl _, by unfold maxLen; omega⟩, .inl rfl, hb⟩
      · exact ⟨some ⟨g, 0, none⟩, cap, rfl, ⟨h5, h6⟩, .inl rfl, hb⟩
  · obtain ⟨b, off, rfl, hlt, hc⟩ := hk.resolve_left h0
    refine (Tryz.slices_Clone_string b off ks.length kc ks w (Nat.le_refl _) (by omega) (fun j hj => (hc j hj).1)).mono ?_
    rintro e w' ⟨v', rfl, ho, _, hb⟩
    have ho' := ho
    rw [List.take_length] at ho
    obtain ⟨_, ⟨_, h2⟩ | ⟨g, cap, cur, rfl, h3, h4, h5, h6, _⟩⟩ := ho
    · exact absurd (List.eq_nil_of_length_eq_zero h2) h0
    · refine ⟨some ⟨g, 0, none⟩, cap, rfl, ⟨h5, h6⟩, .inr ⟨g, 0, rfl, h3, ?_, fun i hi => ⟨?_, (hc i hi).2⟩⟩, hb⟩
      · rcases Nat.lt_or_ge g w'.heap.size with h | h
        · exact h
        · rw [Array.getElem?_eq_none h] at h4; cases h4
      · have := ho'.cells (g := g) rfl i (.string (ks.getD i ⟨#[]⟩)) (by rw [List.take_length, List.getElem?_map, List.getElem?_eq_getElem hi, List.getD_eq_getElem?_getD, List.getElem?_eq_getElem hi]; rfl)
        rw [add_plain] at this
        exact this
end Go.Proofs.YteddjlbfbpecjaaGreatDoor
