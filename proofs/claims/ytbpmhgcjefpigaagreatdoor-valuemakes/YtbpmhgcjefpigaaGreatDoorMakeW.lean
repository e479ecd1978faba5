/- ValueMakes, walked. -/
import Derived.Test.YtbpmhgcjefpigaaGreatDoorMapn
import Derived.Test.YtbpmhgcjefpigaaGreatDoorRmap
import Derived.Test.YtbpmhgcjefpigaaGreatDoorJoin19
import Derived.Test.YtbpmhgcjefpigaaGreatDoorMakeg3
import Derived.Test.YtbpmhgcjefpigaaGreatDoorMakeg9
import Derived.Test.YtbpmhgcjefpigaaGreatDoorMakeq13
import Derived.Test.YtbpmhgcjefpigaaGreatDoorMakeq27
import Derived.Test.YtbpmhgcjefpigaaGreatDoorSpared
import Derived.Test.YtbpmhgcjefpigaaGreatDoorJoin20
import Derived.Test.YtbpmhgcjefpigaaGreatDoorJoin21
import Derived.Test.YtbpmhgcjefpigaaGreatDoorJoin17
import Derived.Test.YtbpmhgcjefpigaaGreatDoorJoin18
import Derived.Test.YtbpmhgcjefpigaaGreatDoorListW
namespace Go.Proofs.YtbpmhgcjefpigaaGreatDoor
open Go.RowKit Go.Shelf Go.Lib
set_option linter.unusedVariables false
set_option linter.unusedSimpArgs false
set_option maxRecDepth 100000 in
set_option maxHeartbeats 16000000 in
theorem makes_law (pb : Bool) (pn : Int) (ps : ByteArray) (ks : List ByteArray) (ts : List Tree) (D : Nat) (ka : Option Addr) (kc : Nat) (la : Option Addr) (lc : Nat) (w : World) (hD : D ≤ w.heap.size) (hK : KeysLie D w ka ks) (hL : ListLies D w la ts) (hp : ps.size ≤ maxLen) (h1 : ks.length ≤ kc) (h2 : kc ≤ maxLen) (h3 : ts.length ≤ lc) (h4 : lc ≤ maxLen) (sT : SaneL ts) (hT : Tabs w)
    (hP : TabBelow Tryz.prog w.heap.size w "internal/strconv.uint64pow10" .u64 pow10Tab) : Calls Tryz.prog 9 #[.agg #[.bool pb, .int .i64 pn, .string ps, .slice ka ks.length kc, .slice la ts.length lc]] w fun e w' => e = .returned (.bool true) ∧ Below w.heap.size w w' := by
  have HWK : Hid (∀ w', Below w.heap.size w w' → Calls Tryz.prog 16 #[] w' fun e w2 => e = .returned (.bool true) ∧ Below w'.heap.size w' w2) := fun w' hb => works_any w' (hT.below hb) (fun w2 h => hP w2 (hb.trans (h.mono hb.size)))
  have HLA : Hid (∀ w', Below w.heap.size w w' → KeysLie D w' ka ks ∧ ListLies D w' la ts ∧ D ≤ w'.heap.size) := fun w' hb => ⟨hK.below (hb.mono hD), hL.below (hb.mono hD), Nat.le_trans hD hb.size⟩
  obtain ⟨W1, hW1⟩ : ∃ W1, w.alloc (.cells #[.bool pb, .int .i64 pn, .string ps, .slice ka ks.length kc, .slice la ts.length lc] 56) = W1 := ⟨_, rfl⟩
  have hb1 : Below w.heap.size w W1 := hW1 ▸ (Below.refl _ _).alloc (Nat.le_refl _) _
  have hs1 : W1.heap.size = w.heap.size + 1 := by rw [← hW1]; simp
  have HBX : Hid (∀ W, Below W1.heap.size W1 W → Below w.heap.size w W ∧ W.cell? ⟨w.heap.size, 0, none⟩ = some (.bool pb) ∧ W.cell? ⟨w.heap.size, 1, none⟩ = some (.int .i64 pn) ∧ W.cell? ⟨w.heap.size, 2, none⟩ = some (.string ps) ∧ W.cell? ⟨w.heap.size, 3, none⟩ = some (.slice ka ks.length kc) ∧ W.cell? ⟨w.heap.size, 4, none⟩ = some (.slice la ts.length lc)) := fun W hb => by
    have hc : ∀ i v, (#[.bool pb, .int .i64 pn, .string ps, .slice ka ks.length kc, .slice la ts.length lc] : Array Value)[i]? = some v → W.cell? ⟨w.heap.size, i, none⟩ = some v := fun i v h => by
      rw [hb.cell (p := ⟨w.heap.size, i, none⟩) (by show w.heap.size < _; omega), ← hW1]
      exact cell_new _ _ _ i _ h
    exact ⟨hb1.trans (hb.mono (by omega)), hc 0 _ rfl, hc 1 _ rfl, hc 2 _ rfl, hc 3 _ rfl, hc 4 _ rfl⟩
  have HM := hidE (And.intro h2 (And.intro h4 hp))
  have HS := hidE sT
  have HS1 := hidE hs1
  have HW1 := hidE hW1
  unfold maxLen at h2 h4 hp
  obtain ⟨hbw1, q0, q1, q2, q3, q4⟩ := HBX.out W1 (Below.refl _ _)
  clear hT hP hK hL sT hW1 hb1 hs1
  go_enter Tryz.func9, Tryz.ntmps9
  have HEND : Hid (∀ w', Below w.heap.size w w' → Calls Tryz.prog 16 #[] w' fun e w2 => e = .returned (.bool true) ∧ Below w.heap.size w w2) := fun w' hb => (HWK.out w' hb).mono fun e w2 ⟨h, h'⟩ => ⟨h, below_on hb h'⟩
  by_cases hg1 : 2000 < ps.size
  · have hg1' : (2000 : Int) < ps.size := by omega
    go_wp2_with fail
    rw [HW1.out]
    go_wp2_with fail
    refine (HEND.out W1 hbw1).mono ?_
    rintro e w1 ⟨rfl, hb1⟩
    have HB1 := hidE hb1
    clear hb1
    go_wp2_with fail
    go_ret
    exact ⟨rfl, HB1.out⟩
  have hg1' : ¬ (2000 : Int) < ps.size := by omega
  by_cases hg2 : 60 < ks.length
  · have hg2' : (60 : Int) < ks.length := by omega
    go_wp2_with fail
    rw [HW1.out]
    go_wp2_with fail
    refine (HEND.out W1 hbw1).mono ?_
    rintro e w1 ⟨rfl, hb1⟩
    have HB1 := hidE hb1
    clear hb1
    go_wp2_with fail
    go_ret
    exact ⟨rfl, HB1.out⟩
  have hg2' : ¬ (60 : Int) < ks.length := by omega
  by_cases hg3 : 60 < ts.length
  · have hg3' : (60 : Int) < ts.length := by omega
    go_wp2_with fail
    rw [HW1.out]
    go_wp2_with fail
    refine (HEND.out W1 hbw1).mono ?_
    rintro e w1 ⟨rfl, hb1⟩
    have HB1 := hidE hb1
    clear hb1
    go_wp2_with fail
    go_ret
    exact ⟨rfl, HB1.out⟩
  have hg3' : ¬ (60 : Int) < ts.length := by omega
  have HSM := hidE (smalls_any ts D la lc W1 (HLA.out W1 hbw1).2.2 (HLA.out W1 hbw1).2.1 h3 HM.out.2.1 (fun t ht => HS.out.mem ht))
  go_wp2_with fail
  rw [HW1.out]
  go_wp2_with fail
  refine HSM.out.mono ?_
  rintro e w0 ⟨rfl, hb0⟩
  have HB0 := hidE hb0
  obtain ⟨hbw0, q0, q1, q2, q3, q4⟩ := HBX.out w0 hb0
  clear hb0 HSM
  by_cases hsm : smalls ts ≤ 2000
  rotate_left
  · have hd : decide (smalls ts ≤ 2000) = false := by simp [hsm]
    rw [hd]
    clear hsm hd
    go_wp2_with fail
    refine (HEND.out w0 hbw0).mono ?_
    rintro e w1 ⟨rfl, hb1⟩
    have HB1 := hidE hb1
    clear hb1
    go_wp2_with fail
    go_ret
    exact ⟨rfl, HB1.out⟩
  have HTOT := hidE (small_total hsm)
  have hd : decide (smalls ts ≤ 2000) = true := by simp [hsm]
  rw [hd]
  clear hsm hd
  have HTL : Hid (Tree.totalL ts ≤ 1000000 ∧ ∀ t ∈ ts, t.total ≤ 800000) := ⟨totalL_few HTOT.out (by omega), fun t ht => by have := HTOT.out t ht; omega⟩
  have HBW0 := hidE hbw0
  clear HTOT hbw0 q0 q1 q2
  go_upto_region 3 with fail
  show (Code.region 3 RG3 true).wp _ _ _ _
  refine regionG3 w.heap.size D kc ka ks w0 _ _ ⟨rfl, rfl⟩ ⟨q3, (HLA.out w0 HBW0.out).1, (HLA.out w0 HBW0.out).2.2, by omega⟩ ?_
  intro c kg kcap w2 hS hbk hko hkl hkm h3t
  have hl : c = ⟨#[Value.agg #[Value.bool pb, Value.int IntKind.i64 pn, Value.string ps, Value.slice ka ks.length kc, Value.slice la ts.length lc], Value.pointer (some { block := w.heap.size, off := 0 }), Value.bool false, c.eval (.tmp 3), undef, undef, undef, undef, undef, undef, undef, undef, undef, Value.pointer (some { block := w.heap.size, off := 2 }), Value.string ps, Value.int IntKind.i64 ↑ps.size, Value.bool false, Value.bool false, Value.pointer (some { block := w.heap.size, off := 3 }), Value.slice ka ks.length kc, Value.int IntKind.i64 ↑ks.length, Value.bool false, Value.bool false, Value.bool false, Value.pointer (some { block := w.heap.size, off := 4 }), Value.slice la ts.length lc, Value.int IntKind.i64 ↑ts.length, Value.bool false, Value.bool false, Value.bool false, Value.pointer (some { block := w.heap.size, off := 4 }), Value.slice la ts.length lc, Value.bool true, Value.bool false, Value.bool false, undef, c.eval (.tmp 36), c.eval (.tmp 37), c.eval (.tmp 38), c.eval (.tmp 39), c.eval (.tmp 40), c.eval (.tmp 41), c.eval (.tmp 42), c.eval (.tmp 43), c.eval (.tmp 44), c.eval (.tmp 45), undef, undef, undef, undef, undef, undef, undef, undef, undef, undef, undef, undef, undef, undef, undef, undef, undef, undef, undef, undef, undef, undef, undef, undef, undef, undef, undef, undef, undef, undef, undef, undef, undef, undef, undef, undef, undef, undef, undef, undef, undef, undef, undef, undef, undef, undef, undef, undef, undef, undef, undef, undef, undef, undef, undef, undef, undef, undef, undef, undef, undef, undef, undef, undef, undef, undef, undef, undef, undef, undef, undef, undef, undef, undef, undef, undef, undef, undef, undef, undef, undef, undef, undef, undef, undef, undef, undef, undef, undef, undef, undef, undef, undef, undef, undef, undef, undef, undef, undef, undef, undef, undef, undef, undef, undef, undef, undef, undef, undef, undef, undef, undef, undef, undef, undef, undef, undef, undef, undef, undef, undef, undef, undef, undef, undef, undef, undef, undef, undef, undef, undef, undef, undef, undef, undef, undef, undef, undef, undef, undef, undef, undef, undef, undef, undef, undef, undef, undef, undef, undef, undef, undef, undef, undef, undef, undef, undef, undef, undef], []⟩ := (same_lay hS).trans (by kernel_rfl)
  rw [h3t] at hl
  generalize c.eval (.tmp 36) = y36 at hl
  generalize c.eval (.tmp 37) = y37 at hl
  generalize c.eval (.tmp 38) = y38 at hl
  generalize c.eval (.tmp 39) = y39 at hl
  generalize c.eval (.tmp 40) = y40 at hl
  generalize c.eval (.tmp 41) = y41 at hl
  generalize c.eval (.tmp 42) = y42 at hl
  generalize c.eval (.tmp 43) = y43 at hl
  generalize c.eval (.tmp 44) = y44 at hl
  generalize c.eval (.tmp 45) = y45 at hl
  clear hS h3t
  subst hl
  have HK2 := hidE (And.intro hbk (And.intro hko (And.intro hkl hkm)))
  have HB2 : Hid (Below W1.heap.size W1 w2) := below_on HB0.out hbk
  clear hbk hko hkl hkm q3 q4
  go_wp2_with fail
  go_loopw [5, 4] (fun i lv wr => ∃ j : Nat, j ≤ ts.length ∧ i = .int .i64 j ∧ Below w2.heap.size w2 wr ∧ Copying w2 ts j lv wr) (fun i _ _ => ts.length - (intOf i).toNat)
  case atStart => exact ⟨0, Nat.zero_le _, rfl, Below.refl _ _, copying_start w2 ts⟩
  case round =>
    obtain ⟨j, hj, rfl, hbr, hcp⟩ := hrel
    obtain ⟨xs, hown, hrow⟩ := hcp
    have HOWN := hidE hown
    have HROW := hidE hrow
    have HBR := hidE hbr
    have HB1 : Hid (Below W1.heap.size W1 wr) := below_on HB2.out hbr
    obtain ⟨hbw, q0, q1, q2, q3, q4⟩ := HBX.out wr HB1.out
    have HBW := hidE hbw
    clear hown hrow hbr q0 q1 q2 hbw
    by_cases hlt : j < ts.length
    · obtain ⟨bl, off, rfl, hbl, hkk⟩ := (HLA.out wr HBW.out).2.1.resolve_left (by intro e; rw [e] at hlt; simp at hlt)
      obtain ⟨⟨k, b, nn, s, jks, us⟩, hx⟩ : ∃ t, ts[j]? = some t := ⟨_, List.getElem?_eq_getElem hlt⟩
      obtain ⟨ja, jc, jl, jd, ⟨c0, c1, c2, c3, c4, c5⟩, hlx⟩ := hkk.cells hx
      have HX := hidE hx
      have HC := hidE (spared_any _ D _ wr (HLA.out wr HBW.out).2.2 hlx (HTL.out.2 _ (List.mem_of_getElem? hx)))
      clear hx hkk hlx q3
      go_wp2_with fail
      refine HC.out.mono ?_
      rintro e w3 ⟨v', rfl, hsp, hb2⟩
      obtain ⟨d0, d1, d2, d3, d4, d5, rfl, hone⟩ := spare_form hsp
      obtain ⟨WA, hWA⟩ : ∃ WA, w3.alloc (.cells #[d0, d1, d2, d3, d4, d5] 26) = WA := ⟨_, rfl⟩
      have hba : Below w3.heap.size w3 WA := hWA ▸ (Below.refl _ _).alloc (Nat.le_refl _) _
      have HBA : Hid (Below wr.heap.size wr WA) := hb2.trans (hba.mono hb2.size)
      have HSP : Hid (SpareP (fun b => wr.heap.size ≤ b ∧ b < WA.heap.size) WA (.agg #[d0, d1, d2, d3, d4, d5]) (.mk k b nn s jks us)) :=
        (hsp.keep (fun b i hb => hba.cell (p := ⟨b, i, none⟩) hb.2)).mono fun b hb => ⟨hb.1, Nat.lt_of_lt_of_le hb.2 hba.size⟩
      have HOA : Hid (WA.ownsRow w2.heap.size 26 6 u4 j xs) := own_keep HOWN.out HBA.out
      have HNW : Hid (∀ q u, [d0, d1, d2, d3, d4, d5][q]? = some u → WA.cell? ((⟨w3.heap.size, 0, none⟩ : Addr).add q) = some u) := fun q u hq => by
        rw [Lib.add_plain, Nat.zero_add, ← hWA]; exact cell_new _ _ _ q _ (by simpa using hq)
      have HON := hidE hone
      have HWA := hidE hWA
      obtain ⟨i0, hi, hz0, hz1, hz2⟩ := info_parts Tryz.info26
      clear hsp hb2 hba hone hWA HC c0 c1 c2 c3 c4 c5
      go_wp2_with (at_builtin; rw [HWA.out]; refine wpList_append_lies WA rfl _ _ 24 rfl w2.heap.size 26 i0 (.agg #[.int .i64 0, .bool false, .int .i64 0, .string ⟨#[]⟩, .slice none 0 0, .slice none 0 0]) 6 88 Tryz.underlying24 hi hz0 hz1 hz2 rfl (by decide) u4 j xs rfl HOA.out ⟨w3.heap.size, 0, none⟩ 1 1 [d0, d1, d2, d3, d4, d5] rfl rfl HNW.out HON.out (by decide) (by unfold maxLen; omega) (by omega) (Nat.le_trans HBR.out.size HBA.out.size) WA.heap.size rfl ?_; intro g2 cap2 w4 q1 q2 q3 q4)
      go_roundw
      case rel =>
        refine ⟨j + 1, by omega, by go_num, ?_, ?_⟩
        · exact (HBR.out.trans (HBA.out.mono HBR.out.size)).grown q2 (Nat.le_trans HBR.out.size HBA.out.size) fun q h => (HOA.out.lt q h).1
        · exact copying_step HX.out HOWN.out HROW.out HBR.out.size HBA.out HSP.out q1 q2 (q3.imp id fun h => by omega)
      case measure => simp [intOf]; omega
    obtain rfl : j = ts.length := by omega
    obtain ⟨w4, rfl⟩ : ∃ x, x = wr := ⟨_, rfl⟩
    clear q3
    go_upto_region 9 with fail
    show (Code.region 9 RG9 true).wp _ _ _ _
    refine regionG9 w.heap.size ts.length lc w2.heap.size la u4 xs w4 _ _ ⟨rfl, rfl⟩ ⟨q4, HOWN.out, trivial, HBR.out.size, by have := HB2.out.size; have := HS1.out; omega, by omega⟩ rfl ?_
    intro c lg lcap w5 hS hlo hlgr hlp hlt1 hlm h4t
    have hl : c = ⟨#[Value.agg #[Value.bool pb, Value.int IntKind.i64 pn, Value.string ps, Value.slice ka ks.length kc, Value.slice la ts.length lc], Value.pointer (some { block := w.heap.size, off := 0 }), Value.bool false, Value.slice (some { block := kg, off := 0 }) ks.length kcap, c.eval (.tmp 4), Value.int IntKind.i64 ↑ts.length, undef, undef, undef, undef, undef, undef, undef, Value.pointer (some { block := w.heap.size, off := 2 }), Value.string ps, Value.int IntKind.i64 ↑ps.size, Value.bool false, Value.bool false, Value.pointer (some { block := w.heap.size, off := 3 }), Value.slice ka ks.length kc, Value.int IntKind.i64 ↑ks.length, Value.bool false, Value.bool false, Value.bool false, Value.pointer (some { block := w.heap.size, off := 4 }), Value.slice la ts.length lc, Value.int IntKind.i64 ↑ts.length, Value.bool false, Value.bool false, Value.bool false, Value.pointer (some { block := w.heap.size, off := 4 }), Value.slice la ts.length lc, Value.bool true, Value.bool false, Value.bool false, undef, y36, y37, y38, y39, y40, y41, y42, y43, y44, y45, Value.int IntKind.i64 ↑ts.length, Value.pointer (some { block := w.heap.size, off := 4 }), Value.slice la ts.length lc, Value.int IntKind.i64 ↑ts.length, Value.bool false, u51, u52, u53, u54, u55, u56, u57, u58, u59, u60, u61, c.eval (.tmp 62), c.eval (.tmp 63), c.eval (.tmp 64), c.eval (.tmp 65), c.eval (.tmp 66), c.eval (.tmp 67), c.eval (.tmp 68), c.eval (.tmp 69), undef, undef, undef, undef, undef, undef, undef, undef, undef, undef, undef, undef, undef, undef, undef, undef, undef, undef, undef, undef, undef, undef, undef, undef, undef, undef, undef, undef, undef, undef, undef, undef, undef, undef, undef, undef, undef, undef, undef, undef, undef, undef, undef, undef, undef, undef, undef, undef, undef, undef, undef, undef, undef, undef, undef, undef, undef, undef, undef, undef, undef, undef, undef, undef, undef, undef, undef, undef, undef, undef, undef, undef, undef, undef, undef, undef, undef, undef, undef, undef, undef, undef, undef, undef, undef, undef, undef, undef, undef, undef, undef, undef, undef, undef, undef, undef, undef, undef, undef, undef, undef, undef, undef, undef, undef, undef, undef, undef, undef, undef, undef, undef, undef, undef, undef, undef, undef, undef, undef, undef, undef, undef, undef, undef, undef, undef, undef, undef, undef, undef, undef, undef, undef, undef, undef], []⟩ := (same_lay hS).trans (by kernel_rfl)
    rw [h4t] at hl
    generalize c.eval (.tmp 62) = y62 at hl
    generalize c.eval (.tmp 63) = y63 at hl
    generalize c.eval (.tmp 64) = y64 at hl
    generalize c.eval (.tmp 65) = y65 at hl
    generalize c.eval (.tmp 66) = y66 at hl
    generalize c.eval (.tmp 67) = y67 at hl
    generalize c.eval (.tmp 68) = y68 at hl
    generalize c.eval (.tmp 69) = y69 at hl
    clear hS h4t
    subst hl
    have HMT := hidE (made_list ⟨xs, HOWN.out, HROW.out⟩ (Below.refl _ _) xs hlo hlgr HROW.out HOWN.out.1)
    have hb25 : Below w2.heap.size w2 w5 := HBR.out.grown hlgr HBR.out.size fun q h => (HOWN.out.lt q h).1
    have HB5 : Hid (Below W1.heap.size W1 w5) := HB2.out.trans (hb25.mono HB2.out.size)
    obtain ⟨hbk, hko, hkl1, hkm⟩ := HK2.out
    have hkgl : kg < w2.heap.size := (hko.lt kg rfl).2
    have HKY : Hid (∀ W, Below w5.heap.size w5 W → ∀ i u, (ks.map Value.string ++ [.string spareB])[i]? = some u → W.cell? ⟨kg, i, none⟩ = some u) := fun W hb i u hu => by
      have h0 := hko.cells (g := kg) rfl i u hu
      rw [Lib.add_plain, Nat.zero_add] at h0
      exact (hb.cell (p := ⟨kg, i, none⟩) (Nat.lt_of_lt_of_le hkgl hb25.size)).trans ((hb25.cell (p := ⟨kg, i, none⟩) hkgl).trans h0)
    have HKS : Hid (∀ i, i < ks.length → (ks.getD i ⟨#[]⟩).size ≤ maxLen) := fun i hi => by
      rcases (HLA.out w (Below.refl _ _)).1 with e | ⟨_, _, _, _, h⟩
      · rw [e] at hi; simp at hi
      · exact (h i hi).2
    have hkg5 : kg < w5.heap.size := Nat.lt_of_lt_of_le hkgl hb25.size
    have HKL : Hid (KeysLie w5.heap.size w5 (some ⟨kg, 0, none⟩) ks) := .inr ⟨kg, 0, rfl, hkg5, fun i hi => ⟨by rw [Nat.zero_add]; exact HKY.out w5 (Below.refl _ _) i _ (by rw [List.getElem?_append_left (by simpa using hi), List.getElem?_map, List.getElem?_eq_getElem hi, List.getD_eq_getElem?_getD, List.getElem?_eq_getElem hi]; rfl), HKS.out i hi⟩⟩
    have HMP := hidE (map_any ks ts w5.heap.size (some ⟨kg, 0, none⟩) kcap (some ⟨lg, 0, none⟩) lcap w5 (Nat.le_refl _) HKL.out HMT.out.lies (by omega) (by omega) (by omega) (by omega) (fun t ht => by have := HTL.out.2 t ht; omega))
    have HCAP := hidE (And.intro hkm hlm)
    have hk60 : ks.length ≤ 1000 := by omega
    have ht60 : ts.length ≤ 1000 := by omega
    clear hlo hlgr hlp hb25 hbk hko hkgl hkm hlm q4 HOWN HROW HBR HK2 hkg5
    go_wp2_with fail
    refine HMP.out.mono ?_
    rintro e w6 ⟨hmt, hb6⟩
    obtain ⟨mv, en, TM, rfl, hlm6, his⟩ := mapTo_is hmt
    obtain ⟨mk', mb, mn, mx, ma, mm, mc, ml, mo, md, rfl⟩ := lies_form hlm6.lie
    obtain ⟨W7, hW7⟩ : ∃ W7, w6.alloc (.cells #[.int .i64 mk', .bool mb, .int .i64 mn, .string mx, .slice ma mm mc, .slice ml mo md] 26) = W7 := ⟨_, rfl⟩
    have hb67 : Below w6.heap.size w6 W7 := hW7 ▸ (Below.refl _ _).alloc (Nat.le_refl _) _
    have hq7 : W7.heap[w6.heap.size]? = some (.cells #[.int .i64 mk', .bool mb, .int .i64 mn, .string mx, .slice ma mm mc, .slice ml mo md] 26 (0, 0)) := hW7 ▸ World.alloc_heap_new _ _
    have hb57 : Below w5.heap.size w5 W7 := below_on hb6 hb67
    obtain ⟨hbw7, q0, q1, q2, q3, q4⟩ := HBX.out W7 (HB5.out.trans (hb57.mono HB5.out.size))
    have HRM := hidE (refMap_any ks ts D ka kc la lc W7 (HLA.out W7 hbw7).2.2 (HLA.out W7 hbw7).1 (HLA.out W7 hbw7).2.1 h1 h3 hk60 ht60)
    have H7 := hidE (And.intro hb6 (And.intro hlm6 (And.intro his (And.intro hq7 (And.intro hb67 hb57)))))
    have HW7 := hidE hW7
    rw [← hW7] at q3 q4
    clear hmt hb6 hlm6 his hW7 hb67 hq7 hb57 hbw7 q0 q1 q2 HMP
    go_wp2_with fail
    rw [HW7.out]
    refine HRM.out.mono ?_
    rintro e w8 ⟨hmt, hb8⟩
    obtain ⟨rv, en', TR, rfl, hlr8, his'⟩ := rmapTo_is hmt
    obtain ⟨e1, e2⟩ := MapIs.one H7.out.2.2.1 his'
    replace e1 := e1.symm
    replace e2 := e2.symm
    subst e1 e2
    obtain ⟨rk, rb, rn, rx, ra, rm, rc, rl, ro, rd, rfl⟩ := lies_form hlr8
    obtain ⟨W9, hW9⟩ : ∃ W9, w8.alloc (.cells #[.int .i64 rk, .bool rb, .int .i64 rn, .string rx, .slice ra rm rc, .slice rl ro rd] 26) = W9 := ⟨_, rfl⟩
    have hb89 : Below w8.heap.size w8 W9 := hW9 ▸ (Below.refl _ _).alloc (Nat.le_refl _) _
    have hq9 : W9.heap[w8.heap.size]? = some (.cells #[.int .i64 rk, .bool rb, .int .i64 rn, .string rx, .slice ra rm rc, .slice rl ro rd] 26 (0, 0)) := hW9 ▸ World.alloc_heap_new _ _
    have hb79 : Below W7.heap.size W7 W9 := below_on hb8 hb89
    have hb59 : Below w5.heap.size w5 W9 := below_on H7.out.2.2.2.2.2 hb79
    have HLI := hidE (list_anyF ts w5.heap.size (some ⟨lg, 0, none⟩) lcap W9 hb59.size (HMT.out.lies.below hb59) (by omega) HCAP.out.2 HTL.out.1)
    have H9 := hidE (And.intro hlr8 (And.intro hb89 (And.intro hq9 (And.intro hb79 hb59))))
    have HSZ8 := hidE hb8.size
    have HW9 := hidE hW9
    clear hmt hb8 hlr8 his' hW9 hb89 hq9 hb79 hb59 HRM q3 q4
    go_wp2_with fail
    rw [HW9.out]
    refine HLI.out.mono ?_
    rintro e w10 ⟨xv, rfl, hlx10, hb10⟩
    obtain ⟨xk, xb, xn, xx, xa, xm, xc, xl, xo, xd, rfl⟩ := lies_form hlx10.lie
    obtain ⟨W11, hW11⟩ : ∃ W11, w10.alloc (.cells #[.int .i64 xk, .bool xb, .int .i64 xn, .string xx, .slice xa xm xc, .slice xl xo xd] 26) = W11 := ⟨_, rfl⟩
    have hb1011 : Below w10.heap.size w10 W11 := hW11 ▸ (Below.refl _ _).alloc (Nat.le_refl _) _
    have hq11 : W11.heap[w10.heap.size]? = some (.cells #[.int .i64 xk, .bool xb, .int .i64 xn, .string xx, .slice xa xm xc, .slice xl xo xd] 26 (0, 0)) := hW11 ▸ World.alloc_heap_new _ _
    have hb911 : Below W9.heap.size W9 W11 := below_on hb10 hb1011
    have hb711 : Below W7.heap.size W7 W11 := below_on H9.out.2.2.2.1 hb911
    have hb511 : Below w5.heap.size w5 W11 := below_on H7.out.2.2.2.2.2 hb711
    have hsz : w6.heap.size < W7.heap.size ∧ w8.heap.size < W9.heap.size ∧ w10.heap.size < W11.heap.size ∧ W7.heap.size ≤ W9.heap.size ∧ W9.heap.size ≤ w10.heap.size ∧ w5.heap.size ≤ w6.heap.size ∧ W1.heap.size ≤ w5.heap.size ∧ W7.heap.size ≤ w8.heap.size :=
      ⟨(Array.getElem?_eq_some_iff.1 H7.out.2.2.2.1).1, (Array.getElem?_eq_some_iff.1 H9.out.2.2.1).1, (Array.getElem?_eq_some_iff.1 hq11).1, H9.out.2.2.2.1.size, hb10.size, H7.out.1.size, HB5.out.size, HSZ8.out⟩
    have hm11 : W11.heap[w6.heap.size]? = some (.cells #[.int .i64 mk', .bool mb, .int .i64 mn, .string mx, .slice ma mm mc, .slice ml mo md] 26 (0, 0)) := (hb711.block _ (by omega)).trans H7.out.2.2.2.1
    have hr11 : W11.heap[w8.heap.size]? = some (.cells #[.int .i64 rk, .bool rb, .int .i64 rn, .string rx, .slice ra rm rc, .slice rl ro rd] 26 (0, 0)) := (hb911.block _ (by omega)).trans H9.out.2.2.1
    have HW : Hid (∀ W, Below W11.heap.size W11 W → WorldQ13 w.heap.size w6.heap.size w8.heap.size w10.heap.size kg ks.length kcap kc lg ts.length lcap lc ka la en _ _ _ _ _ _ _ _ _ _ _ _ _ _ _ _ _ _ W) := fun W hb => by
      have hm := (hb.block _ (by omega)).trans hm11
      have hr := (hb.block _ (by omega)).trans hr11
      have hx := (hb.block _ (by omega)).trans hq11
      have hb5W : Below w5.heap.size w5 W := below_on hb511 hb
      obtain ⟨hbwW, q0, q1, q2, q3, q4⟩ := HBX.out W (HB5.out.trans (hb5W.mono HB5.out.size))
      have hb7W : Below W7.heap.size W7 W := below_on hb711 hb
      have hb9W : Below W9.heap.size W9 W := below_on hb911 hb
      refine ⟨box_cell hm (i := 0) rfl, box_cell hm (i := 1) rfl, box_cell hm (i := 2) rfl, box_cell hm (i := 3) rfl, box_cell hm (i := 4) rfl, box_cell hm (i := 5) rfl, box_cell hr (i := 0) rfl, box_cell hr (i := 1) rfl, box_cell hr (i := 2) rfl, box_cell hr (i := 3) rfl, box_cell hr (i := 4) rfl, box_cell hr (i := 5) rfl, box_cell hx (i := 0) rfl, box_cell hx (i := 1) rfl, box_cell hx (i := 2) rfl, box_cell hx (i := 3) rfl, box_cell hx (i := 4) rfl, box_cell hx (i := 5) rfl, q3, q4, HKY.out W hb5W _ _ (by rw [List.getElem?_append_right (by simp)]; simp), (HMT.out.below hb5W).last, ?_, num_any en W, ?_, by omega, hk60, by omega, ht60⟩
      · refine alike_any TM W.heap.size _ _ W (Nat.le_refl _) ?_ ?_
        · exact (((H7.out.2.1.lie).below (H7.out.2.2.2.2.1)).below (hb7W.mono (by omega))).mono (by have := hb.size; omega)
        · exact ((H9.out.1.below H9.out.2.1).below (hb9W.mono (by omega))).mono (by have := hb.size; omega)
      · refine alike_any (.mk 4 false 0 ⟨#[]⟩ [] ts) W.heap.size _ _ W (Nat.le_refl _) ?_ ?_
        · exact (((hlx10.mono (Nat.zero_le _) (Nat.le_refl _)).lie.below hb1011).below (hb.mono (by omega))).mono (by have := hb.size; omega)
        · simp only [Lies]
          exact ⟨none, 0, la, lc, rfl, ⟨by decide, Nat.le_refl _, by decide, h3, HM.out.2.1⟩, .inl rfl, (HLA.out W hbwW).2.1.imp id fun ⟨bl, off, e1, e2, e3⟩ => ⟨bl, off, e1, by have := (HLA.out W hbwW).2.2; omega, e3.mono (HLA.out W hbwW).2.2⟩⟩
    have H11 := hidE (And.intro hlx10 (And.intro hb10 (And.intro hb1011 (And.intro hq11 (And.intro hb711 (And.intro hb911 (And.intro hb511 (And.intro hsz (And.intro hm11 hr11)))))))))
    have HW11 := hidE hW11
    clear hlx10 hb10 hb1011 hq11 hb711 hb911 hb511 hsz hm11 hr11 hW11 HLI
    go_upto_region 13 with fail
    rw [HW11.out]
    show (Code.region 13 RQ13 true).wp _ _ _ _
    refine regionQ13 w.heap.size w6.heap.size w8.heap.size w10.heap.size kg ks.length kcap kc lg ts.length lcap lc ka la en _ _ _ _ _ _ _ _ _ _ _ _ _ _ _ _ _ _ _ _ W11 rfl ⟨rfl, rfl, rfl, rfl, rfl, rfl, rfl, rfl⟩ HW.out ?_
    intro c w12 hS hb12 h132
    have hl : c = ⟨#[Value.agg #[Value.bool pb, Value.int IntKind.i64 pn, Value.string ps, Value.slice ka ks.length kc, Value.slice la ts.length lc], Value.pointer (some { block := w.heap.size, off := 0 }), Value.bool false, Value.slice (some { block := kg, off := 0 }) ks.length kcap, Value.slice (some { block := lg, off := 0 }) ts.length lcap, Value.int IntKind.i64 ↑ts.length, Value.pointer (some { block := w6.heap.size, off := 0 }), Value.int IntKind.i64 en, Value.pointer (some { block := w8.heap.size, off := 0 }), Value.int IntKind.i64 en, Value.pointer (some { block := w10.heap.size, off := 0 }), undef, undef, Value.pointer (some { block := w.heap.size, off := 2 }), Value.string ps, Value.int IntKind.i64 ↑ps.size, Value.bool false, Value.bool false, Value.pointer (some { block := w.heap.size, off := 3 }), Value.slice ka ks.length kc, Value.int IntKind.i64 ↑ks.length, Value.bool false, Value.bool false, Value.bool false, Value.pointer (some { block := w.heap.size, off := 4 }), Value.slice la ts.length lc, Value.int IntKind.i64 ↑ts.length, Value.bool false, Value.bool false, Value.bool false, Value.pointer (some { block := w.heap.size, off := 4 }), Value.slice la ts.length lc, Value.bool true, Value.bool false, Value.bool false, undef, y36, y37, y38, y39, y40, y41, y42, y43, y44, y45, Value.int IntKind.i64 ↑ts.length, Value.pointer (some { block := w.heap.size, off := 4 }), Value.slice la ts.length lc, Value.int IntKind.i64 ↑ts.length, Value.bool false, u51, u52, u53, u54, u55, u56, u57, u58, u59, u60, u61, y62, y63, y64, y65, y66, y67, y68, y69, Value.tuple #[Value.agg #[Value.int IntKind.i64 mk', Value.bool mb, Value.int IntKind.i64 mn, Value.string mx, Value.slice ma mm mc, Value.slice ml mo md], Value.int IntKind.i64 en], Value.slice (some { block := kg, off := 0 }) ks.length kcap, Value.slice (some { block := lg, off := 0 }) ts.length lcap, Value.tuple #[Value.agg #[Value.int IntKind.i64 mk', Value.bool mb, Value.int IntKind.i64 mn, Value.string mx, Value.slice ma mm mc, Value.slice ml mo md], Value.int IntKind.i64 en], Value.agg #[Value.int IntKind.i64 mk', Value.bool mb, Value.int IntKind.i64 mn, Value.string mx, Value.slice ma mm mc, Value.slice ml mo md], Value.int IntKind.i64 en, Value.tuple #[Value.agg #[Value.int IntKind.i64 rk, Value.bool rb, Value.int IntKind.i64 rn, Value.string rx, Value.slice ra rm rc, Value.slice rl ro rd], Value.int IntKind.i64 en], Value.pointer (some { block := w.heap.size, off := 3 }), Value.slice ka ks.length kc, Value.pointer (some { block := w.heap.size, off := 4 }), Value.slice la ts.length lc, Value.tuple #[Value.agg #[Value.int IntKind.i64 rk, Value.bool rb, Value.int IntKind.i64 rn, Value.string rx, Value.slice ra rm rc, Value.slice rl ro rd], Value.int IntKind.i64 en], Value.agg #[Value.int IntKind.i64 rk, Value.bool rb, Value.int IntKind.i64 rn, Value.string rx, Value.slice ra rm rc, Value.slice rl ro rd], Value.int IntKind.i64 en, Value.slice (some { block := lg, off := 0 }) ts.length lcap, Value.agg #[Value.int IntKind.i64 xk, Value.bool xb, Value.int IntKind.i64 xn, Value.string xx, Value.slice xa xm xc, Value.slice xl xo xd], c.eval (.tmp 86), c.eval (.tmp 87), c.eval (.tmp 88), c.eval (.tmp 89), c.eval (.tmp 90), c.eval (.tmp 91), c.eval (.tmp 92), c.eval (.tmp 93), c.eval (.tmp 94), c.eval (.tmp 95), c.eval (.tmp 96), c.eval (.tmp 97), c.eval (.tmp 98), c.eval (.tmp 99), c.eval (.tmp 100), c.eval (.tmp 101), c.eval (.tmp 102), c.eval (.tmp 103), c.eval (.tmp 104), c.eval (.tmp 105), c.eval (.tmp 106), c.eval (.tmp 107), c.eval (.tmp 108), c.eval (.tmp 109), c.eval (.tmp 110), c.eval (.tmp 111), c.eval (.tmp 112), c.eval (.tmp 113), c.eval (.tmp 114), c.eval (.tmp 115), c.eval (.tmp 116), c.eval (.tmp 117), c.eval (.tmp 118), c.eval (.tmp 119), c.eval (.tmp 120), c.eval (.tmp 121), c.eval (.tmp 122), c.eval (.tmp 123), c.eval (.tmp 124), c.eval (.tmp 125), c.eval (.tmp 126), c.eval (.tmp 127), c.eval (.tmp 128), c.eval (.tmp 129), c.eval (.tmp 130), c.eval (.tmp 131), c.eval (.tmp 132), undef, undef, undef, undef, undef, undef, undef, undef, undef, undef, undef, undef, undef, undef, undef, undef, undef, undef, undef, undef, undef, undef, undef, undef, undef, undef, undef, undef, undef, undef, undef, undef, undef, undef, undef, undef, undef, undef, undef, undef, undef, undef, undef, undef, undef, undef, undef, undef, undef, undef, undef, undef, undef, undef, undef, undef, undef, undef, undef, undef, undef, undef, undef, undef, undef, undef, undef, undef, undef, undef, undef, undef], []⟩ := (same_lay hS).trans (by kernel_rfl)
    rw [h132] at hl
    generalize c.eval (.tmp 86) = y86 at hl
    generalize c.eval (.tmp 87) = y87 at hl
    generalize c.eval (.tmp 88) = y88 at hl
    generalize c.eval (.tmp 89) = y89 at hl
    generalize c.eval (.tmp 90) = y90 at hl
    generalize c.eval (.tmp 91) = y91 at hl
    generalize c.eval (.tmp 92) = y92 at hl
    generalize c.eval (.tmp 93) = y93 at hl
    generalize c.eval (.tmp 94) = y94 at hl
    generalize c.eval (.tmp 95) = y95 at hl
    generalize c.eval (.tmp 96) = y96 at hl
    generalize c.eval (.tmp 97) = y97 at hl
    generalize c.eval (.tmp 98) = y98 at hl
    generalize c.eval (.tmp 99) = y99 at hl
    generalize c.eval (.tmp 100) = y100 at hl
    generalize c.eval (.tmp 101) = y101 at hl
    generalize c.eval (.tmp 102) = y102 at hl
    generalize c.eval (.tmp 103) = y103 at hl
    generalize c.eval (.tmp 104) = y104 at hl
    generalize c.eval (.tmp 105) = y105 at hl
    generalize c.eval (.tmp 106) = y106 at hl
    generalize c.eval (.tmp 107) = y107 at hl
    generalize c.eval (.tmp 108) = y108 at hl
    generalize c.eval (.tmp 109) = y109 at hl
    generalize c.eval (.tmp 110) = y110 at hl
    generalize c.eval (.tmp 111) = y111 at hl
    generalize c.eval (.tmp 112) = y112 at hl
    generalize c.eval (.tmp 113) = y113 at hl
    generalize c.eval (.tmp 114) = y114 at hl
    generalize c.eval (.tmp 115) = y115 at hl
    generalize c.eval (.tmp 116) = y116 at hl
    generalize c.eval (.tmp 117) = y117 at hl
    generalize c.eval (.tmp 118) = y118 at hl
    generalize c.eval (.tmp 119) = y119 at hl
    generalize c.eval (.tmp 120) = y120 at hl
    generalize c.eval (.tmp 121) = y121 at hl
    generalize c.eval (.tmp 122) = y122 at hl
    generalize c.eval (.tmp 123) = y123 at hl
    generalize c.eval (.tmp 124) = y124 at hl
    generalize c.eval (.tmp 125) = y125 at hl
    generalize c.eval (.tmp 126) = y126 at hl
    generalize c.eval (.tmp 127) = y127 at hl
    generalize c.eval (.tmp 128) = y128 at hl
    generalize c.eval (.tmp 129) = y129 at hl
    generalize c.eval (.tmp 130) = y130 at hl
    generalize c.eval (.tmp 131) = y131 at hl
    clear hS h132
    subst hl
    obtain ⟨hlx10, hb10, hb1011, hq11, hb711, hb911, hb511, hsz, hm11, hr11⟩ := H11.out
    have hm12 := (hb12.block _ (by omega)).trans hm11
    have hx12 := (hb12.block _ (by omega)).trans hq11
    have y0 := box_cell hm12 (i := 0) rfl
    have y1 := box_cell hm12 (i := 1) rfl
    have y2 := box_cell hm12 (i := 2) rfl
    have y3 := box_cell hm12 (i := 3) rfl
    have y4 := box_cell hm12 (i := 4) rfl
    have y5 := box_cell hm12 (i := 5) rfl
    have hb612 : Below w6.heap.size w6 w12 := ((H7.out.2.2.2.2.1).trans (hb711.mono (by omega))).trans (hb12.mono (by omega))
    have HSP1 := hidE (spoil_any TM w5.heap.size w6.heap.size _ w12 (by omega) hb612.size (LiesF.sp (H7.out.2.1.keep (keepsF_of fun b _ h2 => hb612.block b h2))))
    have hb512 : Below w5.heap.size w5 w12 := hb511.trans (hb12.mono (by omega))
    have hb1012 : Below w10.heap.size w10 w12 := hb1011.trans (hb12.mono (by omega))
    have H12 := hidE (And.intro hx12 (And.intro hb512 hb1012))
    clear hlx10 hb10 hb1011 hq11 hb711 hb911 hb511 hm11 hr11 hm12 hx12 hb12 hb612 hb512 hb1012 HW
    have HSZ := hidE hsz
    clear hsz
    go_wp2_with fail
    refine HSP1.out.mono ?_
    rintro e w13 ⟨⟨vv, rfl⟩, hsoft⟩
    obtain ⟨hx12, hb512, hb1012⟩ := H12.out
    obtain ⟨z1, z2, z3, z4, z5, z6, z7, z8⟩ := HSZ.out
    have hx13 := (hsoft.out w10.heap.size (by omega) ((Array.getElem?_eq_some_iff.1 hx12).1)).trans hx12
    clear y0 y1 y2 y3 y4 y5
    have y0 := box_cell hx13 (i := 0) rfl
    have y1 := box_cell hx13 (i := 1) rfl
    have y2 := box_cell hx13 (i := 2) rfl
    have y3 := box_cell hx13 (i := 3) rfl
    have y4 := box_cell hx13 (i := 4) rfl
    have y5 := box_cell hx13 (i := 5) rfl
    have hk13 : ∀ b, W9.heap.size ≤ b → b < w10.heap.size → w13.heap[b]? = w10.heap[b]? := fun b g1 g2 => (hsoft.out b (by omega) (Nat.lt_of_lt_of_le g2 hb1012.size)).trans (hb1012.block b g2)
    have hs13 : w10.heap.size ≤ w13.heap.size := Nat.le_trans hb1012.size hsoft.below.size
    have HSP2 := hidE (spoil_any (.mk 4 false 0 ⟨#[]⟩ [] ts) W9.heap.size w10.heap.size _ w13 z5 hs13 (LiesF.sp (H11.out.1.keep (keepsF_of fun b g1 g2 => hk13 b g1 g2))))
    have H13 : Hid (Below w5.heap.size w5 w13) := hb512.trans hsoft.below
    clear hsoft hx12 hb512 hb1012 hx13 hk13 hs13 z1 z2 z3 z4 z5 z6 z7 z8 HSP1
    go_wp2_with fail
    refine HSP2.out.mono ?_
    rintro e w14 ⟨⟨vv', rfl⟩, hsoft⟩
    have HB14 : Hid (Below w5.heap.size w5 w14) := H13.out.trans (hsoft.below.mono (by have := HSZ.out; omega))
    clear hsoft y0 y1 y2 y3 y4 y5 HSP2 H13
    have HFX : Hid (∀ W, Below w5.heap.size w5 W → Below w.heap.size w W ∧ W.cell? ⟨w.heap.size, 0, none⟩ = some (.bool pb) ∧ W.cell? ⟨w.heap.size, 1, none⟩ = some (.int .i64 pn) ∧ W.cell? ⟨w.heap.size, 2, none⟩ = some (.string ps) ∧ W.cell? ⟨w.heap.size, 3, none⟩ = some (.slice ka ks.length kc) ∧ W.cell? ⟨w.heap.size, 4, none⟩ = some (.slice la ts.length lc)) := fun W hb => HBX.out W (HB5.out.trans (hb.mono HB5.out.size))
    obtain ⟨hbw14, q0, q1, q2, q3, q4⟩ := HFX.out w14 HB14.out
    clear q0 q1 q2 q4 hbw14
    go_wp2_with fail
    go_loopw [11] (fun i wr => ∃ j : Nat, j ≤ ks.length ∧ i = .int .i64 j ∧ Below w5.heap.size w5 wr) (fun i _ => ks.length - (intOf i).toNat)
    case atStart => exact ⟨0, Nat.zero_le _, rfl, HB14.out⟩
    case round =>
      obtain ⟨j, hj, rfl, hbj⟩ := hrel
      obtain ⟨w15, rfl⟩ : ∃ x, x = wr := ⟨_, rfl⟩
      have HB15 := hidE hbj
      clear hbj q3
      obtain ⟨hbw15, q0, q1, q2, q3, q4⟩ := HFX.out w15 HB15.out
      by_cases hlt : j < ks.length
      · obtain ⟨bk, off, rfl, hbk, hkey⟩ := (HLA.out w15 hbw15).1.resolve_left (by intro e; rw [e] at hlt; simp at hlt)
        have hk1 : w15.cell? ⟨bk, off + j, none⟩ = some (.string (ks.getD j ⟨#[]⟩)) := (hkey j hlt).1
        have hk2 : w15.cell? ⟨kg, j, none⟩ = some (.string (ks.getD j ⟨#[]⟩)) := by
          have h0 := HKY.out w5 (Below.refl _ _) j (.string (ks.getD j ⟨#[]⟩)) (by rw [List.getElem?_append_left (by simpa using hlt), List.getElem?_map, List.getElem?_eq_getElem hlt, List.getD_eq_getElem?_getD, List.getElem?_eq_getElem hlt]; rfl)
          exact (HB15.out.cell (p := ⟨kg, j, none⟩) (lt_of_cell h0)).trans h0
        generalize ks.getD j ⟨#[]⟩ = kk at *
        have hse : (kk.toList == kk.toList) = true := by simp
        have HB16 : Hid (∀ d, Below w5.heap.size w5 (w15.drewN d)) := fun d => below_drewN' HB15.out d
        clear hkey q0 q1 q2 q4 hbw15
        go_upto_region 20 with fail
        go_quiet (fail)
        go_wp2_with fail
        go_roundw
        case rel => exact ⟨j + 1, by omega, by go_num, HB16.out _⟩
        case measure => simp [intOf]; omega
      · clear q0 q1 q2 hbw15
        go_wp2_with fail
        go_loopw [12] (fun i wr => ∃ q : Nat, q ≤ ts.length ∧ i = .int .i64 q ∧ Below w5.heap.size w5 wr) (fun i _ => ts.length - (intOf i).toNat)
        case atStart => exact ⟨0, Nat.zero_le _, rfl, HB15.out⟩
        case round =>
          obtain ⟨q, hq, rfl, hbq⟩ := hrel
          obtain ⟨w20, rfl⟩ : ∃ x, x = wr := ⟨_, rfl⟩
          have HB20 := hidE hbq
          obtain ⟨hbw20, q0, q1, q2, q3, q4⟩ := HFX.out w20 hbq
          have HBW20 := hidE hbw20
          clear hbq hbw20 q3
          by_cases hlq : q < ts.length
          · obtain ⟨TT, hx⟩ : ∃ t, ts[q]? = some t := ⟨_, List.getElem?_eq_getElem hlq⟩
            obtain ⟨bl, off, rfl, hbl, hkk⟩ := (HLA.out w20 HBW20.out).2.1.resolve_left (by intro e; rw [e] at hlq; simp at hlq)
            obtain ⟨k, b, nn, s, jks, us⟩ := TT
            obtain ⟨ja, jc, jl, jd, ⟨c0, c1, c2, c3, c4, c5⟩, hlx⟩ := hkk.cells hx
            obtain ⟨m0, m1, m2, m3, m4, m5, ⟨d0, d1, d2, d3, d4, d5⟩, hsp⟩ := (HMT.out.below HB20.out).kids.at hx
            simp only [Nat.zero_add] at d0 d1 d2 d3 d4 d5
            have HKP : Hid (∀ W, Below w20.heap.size w20 W → Calls Tryz.prog 29 #[.agg #[m0, m1, m2, m3, m4, m5], .agg #[.int .i64 k, .bool b, .int .i64 nn, .string s, .slice ja jks.length jc, .slice jl us.length jd]] W fun e w' => e = .returned (.bool true) ∧ Below W.heap.size W w') := fun W hb =>
              kept_any _ w5.heap.size _ _ W (Nat.le_trans HB20.out.size hb.size) (Spare.below (hb.mono HB20.out.size) hsp) ((hlx.mono (by have := (HFX.out w5 (Below.refl _ _)).1.size; omega)).below (hb.mono HB20.out.size))
            clear hx hkk hlx hsp hbl q0 q1 q2
            go_wp2_with fail
            have HC1 := hidE (HKP.out w20.drew (Below.refl _ w20).drew)
            go_region_with (go_at_call 29; refine HC1.out.mono ?_; rintro e w21 ⟨rfl, hb21⟩)
            all_goals
              have HB21 : Hid (Below w5.heap.size w5 w21) := HB20.out.trans (((Below.refl _ w20).drew.trans hb21).mono HB20.out.size)
              clear hb21 HC1 c0 c1 c2 c3 c4 c5 d0 d1 d2 d3 d4 d5
              go_wp2_with fail
              go_roundw
              case rel => exact ⟨q + 1, by omega, by go_num, HB21.out⟩
              case measure => simp [intOf]; omega
          · have HW27 : Hid (∀ W, Below w20.heap.size w20 W → WorldQ27 w.heap.size pb pn ps W) := fun W hb => by
              obtain ⟨hbwW, q0, q1, q2, _, _⟩ := HFX.out W (HB20.out.trans (hb.mono HB20.out.size))
              exact ⟨q0, q1, q2, null_any W, bool_any pb W, int_any pn W, string_any ps W, leaf_alike 0 false 0 ⟨#[]⟩ (by decide) W, leaf_alike 1 pb 0 ⟨#[]⟩ (by decide) W, leaf_alike 2 false pn ⟨#[]⟩ (by decide) W, leaf_alike 3 false 0 ps HM.out.2.2 W, HWK.out W hbwW⟩
            clear q0 q1 q2
            go_upto_region 27 with fail
            show (Code.region 27 RQ27 true).wp _ _ _ _
            refine regionQ27 w.heap.size pb pn ps _ _ w20 rfl ⟨rfl⟩ HW27.out ?_
            intro c w21 hS hb21 h2t
            have hl : c = ⟨#[Value.agg #[Value.bool pb, Value.int IntKind.i64 pn, Value.string ps, Value.slice ka ks.length kc, Value.slice la ts.length lc], Value.pointer (some { block := w.heap.size, off := 0 }), c.eval (.tmp 2), Value.slice (some { block := kg, off := 0 }) ks.length kcap, Value.slice (some { block := lg, off := 0 }) ts.length lcap, Value.int IntKind.i64 ↑ts.length, Value.pointer (some { block := w6.heap.size, off := 0 }), Value.int IntKind.i64 en, Value.pointer (some { block := w8.heap.size, off := 0 }), Value.int IntKind.i64 en, Value.pointer (some { block := w10.heap.size, off := 0 }), Value.int IntKind.i64 ↑j, Value.int IntKind.i64 ↑q, Value.pointer (some { block := w.heap.size, off := 2 }), Value.string ps, Value.int IntKind.i64 ↑ps.size, Value.bool false, Value.bool false, Value.pointer (some { block := w.heap.size, off := 3 }), Value.slice ka ks.length kc, Value.int IntKind.i64 ↑ks.length, Value.bool false, Value.bool false, Value.bool false, Value.pointer (some { block := w.heap.size, off := 4 }), Value.slice la ts.length lc, Value.int IntKind.i64 ↑ts.length, Value.bool false, Value.bool false, Value.bool false, Value.pointer (some { block := w.heap.size, off := 4 }), Value.slice la ts.length lc, Value.bool true, Value.bool false, Value.bool false, undef, y36, y37, y38, y39, y40, y41, y42, y43, y44, y45, Value.int IntKind.i64 ↑ts.length, Value.pointer (some { block := w.heap.size, off := 4 }), Value.slice la ts.length lc, Value.int IntKind.i64 ↑ts.length, Value.bool false, u51, u52, u53, u54, u55, u56, u57, u58, u59, u60, u61, y62, y63, y64, y65, y66, y67, y68, y69, Value.tuple #[Value.agg #[Value.int IntKind.i64 mk', Value.bool mb, Value.int IntKind.i64 mn, Value.string mx, Value.slice ma mm mc, Value.slice ml mo md], Value.int IntKind.i64 en], Value.slice (some { block := kg, off := 0 }) ks.length kcap, Value.slice (some { block := lg, off := 0 }) ts.length lcap, Value.tuple #[Value.agg #[Value.int IntKind.i64 mk', Value.bool mb, Value.int IntKind.i64 mn, Value.string mx, Value.slice ma mm mc, Value.slice ml mo md], Value.int IntKind.i64 en], Value.agg #[Value.int IntKind.i64 mk', Value.bool mb, Value.int IntKind.i64 mn, Value.string mx, Value.slice ma mm mc, Value.slice ml mo md], Value.int IntKind.i64 en, Value.tuple #[Value.agg #[Value.int IntKind.i64 rk, Value.bool rb, Value.int IntKind.i64 rn, Value.string rx, Value.slice ra rm rc, Value.slice rl ro rd], Value.int IntKind.i64 en], Value.pointer (some { block := w.heap.size, off := 3 }), Value.slice ka ks.length kc, Value.pointer (some { block := w.heap.size, off := 4 }), Value.slice la ts.length lc, Value.tuple #[Value.agg #[Value.int IntKind.i64 rk, Value.bool rb, Value.int IntKind.i64 rn, Value.string rx, Value.slice ra rm rc, Value.slice rl ro rd], Value.int IntKind.i64 en], Value.agg #[Value.int IntKind.i64 rk, Value.bool rb, Value.int IntKind.i64 rn, Value.string rx, Value.slice ra rm rc, Value.slice rl ro rd], Value.int IntKind.i64 en, Value.slice (some { block := lg, off := 0 }) ts.length lcap, Value.agg #[Value.int IntKind.i64 xk, Value.bool xb, Value.int IntKind.i64 xn, Value.string xx, Value.slice xa xm xc, Value.slice xl xo xd], y86, y87, y88, y89, y90, y91, y92, y93, y94, y95, y96, y97, y98, y99, y100, y101, y102, y103, y104, y105, y106, y107, y108, y109, y110, y111, y112, y113, y114, y115, y116, y117, y118, y119, y120, y121, y122, y123, y124, y125, y126, y127, y128, y129, y130, y131, Value.bool false, Value.agg #[Value.int IntKind.i64 mk', Value.bool mb, Value.int IntKind.i64 mn, Value.string mx, Value.slice ma mm mc, Value.slice ml mo md], vv, Value.agg #[Value.int IntKind.i64 xk, Value.bool xb, Value.int IntKind.i64 xn, Value.string xx, Value.slice xa xm xc, Value.slice xl xo xd], vv', Value.int IntKind.i64 ↑j, Value.pointer (some { block := w.heap.size, off := 3 }), Value.slice ka ks.length kc, Value.int IntKind.i64 ↑ks.length, Value.bool false, u142, u143, u144, u145, u146, u147, u148, u149, u150, u151, u152, u153, Value.int IntKind.i64 ↑q, Value.pointer (some { block := w.heap.size, off := 4 }), Value.slice la ts.length lc, Value.int IntKind.i64 ↑ts.length, Value.bool false, u159, u160, u161, u162, u163, u164, u165, u166, u167, u168, u169, u170, u171, c.eval (.tmp 172), c.eval (.tmp 173), c.eval (.tmp 174), c.eval (.tmp 175), c.eval (.tmp 176), c.eval (.tmp 177), c.eval (.tmp 178), c.eval (.tmp 179), c.eval (.tmp 180), c.eval (.tmp 181), c.eval (.tmp 182), c.eval (.tmp 183), c.eval (.tmp 184), c.eval (.tmp 185), c.eval (.tmp 186), c.eval (.tmp 187), c.eval (.tmp 188), c.eval (.tmp 189), c.eval (.tmp 190), c.eval (.tmp 191), c.eval (.tmp 192), c.eval (.tmp 193), c.eval (.tmp 194), c.eval (.tmp 195), c.eval (.tmp 196), c.eval (.tmp 197), c.eval (.tmp 198), c.eval (.tmp 199), c.eval (.tmp 200), c.eval (.tmp 201), c.eval (.tmp 202), c.eval (.tmp 203), c.eval (.tmp 204)], []⟩ := (same_lay hS).trans (by kernel_rfl)
            rw [h2t] at hl
            generalize c.eval (.tmp 172) = y172 at hl
            generalize c.eval (.tmp 173) = y173 at hl
            generalize c.eval (.tmp 174) = y174 at hl
            generalize c.eval (.tmp 175) = y175 at hl
            generalize c.eval (.tmp 176) = y176 at hl
            generalize c.eval (.tmp 177) = y177 at hl
            generalize c.eval (.tmp 178) = y178 at hl
            generalize c.eval (.tmp 179) = y179 at hl
            generalize c.eval (.tmp 180) = y180 at hl
            generalize c.eval (.tmp 181) = y181 at hl
            generalize c.eval (.tmp 182) = y182 at hl
            generalize c.eval (.tmp 183) = y183 at hl
            generalize c.eval (.tmp 184) = y184 at hl
            generalize c.eval (.tmp 185) = y185 at hl
            generalize c.eval (.tmp 186) = y186 at hl
            generalize c.eval (.tmp 187) = y187 at hl
            generalize c.eval (.tmp 188) = y188 at hl
            generalize c.eval (.tmp 189) = y189 at hl
            generalize c.eval (.tmp 190) = y190 at hl
            generalize c.eval (.tmp 191) = y191 at hl
            generalize c.eval (.tmp 192) = y192 at hl
            generalize c.eval (.tmp 193) = y193 at hl
            generalize c.eval (.tmp 194) = y194 at hl
            generalize c.eval (.tmp 195) = y195 at hl
            generalize c.eval (.tmp 196) = y196 at hl
            generalize c.eval (.tmp 197) = y197 at hl
            generalize c.eval (.tmp 198) = y198 at hl
            generalize c.eval (.tmp 199) = y199 at hl
            generalize c.eval (.tmp 200) = y200 at hl
            generalize c.eval (.tmp 201) = y201 at hl
            generalize c.eval (.tmp 202) = y202 at hl
            generalize c.eval (.tmp 203) = y203 at hl
            generalize c.eval (.tmp 204) = y204 at hl
            clear hS h2t
            subst hl
            have HB22 : Hid (Below w.heap.size w w21) := below_on HBW20.out hb21
            clear hb21
            go_wp2_with fail
            go_ret
            exact ⟨rfl, HB22.out⟩
end Go.Proofs.YtbpmhgcjefpigaaGreatDoor
