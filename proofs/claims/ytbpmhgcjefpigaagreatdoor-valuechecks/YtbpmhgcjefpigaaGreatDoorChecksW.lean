/- ValueChecks, walked. -/
import Derived.Test.YtbpmhgcjefpigaaGreatDoorJoin12
import Derived.Test.YtbpmhgcjefpigaaGreatDoorJoin18
import Derived.Test.YtbpmhgcjefpigaaGreatDoorJoin19
import Derived.Test.YtbpmhgcjefpigaaGreatDoorChecks9f
import Derived.Test.YtbpmhgcjefpigaaGreatDoorSpared
import Derived.Test.YtbpmhgcjefpigaaGreatDoorJoin20
import Derived.Test.YtbpmhgcjefpigaaGreatDoorJoin6
namespace Go.Proofs.YtbpmhgcjefpigaaGreatDoor
open Go.RowKit Go.Shelf Go.Lib
set_option linter.unusedVariables false
set_option linter.unusedSimpArgs false

theorem kids_one {W : World} {bl B : Nat} {a0 a1 a2 a3 a4 a5 : Value} {S : Tree} (hc : W.heap[bl]? = some (.cells #[a0, a1, a2, a3, a4, a5] 26 (0, 0))) (h1 : Lies B W (.agg #[a0, a1, a2, a3, a4, a5]) S) : KidsLie B W bl 0 [S] := by
  have hcell : ∀ i v, (#[a0, a1, a2, a3, a4, a5] : Array Value)[i]? = some v → W.cell? ⟨bl, i, none⟩ = some v := by
    intro i v hi; unfold World.cell?; simp only [hc]; simpa using hi
  simp only [KidsLie]
  exact ⟨⟨_, _, _, _, _, _, ⟨hcell 0 _ rfl, hcell 1 _ rfl, hcell 2 _ rfl, hcell 3 _ rfl, hcell 4 _ rfl, hcell 5 _ rfl⟩, h1⟩, trivial⟩
theorem spare_shp {p : Nat → Prop} {w : World} {v : Value} {T : Tree} (h : SpareP p w v T) : ∃ (k : Int) (x : Bool) (n : Int) (s : ByteArray) (ka : Option Addr) (kn kc : Nat) (la : Option Addr) (ln lc : Nat), v = .agg #[.int .i64 k, .bool x, .int .i64 n, .string s, .slice ka kn kc, .slice la ln lc] := by
  obtain ⟨k, x, n, s, ks, ts⟩ := T
  simp only [SpareP] at h
  obtain ⟨bk, kc, bl, lc, rfl, -⟩ := h
  exact ⟨_, _, _, _, _, _, _, _, _, _, rfl⟩
theorem fine_one (A : Tree) : fineB [A] = decide (checkN A = 0) := by
  simp only [fineB, List.all_cons, List.all_nil, Bool.and_true]
  by_cases h : checkN A = 0 <;> simp [h]

set_option maxRecDepth 100000 in
set_option maxHeartbeats 8000000 in
theorem checks_law (A : Tree) (D : Nat) (va : Value) (w : World) (hD : D ≤ w.heap.size) (hA : Lies D w va A) (sA : Sane A) (hT : Tabs w)
    (hP : TabBelow Tryz.prog w.heap.size w "internal/strconv.uint64pow10" .u64 pow10Tab) : Calls Tryz.prog 3 #[va] w fun e w' => e = .returned (.bool true) ∧ Below w.heap.size w w' := by
  have HLL := hidE hA
  obtain ⟨ak, ab, an, ax, aa, am, ac, al, ao, ad, rfl⟩ := lies_form hA
  obtain ⟨W1, hW1⟩ : ∃ W1, w.alloc (.cells #[.int .i64 ak, .bool ab, .int .i64 an, .string ax, .slice aa am ac, .slice al ao ad] 26) = W1 := ⟨_, rfl⟩
  have hs1 : W1.heap.size = w.heap.size + 1 := by rw [← hW1]; simp
  have hb1 : Below w.heap.size w W1 := hW1 ▸ (Below.refl _ _).alloc (Nat.le_refl _) _
  have hqa : W1.heap[w.heap.size]? = some (.cells #[.int .i64 ak, .bool ab, .int .i64 an, .string ax, .slice aa am ac, .slice al ao ad] 26 (0, 0)) := hW1 ▸ World.alloc_heap_new _ _
  obtain ⟨W2, hW2⟩ : ∃ W2, W1.alloc (.cells #[.int .i64 ak, .bool ab, .int .i64 an, .string ax, .slice aa am ac, .slice al ao ad] 26) = W2 := ⟨_, rfl⟩
  have hb12 : Below W1.heap.size W1 W2 := hW2 ▸ (Below.refl _ _).alloc (Nat.le_refl _) _
  have hq2 : W2.heap[W1.heap.size]? = some (.cells #[.int .i64 ak, .bool ab, .int .i64 an, .string ax, .slice aa am ac, .slice al ao ad] 26 (0, 0)) := hW2 ▸ World.alloc_heap_new _ _
  have hlt2 : W1.heap.size < W2.heap.size := (Array.getElem?_eq_some_iff.1 hq2).1
  have HX : Hid (∀ w', Below W1.heap.size W1 w' → Below w.heap.size w w' ∧ (w'.cell? ⟨w.heap.size, 0, none⟩ = some (.int .i64 ak) ∧ w'.cell? ⟨w.heap.size, 1, none⟩ = some (.bool ab) ∧ w'.cell? ⟨w.heap.size, 2, none⟩ = some (.int .i64 an) ∧ w'.cell? ⟨w.heap.size, 3, none⟩ = some (.string ax) ∧ w'.cell? ⟨w.heap.size, 4, none⟩ = some (.slice aa am ac) ∧ w'.cell? ⟨w.heap.size, 5, none⟩ = some (.slice al ao ad))) := fun w' hb =>
    ⟨hb1.trans (hb.mono hb1.size), six_cells ((hb.block _ (by omega)).trans hqa)⟩
  have HL : Hid (∀ w', Below w.heap.size w w' → Lies D w' (.agg #[.int .i64 ak, .bool ab, .int .i64 an, .string ax, .slice aa am ac, .slice al ao ad]) A ∧ D ≤ w'.heap.size ∧ Tabs w') := fun w' hb => ⟨HLL.out.below (hb.mono hD), Nat.le_trans hD hb.size, hT.below hb⟩
  have hb2 : Below w.heap.size w W2 := hb1.trans (hb12.mono hb1.size)
  have hl2 := HL.out W2 hb2
  have HSM := hidE (smalls_any [A] W2.heap.size (some ⟨w.heap.size + 1, 0, none⟩) 1 W2 (Nat.le_refl _) (.inr ⟨_, _, rfl, by omega, kids_one (by rw [← hs1]; exact hq2) (hl2.1.mono hl2.2.1)⟩) (Nat.le_refl _) (by unfold maxLen; omega) (by intro t ht; simp only [List.mem_cons, List.not_mem_nil, or_false] at ht; rw [ht]; exact sA))
  have HWK : Hid (∀ w', Below w.heap.size w w' → Calls Tryz.prog 16 #[] w' fun e w2 => e = .returned (.bool true) ∧ Below w'.heap.size w' w2) := fun w' hb => works_any w' (hT.below hb) (fun w2 h => hP w2 (hb.trans (h.mono hb.size)))
  have HFI : Hid (∀ W t, Below w.heap.size w W → W.heap[t]? = some (.cells #[.int .i64 ak, .bool ab, .int .i64 an, .string ax, .slice aa am ac, .slice al ao ad] 26 (0, 0)) → A.total ≤ 2000 → Calls Tryz.prog 21 #[.slice (some ⟨t, 0, none⟩) 1 1] W fun e w' => e = .returned (.bool (fineB [A])) ∧ Below W.heap.size W w') := fun W t hb hq htot =>
    fine_any [A] W.heap.size (some ⟨t, 0, none⟩) 1 W (Nat.le_refl _) (.inr ⟨_, _, rfl, (Array.getElem?_eq_some_iff.1 hq).1, kids_one hq ((HL.out W hb).1.mono (HL.out W hb).2.1)⟩) (Nat.le_refl _) (by unfold maxLen; omega) (by
      intro t ht
      simp only [List.mem_cons, List.not_mem_nil, or_false] at ht
      subst ht
      exact ⟨sA, by omega⟩)
  have HW1 := hidE hW1
  have HW2 := hidE hW2
  have HB := hidE (And.intro hb12 hb2)
  have HSA := hidE sA
  clear hW1 hW2 hb1 hb12 hqa hq2 hl2 hlt2 hA sA hT hP hb2
  go_enter Tryz.func3, Tryz.ntmps3
  go_wp2_with fail
  rw [HW1.out, HW2.out]
  refine HSM.out.mono ?_
  rintro e w5 ⟨rfl, hb5⟩
  have hb15 : Below W1.heap.size W1 w5 := below_on HB.out.1 hb5
  have HB5 := hidE hb15
  obtain ⟨hbw5, a0, a1, a2, a3, a4, a5⟩ := HX.out w5 hb15
  have HBW5 := hidE hbw5
  clear hb5 hb15 hbw5 HSM HW1 HW2
  by_cases hsm : smalls [A] ≤ 2000
  · have htot : A.total ≤ 2000 := small_total hsm A (by simp)
    have HMO := hidE (modest_total htot)
    have hd : decide (smalls [A] ≤ 2000) = true := by simp [hsm]
    rw [hd]
    clear hsm hd
    have HSP := hidE (spared_any A D _ w5 (HL.out w5 HBW5.out).2.1 (HL.out w5 HBW5.out).1 (by omega))
    go_wp2_with fail
    refine HSP.out.mono ?_
    rintro e w6 ⟨vm, rfl, hsp, hb6⟩
    obtain ⟨mk, mb, mn, mx, ma, mm, mc, ml, mo, md, rfl⟩ := spare_shp hsp
    have HD6 : Hid (D ≤ w6.heap.size) := Nat.le_trans (HL.out w5 HBW5.out).2.1 hb6.size
    have hb16 : Below W1.heap.size W1 w6 := below_on HB5.out hb6
    obtain ⟨W7, hW7⟩ : ∃ W7, w6.alloc (.cells #[.int .i64 mk, .bool mb, .int .i64 mn, .string mx, .slice ma mm mc, .slice ml mo md] 26) = W7 := ⟨_, rfl⟩
    have hb67 : Below w6.heap.size w6 W7 := hW7 ▸ (Below.refl _ _).alloc (Nat.le_refl _) _
    have hq7 : W7.heap[w6.heap.size]? = some (.cells #[.int .i64 mk, .bool mb, .int .i64 mn, .string mx, .slice ma mm mc, .slice ml mo md] 26 (0, 0)) := hW7 ▸ World.alloc_heap_new _ _
    have hlt7 : w6.heap.size < W7.heap.size := (Array.getElem?_eq_some_iff.1 hq7).1
    have HB7 := hidE (below_on hb16 hb67)
    have HM : Hid (∀ w', Below W7.heap.size W7 w' → (w'.cell? ⟨w6.heap.size, 0, none⟩ = some (.int .i64 mk) ∧ w'.cell? ⟨w6.heap.size, 1, none⟩ = some (.bool mb) ∧ w'.cell? ⟨w6.heap.size, 2, none⟩ = some (.int .i64 mn) ∧ w'.cell? ⟨w6.heap.size, 3, none⟩ = some (.string mx) ∧ w'.cell? ⟨w6.heap.size, 4, none⟩ = some (.slice ma mm mc) ∧ w'.cell? ⟨w6.heap.size, 5, none⟩ = some (.slice ml mo md)) ∧
        SpareP (· < w6.heap.size) w' (.agg #[.int .i64 mk, .bool mb, .int .i64 mn, .string mx, .slice ma mm mc, .slice ml mo md]) A ∧ w6.heap.size < w'.heap.size) := fun w' hb =>
      ⟨six_cells ((hb.block _ hlt7).trans hq7), Spare.below ((hb67.trans (hb.mono hb67.size))) (SpareP.mono (fun b hb => hb.2) hsp), Nat.lt_of_lt_of_le hlt7 hb.size⟩
    have HW7 := hidE hW7
    have HSZ := hidE (Size_any _ A W7 ((Spare.lies (HM.out W7 (Below.refl _ _)).2.1).mono (Nat.le_of_lt hlt7)) (HL.out W7 (HX.out W7 HB7.out).1).2.2 HMO.out.1 HMO.out.2 (by have := (pre_one A).1; have := (size_le A).1.2; omega))
    clear hsp hb6 hb16 hb67 hq7 hW7 HSP a0 a1 a2 a3 a4 a5
    go_wp2_with fail
    rw [HW7.out]
    refine HSZ.out.mono ?_
    rintro e w8 ⟨rfl, hb8⟩
    have HB8 := hidE hb8
    have HB18 := hidE (below_on HB7.out hb8)
    obtain ⟨⟨m0, m1, m2, m3, m4, m5⟩, hsp8, hlt8⟩ := HM.out w8 hb8
    obtain ⟨nv, hnv⟩ : ∃ x, sizeN A = x := ⟨_, rfl⟩
    obtain ⟨dv, hdv⟩ : ∃ x, sizeD A = x := ⟨_, rfl⟩
    rw [hnv, hdv]
    have HNV := hidE (And.intro hnv hdv)
    have HCP := hidE (copy_anyF A w6.heap.size _ w8 (Nat.le_of_lt hlt8) (Spare.lies hsp8) (by omega))
    clear hnv hdv hb8 hsp8 HSZ HW7
    go_wp2_with fail
    refine HCP.out.mono ?_
    rintro e w9 ⟨vc, rfl, hlf, hb9⟩
    obtain ⟨ck, cb, cn, cx, ca, cm, cc, cl, co, cd, rfl⟩ := lies_form hlf.lie
    have hb19 : Below W1.heap.size W1 w9 := below_on HB18.out hb9
    obtain ⟨W10, hW10⟩ : ∃ W10, w9.alloc (.cells #[.int .i64 ck, .bool cb, .int .i64 cn, .string cx, .slice ca cm cc, .slice cl co cd] 26) = W10 := ⟨_, rfl⟩
    have hb910 : Below w9.heap.size w9 W10 := hW10 ▸ (Below.refl _ _).alloc (Nat.le_refl _) _
    have hq10 : W10.heap[w9.heap.size]? = some (.cells #[.int .i64 ck, .bool cb, .int .i64 cn, .string cx, .slice ca cm cc, .slice cl co cd] 26 (0, 0)) := hW10 ▸ World.alloc_heap_new _ _
    have hlt10 : w9.heap.size < W10.heap.size := (Array.getElem?_eq_some_iff.1 hq10).1
    have HB10 := hidE (below_on hb19 hb910)
    have HBM10 : Hid (Below W7.heap.size W7 W10) := below_on (below_on HB8.out hb9) hb910
    have HC : Hid (∀ w', Below W10.heap.size W10 w' → (w'.cell? ⟨w9.heap.size, 0, none⟩ = some (.int .i64 ck) ∧ w'.cell? ⟨w9.heap.size, 1, none⟩ = some (.bool cb) ∧ w'.cell? ⟨w9.heap.size, 2, none⟩ = some (.int .i64 cn) ∧ w'.cell? ⟨w9.heap.size, 3, none⟩ = some (.string cx) ∧ w'.cell? ⟨w9.heap.size, 4, none⟩ = some (.slice ca cm cc) ∧ w'.cell? ⟨w9.heap.size, 5, none⟩ = some (.slice cl co cd)) ∧ LiesF w8.heap.size w9.heap.size w' (.agg #[.int .i64 ck, .bool cb, .int .i64 cn, .string cx, .slice ca cm cc, .slice cl co cd]) A ∧ w9.heap.size < w'.heap.size) := fun w' hb =>
      ⟨six_cells ((hb.block _ hlt10).trans hq10), hlf.keep (keeps_belowF (hb910.trans (hb.mono hb910.size)) (Nat.le_refl _)), Nat.lt_of_lt_of_le hlt10 hb.size⟩
    have HLT := hidE hb9.size
    have HW10 := hidE hW10
    have HRS := hidE (refsize_any A D _ W10 (HL.out W10 (HX.out W10 HB10.out).1).2.1 (HL.out W10 (HX.out W10 HB10.out).1).1 (by omega))
    clear hlf hb9 hb19 hb910 hq10 hW10 HCP m0 m1 m2 m3 m4 m5
    go_upto_region 6 with fail
    rw [HW10.out]
    obtain ⟨hbw10, a0, a1, a2, a3, a4, a5⟩ := HX.out W10 HB10.out
    have HBW10 := hidE hbw10
    clear HW10 hbw10
    go_wp2_with fail
    refine HRS.out.mono ?_
    rintro e w11 ⟨rfl, hb11⟩
    have HC11 := hidE hb11
    have HB11 := hidE (below_on HB10.out hb11)
    clear a0 a1 a2 a3 a4 a5 HRS
    obtain ⟨hbw11, a0, a1, a2, a3, a4, a5⟩ := HX.out w11 HB11.out
    obtain ⟨W12, hW12⟩ : ∃ W12, w11.alloc (.cells #[.int .i64 ak, .bool ab, .int .i64 an, .string ax, .slice aa am ac, .slice al ao ad] 26) = W12 := ⟨_, rfl⟩
    have hb1112 : Below w11.heap.size w11 W12 := hW12 ▸ (Below.refl _ _).alloc (Nat.le_refl _) _
    have hq12 : W12.heap[w11.heap.size]? = some (.cells #[.int .i64 ak, .bool ab, .int .i64 an, .string ax, .slice aa am ac, .slice al ao ad] 26 (0, 0)) := hW12 ▸ World.alloc_heap_new _ _
    have HF12 := hidE (HFI.out W12 w11.heap.size (below_on hbw11 hb1112) hq12 htot)
    have HB1112 := hidE hb1112
    have HW12 := hidE hW12
    clear hbw11 hb11 hb1112 hq12 hW12
    go_wp2_with fail
    rw [HW12.out]
    refine HF12.out.mono ?_
    rintro e w13 ⟨rfl, hb13⟩
    have HC13 : Hid (Below W10.heap.size W10 w13) := below_on (below_on HC11.out HB1112.out) hb13
    have HB13 : Hid (Below W1.heap.size W1 w13) := below_on (below_on HB11.out HB1112.out) hb13
    clear hb13 a0 a1 a2 a3 a4 a5 HF12 HW12
    have HCA : Hid (∀ W, Below W10.heap.size W10 W → Below W1.heap.size W1 W → (Calls Tryz.prog 23 #[.agg #[.int .i64 mk, .bool mb, .int .i64 mn, .string mx, .slice ma mm mc, .slice ml mo md]] W fun e w' => e = .returned (.int .i64 (checkN A)) ∧ Below W.heap.size W w') ∧ (Calls Tryz.prog 24 #[.agg #[.int .i64 ak, .bool ab, .int .i64 an, .string ax, .slice aa am ac, .slice al ao ad]] W fun e w' => e = .returned (.int .i64 (checkN A)) ∧ Below W.heap.size W w') ∧
        (Calls Tryz.prog 25 #[.agg #[.int .i64 mk, .bool mb, .int .i64 mn, .string mx, .slice ma mm mc, .slice ml mo md]] W fun e w' => e = .returned (.bool (decide (checkN A = 0) && storB A)) ∧ Below W.heap.size W w') ∧ (Calls Tryz.prog 26 #[.agg #[.int .i64 ak, .bool ab, .int .i64 an, .string ax, .slice aa am ac, .slice al ao ad]] W fun e w' => e = .returned (.bool (rstorB A)) ∧ Below W.heap.size W w') ∧
        (Calls Tryz.prog 27 #[.agg #[.int .i64 ck, .bool cb, .int .i64 cn, .string cx, .slice ca cm cc, .slice cl co cd], .agg #[.int .i64 ak, .bool ab, .int .i64 an, .string ax, .slice aa am ac, .slice al ao ad]] W fun e w' => e = .returned (.bool true) ∧ Below W.heap.size W w')) := fun W hb hb1 => by
      obtain ⟨_, hs, hlt⟩ := HM.out W (below_on HBM10.out hb)
      obtain ⟨_, hf, hlt2⟩ := HC.out W hb
      obtain ⟨l1, l2, l3⟩ := HL.out W (HX.out W hb1).1
      exact ⟨check_any _ _ W ((Spare.lies hs).mono (Nat.le_of_lt hlt)) l3 HMO.out.1 HMO.out.2, rcheck_any A D _ W l2 l1 HSA.out (by omega), Storable_any A w6.heap.size _ W (Nat.le_of_lt hlt) (Spare.lies hs) l3 HMO.out, refstor_any A D _ W l2 l1,
        alike_any A W.heap.size _ _ W (Nat.le_refl _) (hf.lie.mono (Nat.le_of_lt hlt2)) (l1.mono l2)⟩
    have HFW : Hid (∀ W t, Below W1.heap.size W1 W → W.heap[t]? = some (.cells #[.int .i64 ak, .bool ab, .int .i64 an, .string ax, .slice aa am ac, .slice al ao ad] 26 (0, 0)) → Calls Tryz.prog 21 #[.slice (some ⟨t, 0, none⟩) 1 1] W fun e w' => e = .returned (.bool (fineB [A])) ∧ Below W.heap.size W w') := fun W t hb hq => HFI.out W t (HX.out W hb).1 hq htot
    cases hfi : fineB [A] with
    | true =>
      have hc0 : checkN A = 0 := by rw [fine_one] at hfi; exact of_decide_eq_true hfi
      obtain ⟨e1, e2⟩ := sizes_fine hc0
      have f1 : cntT A = nv := e1.symm.trans HNV.out.1
      have f2 : hgtT A = dv := e2.symm.trans HNV.out.2
      rw [f1, f2]
      have HC0 := hidE hc0
      have HFI1 := hidE hfi
      clear hfi hc0 e1 e2 f1 f2 HFI HSA
      go_upto_region 9 with fail
      show (Code.region 9 RH9t true).wp _ _ _ _
      refine regionH9t w.heap.size w6.heap.size w9.heap.size (checkN A) nv dv (storB A) ak ab an ax aa am ac al ao ad (.int .i64 mk) (.bool mb) (.int .i64 mn) (.string mx) (.slice ma mm mc) (.slice ml mo md) (.int .i64 ck) (.bool cb) (.int .i64 cn) (.string cx) (.slice ca cm cc) (.slice cl co cd) _ _ w13 rfl ⟨rfl, rfl, rfl, rfl, rfl, rfl, rfl⟩ (fun W hb => ?_) ?_
      · have hb10 : Below W10.heap.size W10 W := below_on HC13.out hb
        have hb1 : Below W1.heap.size W1 W := below_on HB13.out hb
        obtain ⟨⟨x0, x1, x2, x3, x4, x5⟩, _, _⟩ := HM.out W (below_on HBM10.out hb10)
        obtain ⟨⟨y0, y1, y2, y3, y4, y5⟩, _, _⟩ := HC.out W hb10
        obtain ⟨_, a0, a1, a2, a3, a4, a5⟩ := HX.out W hb1
        obtain ⟨k1, k3, k4, k6, k7⟩ := HCA.out W hb10 hb1
        have k5 : ∀ t, W.heap[t]? = some (.cells #[.int .i64 ak, .bool ab, .int .i64 an, .string ax, .slice aa am ac, .slice al ao ad] 26 (0, 0)) → Calls Tryz.prog 21 #[.slice (some ⟨t, 0, none⟩) 1 1] W fun e w' => e = .returned (.bool (fineB [A])) ∧ Below W.heap.size W w' := fun t hq => HFW.out W t hb1 hq
        rw [HFI1.out] at k5
        rw [HC0.out] at k4; rw [stor_eq HC0.out] at k6
        exact ⟨a0, a1, a2, a3, a4, a5, x0, x1, x2, x3, x4, x5, y0, y1, y2, y3, y4, y5, k1, num_any _ _, k3, k4, k5, k6, k7⟩
      intro c w14 hS hb14 h69
      have hl : c = ⟨#[Value.agg #[Value.int IntKind.i64 ak, Value.bool ab, Value.int IntKind.i64 an, Value.string ax, Value.slice aa am ac, Value.slice al ao ad], Value.pointer (some { block := w.heap.size, off := 0 }), Value.bool false, Value.pointer (some { block := w6.heap.size, off := 0 }), Value.int IntKind.i64 nv, Value.int IntKind.i64 dv, Value.pointer (some { block := w9.heap.size, off := 0 }), Value.int IntKind.i64 nv, Value.int IntKind.i64 dv, Value.int IntKind.i64 (bytT A), Value.int IntKind.i64 (lngT A), Value.agg #[Value.int IntKind.i64 ak, Value.bool ab, Value.int IntKind.i64 an, Value.string ax, Value.slice aa am ac, Value.slice al ao ad], Value.slice (some { block := w.heap.size + 1, off := 0 }) 1 1, Value.bool true, Value.bool false, undef, Value.agg #[Value.int IntKind.i64 ak, Value.bool ab, Value.int IntKind.i64 an, Value.string ax, Value.slice aa am ac, Value.slice al ao ad], Value.agg #[Value.int IntKind.i64 mk, Value.bool mb, Value.int IntKind.i64 mn, Value.string mx, Value.slice ma mm mc, Value.slice ml mo md], Value.tuple #[Value.int IntKind.i64 nv, Value.int IntKind.i64 dv], Value.agg #[Value.int IntKind.i64 mk, Value.bool mb, Value.int IntKind.i64 mn, Value.string mx, Value.slice ma mm mc, Value.slice ml mo md], Value.tuple #[Value.int IntKind.i64 nv, Value.int IntKind.i64 dv], Value.int IntKind.i64 nv, Value.int IntKind.i64 dv, Value.agg #[Value.int IntKind.i64 mk, Value.bool mb, Value.int IntKind.i64 mn, Value.string mx, Value.slice ma mm mc, Value.slice ml mo md], Value.agg #[Value.int IntKind.i64 ck, Value.bool cb, Value.int IntKind.i64 cn, Value.string cx, Value.slice ca cm cc, Value.slice cl co cd], Value.tuple #[Value.int IntKind.i64 nv, Value.int IntKind.i64 dv, Value.int IntKind.i64 (bytT A), Value.int IntKind.i64 (lngT A)], Value.agg #[Value.int IntKind.i64 ak, Value.bool ab, Value.int IntKind.i64 an, Value.string ax, Value.slice aa am ac, Value.slice al ao ad], Value.tuple #[Value.int IntKind.i64 nv, Value.int IntKind.i64 dv, Value.int IntKind.i64 (bytT A), Value.int IntKind.i64 (lngT A)], Value.int IntKind.i64 nv, Value.int IntKind.i64 dv, Value.int IntKind.i64 (bytT A), Value.int IntKind.i64 (lngT A), Value.agg #[Value.int IntKind.i64 ak, Value.bool ab, Value.int IntKind.i64 an, Value.string ax, Value.slice aa am ac, Value.slice al ao ad], Value.slice (some { block := w11.heap.size, off := 0 }) 1 1, Value.bool true, Value.bool false, c.eval (.tmp 36), c.eval (.tmp 37), c.eval (.tmp 38), c.eval (.tmp 39), c.eval (.tmp 40), c.eval (.tmp 41), c.eval (.tmp 42), c.eval (.tmp 43), c.eval (.tmp 44), c.eval (.tmp 45), c.eval (.tmp 46), c.eval (.tmp 47), c.eval (.tmp 48), c.eval (.tmp 49), c.eval (.tmp 50), c.eval (.tmp 51), c.eval (.tmp 52), c.eval (.tmp 53), c.eval (.tmp 54), c.eval (.tmp 55), c.eval (.tmp 56), c.eval (.tmp 57), c.eval (.tmp 58), c.eval (.tmp 59), c.eval (.tmp 60), c.eval (.tmp 61), c.eval (.tmp 62), c.eval (.tmp 63), c.eval (.tmp 64), c.eval (.tmp 65), c.eval (.tmp 66), c.eval (.tmp 67), c.eval (.tmp 68), c.eval (.tmp 69), undef, undef, undef, undef, undef, undef, undef, undef], []⟩ := (same_lay hS).trans (by kernel_rfl)
      rw [h69] at hl
      generalize c.eval (.tmp 36) = z36 at hl
      generalize c.eval (.tmp 37) = z37 at hl
      generalize c.eval (.tmp 38) = z38 at hl
      generalize c.eval (.tmp 39) = z39 at hl
      generalize c.eval (.tmp 40) = z40 at hl
      generalize c.eval (.tmp 41) = z41 at hl
      generalize c.eval (.tmp 42) = z42 at hl
      generalize c.eval (.tmp 43) = z43 at hl
      generalize c.eval (.tmp 44) = z44 at hl
      generalize c.eval (.tmp 45) = z45 at hl
      generalize c.eval (.tmp 46) = z46 at hl
      generalize c.eval (.tmp 47) = z47 at hl
      generalize c.eval (.tmp 48) = z48 at hl
      generalize c.eval (.tmp 49) = z49 at hl
      generalize c.eval (.tmp 50) = z50 at hl
      generalize c.eval (.tmp 51) = z51 at hl
      generalize c.eval (.tmp 52) = z52 at hl
      generalize c.eval (.tmp 53) = z53 at hl
      generalize c.eval (.tmp 54) = z54 at hl
      generalize c.eval (.tmp 55) = z55 at hl
      generalize c.eval (.tmp 56) = z56 at hl
      generalize c.eval (.tmp 57) = z57 at hl
      generalize c.eval (.tmp 58) = z58 at hl
      generalize c.eval (.tmp 59) = z59 at hl
      generalize c.eval (.tmp 60) = z60 at hl
      generalize c.eval (.tmp 61) = z61 at hl
      generalize c.eval (.tmp 62) = z62 at hl
      generalize c.eval (.tmp 63) = z63 at hl
      generalize c.eval (.tmp 64) = z64 at hl
      generalize c.eval (.tmp 65) = z65 at hl
      generalize c.eval (.tmp 66) = z66 at hl
      generalize c.eval (.tmp 67) = z67 at hl
      generalize c.eval (.tmp 68) = z68 at hl
      clear hS h69
      subst hl
      have HB14 : Hid (Below W1.heap.size W1 w14) := below_on HB13.out hb14
      have HC14 : Hid (Below W10.heap.size W10 w14) := below_on HC13.out hb14
      obtain ⟨⟨y0, y1, y2, y3, y4, y5⟩, hlf, hltc⟩ := HC.out w14 HC14.out
      have HSPO := hidE (spoil_any A w8.heap.size w9.heap.size _ w14 HLT.out (Nat.le_of_lt hltc) hlf.sp)
      clear hlf hltc hb14
      go_wp2_with fail
      refine HSPO.out.mono ?_
      rintro e w15 ⟨⟨xx, rfl⟩, hso⟩
      have HB15 : Hid (Below W1.heap.size W1 w15) := HB14.out.trans (hso.below.mono HB18.out.size)
      have HM15 : Hid (Below W7.heap.size W7 w15) := (below_on HBM10.out HC14.out).trans (hso.below.mono HB8.out.size)
      obtain ⟨hbw15, a0, a1, a2, a3, a4, a5⟩ := HX.out w15 HB15.out
      obtain ⟨⟨x0, x1, x2, x3, x4, x5⟩, hsp15, hlt15⟩ := HM.out w15 HM15.out
      have HBW15 := hidE hbw15
      have HKP := hidE (kept_any A w6.heap.size _ _ w15 (Nat.le_of_lt hlt15) hsp15 ((HL.out w15 hbw15).1.mono HD6.out))
      clear hso hsp15 hlt15 hbw15 y0 y1 y2 y3 y4 y5 HSPO
      go_wp2_with fail
      refine HKP.out.mono ?_
      rintro e w16 ⟨rfl, hb16⟩
      have HBW16 : Hid (Below w.heap.size w w16) := below_on HBW15.out hb16
      clear hb16 a0 a1 a2 a3 a4 a5 x0 x1 x2 x3 x4 x5 HKP
      go_wp2_with fail
      refine (HWK.out w16 HBW16.out).mono ?_
      rintro e w17 ⟨rfl, hb17⟩
      have HF : Hid (Below w.heap.size w w17) := below_on HBW16.out hb17
      clear hb17
      go_wp2_with fail
      go_ret
      exact ⟨rfl, HF.out⟩
    | false =>
      have hc0 : checkN A ≠ 0 := by rw [fine_one] at hfi; exact of_decide_eq_false hfi
      obtain ⟨e1, e2⟩ := sizes_not hc0
      have f1 : nv = 0 := HNV.out.1.symm.trans e1
      have f2 : dv = 0 := HNV.out.2.symm.trans e2
      subst f1 f2
      have HC0 := hidE hc0
      have HFI1 := hidE hfi
      clear hfi hc0 e1 e2 HFI HSA
      go_upto_region 9 with fail
      show (Code.region 9 RH9f true).wp _ _ _ _
      refine regionH9f w.heap.size w6.heap.size w9.heap.size (checkN A) 0 0 false ak ab an ax aa am ac al ao ad (.int .i64 mk) (.bool mb) (.int .i64 mn) (.string mx) (.slice ma mm mc) (.slice ml mo md) (.int .i64 ck) (.bool cb) (.int .i64 cn) (.string cx) (.slice ca cm cc) (.slice cl co cd) _ _ w13 rfl ⟨rfl, rfl, rfl, rfl, rfl, rfl, rfl⟩ (fun W hb => ?_) ?_
      · have hb10 : Below W10.heap.size W10 W := below_on HC13.out hb
        have hb1 : Below W1.heap.size W1 W := below_on HB13.out hb
        obtain ⟨⟨x0, x1, x2, x3, x4, x5⟩, _, _⟩ := HM.out W (below_on HBM10.out hb10)
        obtain ⟨⟨y0, y1, y2, y3, y4, y5⟩, _, _⟩ := HC.out W hb10
        obtain ⟨_, a0, a1, a2, a3, a4, a5⟩ := HX.out W hb1
        obtain ⟨k1, k3, k4, k6, k7⟩ := HCA.out W hb10 hb1
        have k5 : ∀ t, W.heap[t]? = some (.cells #[.int .i64 ak, .bool ab, .int .i64 an, .string ax, .slice aa am ac, .slice al ao ad] 26 (0, 0)) → Calls Tryz.prog 21 #[.slice (some ⟨t, 0, none⟩) 1 1] W fun e w' => e = .returned (.bool (fineB [A])) ∧ Below W.heap.size W w' := fun t hq => HFW.out W t hb1 hq
        rw [HFI1.out] at k5
        rw [decide_eq_false HC0.out, Bool.false_and] at k4
        exact ⟨a0, a1, a2, a3, a4, a5, x0, x1, x2, x3, x4, x5, y0, y1, y2, y3, y4, y5, k1, num_any _ _, k3, k4, k5, k7⟩
      intro c w14 hS hb14 h69
      have hl : c = ⟨#[Value.agg #[Value.int IntKind.i64 ak, Value.bool ab, Value.int IntKind.i64 an, Value.string ax, Value.slice aa am ac, Value.slice al ao ad], Value.pointer (some { block := w.heap.size, off := 0 }), Value.bool false, Value.pointer (some { block := w6.heap.size, off := 0 }), Value.int IntKind.i64 0, Value.int IntKind.i64 0, Value.pointer (some { block := w9.heap.size, off := 0 }), Value.int IntKind.i64 0, Value.int IntKind.i64 0, Value.int IntKind.i64 (bytT A), Value.int IntKind.i64 (lngT A), Value.agg #[Value.int IntKind.i64 ak, Value.bool ab, Value.int IntKind.i64 an, Value.string ax, Value.slice aa am ac, Value.slice al ao ad], Value.slice (some { block := w.heap.size + 1, off := 0 }) 1 1, Value.bool true, Value.bool false, undef, Value.agg #[Value.int IntKind.i64 ak, Value.bool ab, Value.int IntKind.i64 an, Value.string ax, Value.slice aa am ac, Value.slice al ao ad], Value.agg #[Value.int IntKind.i64 mk, Value.bool mb, Value.int IntKind.i64 mn, Value.string mx, Value.slice ma mm mc, Value.slice ml mo md], Value.tuple #[Value.int IntKind.i64 0, Value.int IntKind.i64 0], Value.agg #[Value.int IntKind.i64 mk, Value.bool mb, Value.int IntKind.i64 mn, Value.string mx, Value.slice ma mm mc, Value.slice ml mo md], Value.tuple #[Value.int IntKind.i64 0, Value.int IntKind.i64 0], Value.int IntKind.i64 0, Value.int IntKind.i64 0, Value.agg #[Value.int IntKind.i64 mk, Value.bool mb, Value.int IntKind.i64 mn, Value.string mx, Value.slice ma mm mc, Value.slice ml mo md], Value.agg #[Value.int IntKind.i64 ck, Value.bool cb, Value.int IntKind.i64 cn, Value.string cx, Value.slice ca cm cc, Value.slice cl co cd], Value.tuple #[Value.int IntKind.i64 (cntT A), Value.int IntKind.i64 (hgtT A), Value.int IntKind.i64 (bytT A), Value.int IntKind.i64 (lngT A)], Value.agg #[Value.int IntKind.i64 ak, Value.bool ab, Value.int IntKind.i64 an, Value.string ax, Value.slice aa am ac, Value.slice al ao ad], Value.tuple #[Value.int IntKind.i64 (cntT A), Value.int IntKind.i64 (hgtT A), Value.int IntKind.i64 (bytT A), Value.int IntKind.i64 (lngT A)], Value.int IntKind.i64 (cntT A), Value.int IntKind.i64 (hgtT A), Value.int IntKind.i64 (bytT A), Value.int IntKind.i64 (lngT A), Value.agg #[Value.int IntKind.i64 ak, Value.bool ab, Value.int IntKind.i64 an, Value.string ax, Value.slice aa am ac, Value.slice al ao ad], Value.slice (some { block := w11.heap.size, off := 0 }) 1 1, Value.bool false, Value.bool true, c.eval (.tmp 36), c.eval (.tmp 37), c.eval (.tmp 38), c.eval (.tmp 39), c.eval (.tmp 40), c.eval (.tmp 41), c.eval (.tmp 42), c.eval (.tmp 43), c.eval (.tmp 44), c.eval (.tmp 45), c.eval (.tmp 46), c.eval (.tmp 47), c.eval (.tmp 48), c.eval (.tmp 49), c.eval (.tmp 50), c.eval (.tmp 51), c.eval (.tmp 52), c.eval (.tmp 53), c.eval (.tmp 54), c.eval (.tmp 55), c.eval (.tmp 56), c.eval (.tmp 57), c.eval (.tmp 58), c.eval (.tmp 59), c.eval (.tmp 60), c.eval (.tmp 61), c.eval (.tmp 62), c.eval (.tmp 63), c.eval (.tmp 64), c.eval (.tmp 65), c.eval (.tmp 66), c.eval (.tmp 67), c.eval (.tmp 68), c.eval (.tmp 69), undef, undef, undef, undef, undef, undef, undef, undef], []⟩ := (same_lay hS).trans (by kernel_rfl)
      rw [h69] at hl
      generalize c.eval (.tmp 36) = z36 at hl
      generalize c.eval (.tmp 37) = z37 at hl
      generalize c.eval (.tmp 38) = z38 at hl
      generalize c.eval (.tmp 39) = z39 at hl
      generalize c.eval (.tmp 40) = z40 at hl
      generalize c.eval (.tmp 41) = z41 at hl
      generalize c.eval (.tmp 42) = z42 at hl
      generalize c.eval (.tmp 43) = z43 at hl
      generalize c.eval (.tmp 44) = z44 at hl
      generalize c.eval (.tmp 45) = z45 at hl
      generalize c.eval (.tmp 46) = z46 at hl
      generalize c.eval (.tmp 47) = z47 at hl
      generalize c.eval (.tmp 48) = z48 at hl
      generalize c.eval (.tmp 49) = z49 at hl
      generalize c.eval (.tmp 50) = z50 at hl
      generalize c.eval (.tmp 51) = z51 at hl
      generalize c.eval (.tmp 52) = z52 at hl
      generalize c.eval (.tmp 53) = z53 at hl
      generalize c.eval (.tmp 54) = z54 at hl
      generalize c.eval (.tmp 55) = z55 at hl
      generalize c.eval (.tmp 56) = z56 at hl
      generalize c.eval (.tmp 57) = z57 at hl
      generalize c.eval (.tmp 58) = z58 at hl
      generalize c.eval (.tmp 59) = z59 at hl
      generalize c.eval (.tmp 60) = z60 at hl
      generalize c.eval (.tmp 61) = z61 at hl
      generalize c.eval (.tmp 62) = z62 at hl
      generalize c.eval (.tmp 63) = z63 at hl
      generalize c.eval (.tmp 64) = z64 at hl
      generalize c.eval (.tmp 65) = z65 at hl
      generalize c.eval (.tmp 66) = z66 at hl
      generalize c.eval (.tmp 67) = z67 at hl
      generalize c.eval (.tmp 68) = z68 at hl
      clear hS h69
      subst hl
      have HB14 : Hid (Below W1.heap.size W1 w14) := below_on HB13.out hb14
      have HC14 : Hid (Below W10.heap.size W10 w14) := below_on HC13.out hb14
      obtain ⟨⟨y0, y1, y2, y3, y4, y5⟩, hlf, hltc⟩ := HC.out w14 HC14.out
      have HSPO := hidE (spoil_any A w8.heap.size w9.heap.size _ w14 HLT.out (Nat.le_of_lt hltc) hlf.sp)
      clear hlf hltc hb14
      go_wp2_with fail
      refine HSPO.out.mono ?_
      rintro e w15 ⟨⟨xx, rfl⟩, hso⟩
      have HB15 : Hid (Below W1.heap.size W1 w15) := HB14.out.trans (hso.below.mono HB18.out.size)
      have HM15 : Hid (Below W7.heap.size W7 w15) := (below_on HBM10.out HC14.out).trans (hso.below.mono HB8.out.size)
      obtain ⟨hbw15, a0, a1, a2, a3, a4, a5⟩ := HX.out w15 HB15.out
      obtain ⟨⟨x0, x1, x2, x3, x4, x5⟩, hsp15, hlt15⟩ := HM.out w15 HM15.out
      have HBW15 := hidE hbw15
      have HKP := hidE (kept_any A w6.heap.size _ _ w15 (Nat.le_of_lt hlt15) hsp15 ((HL.out w15 hbw15).1.mono HD6.out))
      clear hso hsp15 hlt15 hbw15 y0 y1 y2 y3 y4 y5 HSPO
      go_wp2_with fail
      refine HKP.out.mono ?_
      rintro e w16 ⟨rfl, hb16⟩
      have HBW16 : Hid (Below w.heap.size w w16) := below_on HBW15.out hb16
      clear hb16 a0 a1 a2 a3 a4 a5 x0 x1 x2 x3 x4 x5 HKP
      go_wp2_with fail
      refine (HWK.out w16 HBW16.out).mono ?_
      rintro e w17 ⟨rfl, hb17⟩
      have HF : Hid (Below w.heap.size w w17) := below_on HBW16.out hb17
      clear hb17
      go_wp2_with fail
      go_ret
      exact ⟨rfl, HF.out⟩
  · have hd : decide (smalls [A] ≤ 2000) = false := by simp [hsm]
    rw [hd]
    clear hsm hd
    go_wp2_with fail
    refine (HWK.out w5 HBW5.out).mono ?_
    rintro e w6 ⟨rfl, hb6⟩
    have HF : Hid (Below w.heap.size w w6) := below_on HBW5.out hb6
    clear hb6
    go_wp2_with fail
    go_ret
    exact ⟨rfl, HF.out⟩
end Go.Proofs.YtbpmhgcjefpigaaGreatDoor
