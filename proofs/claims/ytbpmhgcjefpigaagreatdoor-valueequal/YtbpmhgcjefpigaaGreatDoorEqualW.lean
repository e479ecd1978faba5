/- ValueEqual, walked. -/
import Derived.Test.YtbpmhgcjefpigaaGreatDoorPair
import Derived.Test.YtbpmhgcjefpigaaGreatDoorEqual9
import Derived.Deep.CutRange
namespace Go.Proofs.YtbpmhgcjefpigaaGreatDoor
open Go.RowKit Go.Shelf Go.Lib
set_option linter.unusedVariables false
set_option linter.unusedSimpArgs false

set_option maxRecDepth 100000 in
set_option maxHeartbeats 8000000 in
theorem equal_law (A B : Tree) (D : Nat) (va vb : Value) (w : World) (hD : D ≤ w.heap.size) (hA : Lies D w va A) (hB : Lies D w vb B) (sA : Sane A) (sB : Sane B) (hT : Tabs w)
    (hP : TabBelow Tryz.prog w.heap.size w "internal/strconv.uint64pow10" .u64 pow10Tab) : Calls Tryz.prog 13 #[va, vb] w fun e w' => e = .returned (.bool true) ∧ Below w.heap.size w w' := by
  have HLL := hidE (And.intro hA hB)
  obtain ⟨ak, ab, an, ax, aa, am, ac, al, ao, ad, rfl⟩ := lies_form hA
  obtain ⟨bk, bb, bn, bx, ba, bm, bc, bl, bo, bd, rfl⟩ := lies_form hB
  obtain ⟨W2, hW2⟩ : ∃ W2, (w.alloc (.cells #[.int .i64 ak, .bool ab, .int .i64 an, .string ax, .slice aa am ac, .slice al ao ad] 26)).alloc (.cells #[.int .i64 bk, .bool bb, .int .i64 bn, .string bx, .slice ba bm bc, .slice bl bo bd] 26) = W2 := ⟨_, rfl⟩
  have hs2 : W2.heap.size = w.heap.size + 1 + 1 := by rw [← hW2]; simp
  have hb2 : Below w.heap.size w W2 := hW2 ▸ ((Below.refl _ _).alloc (Nat.le_refl _) _).alloc (by simp) _
  have hqa : W2.heap[w.heap.size]? = some (.cells #[.int .i64 ak, .bool ab, .int .i64 an, .string ax, .slice aa am ac, .slice al ao ad] 26 (0, 0)) := by
    rw [← hW2, Below.heap_alloc _ _ _ (by simp)]; exact World.alloc_heap_new _ _
  have hqb : W2.heap[w.heap.size + 1]? = some (.cells #[.int .i64 bk, .bool bb, .int .i64 bn, .string bx, .slice ba bm bc, .slice bl bo bd] 26 (0, 0)) := by
    rw [← hW2]
    have := World.alloc_heap_new (w.alloc (.cells #[.int .i64 ak, .bool ab, .int .i64 an, .string ax, .slice aa am ac, .slice al ao ad] 26)) (.cells #[.int .i64 bk, .bool bb, .int .i64 bn, .string bx, .slice ba bm bc, .slice bl bo bd] 26)
    rwa [World.size_alloc] at this
  obtain ⟨W3, hW3⟩ : ∃ W3, W2.alloc (.cells #[.int .i64 ak, .bool ab, .int .i64 an, .string ax, .slice aa am ac, .slice al ao ad, .int .i64 bk, .bool bb, .int .i64 bn, .string bx, .slice ba bm bc, .slice bl bo bd] 26) = W3 := ⟨_, rfl⟩
  have hb23 : Below W2.heap.size W2 W3 := hW3 ▸ (Below.refl _ _).alloc (Nat.le_refl _) _
  have hq3 : W3.heap[w.heap.size + 1 + 1]? = some (.cells #[.int .i64 ak, .bool ab, .int .i64 an, .string ax, .slice aa am ac, .slice al ao ad, .int .i64 bk, .bool bb, .int .i64 bn, .string bx, .slice ba bm bc, .slice bl bo bd] 26 (0, 0)) := by
    rw [← hs2, ← hW3]; exact World.alloc_heap_new _ _
  have hb3 : Below w.heap.size w W3 := below_on hb2 hb23
  have HX : Hid (∀ w', Below W2.heap.size W2 w' → (w'.cell? ⟨w.heap.size, 0, none⟩ = some (.int .i64 ak) ∧ w'.cell? ⟨w.heap.size, 1, none⟩ = some (.bool ab) ∧ w'.cell? ⟨w.heap.size, 2, none⟩ = some (.int .i64 an) ∧ w'.cell? ⟨w.heap.size, 3, none⟩ = some (.string ax) ∧ w'.cell? ⟨w.heap.size, 4, none⟩ = some (.slice aa am ac) ∧ w'.cell? ⟨w.heap.size, 5, none⟩ = some (.slice al ao ad)) ∧ (w'.cell? ⟨w.heap.size + 1, 0, none⟩ = some (.int .i64 bk) ∧ w'.cell? ⟨w.heap.size + 1, 1, none⟩ = some (.bool bb) ∧ w'.cell? ⟨w.heap.size + 1, 2, none⟩ = some (.int .i64 bn) ∧ w'.cell? ⟨w.heap.size + 1, 3, none⟩ = some (.string bx) ∧ w'.cell? ⟨w.heap.size + 1, 4, none⟩ = some (.slice ba bm bc) ∧ w'.cell? ⟨w.heap.size + 1, 5, none⟩ = some (.slice bl bo bd))) := fun w' hb =>
    ⟨six_cells ((hb.block _ (by omega)).trans hqa), six_cells ((hb.block _ (by omega)).trans hqb)⟩
  have HL : Hid (∀ w', Below w.heap.size w w' → Lies D w' (.agg #[.int .i64 ak, .bool ab, .int .i64 an, .string ax, .slice aa am ac, .slice al ao ad]) A ∧ Lies D w' (.agg #[.int .i64 bk, .bool bb, .int .i64 bn, .string bx, .slice ba bm bc, .slice bl bo bd]) B ∧ D ≤ w'.heap.size ∧ Tabs w') := fun w' hb => ⟨HLL.out.1.below (hb.mono hD), HLL.out.2.below (hb.mono hD), Nat.le_trans hD hb.size, hT.below hb⟩
  have hl3 := HL.out W3 hb3
  have hlt3 : w.heap.size + 1 + 1 < W3.heap.size := (Array.getElem?_eq_some_iff.1 hq3).1
  have HSM := hidE (smalls_any [A, B] W3.heap.size (some ⟨w.heap.size + 1 + 1, 0, none⟩) 2 W3 (Nat.le_refl _) (.inr ⟨_, _, rfl, hlt3, kids_two hq3 (hl3.1.mono hl3.2.2.1) (hl3.2.1.mono hl3.2.2.1)⟩) (Nat.le_refl _) (by unfold maxLen; omega) (by intro t ht; simp only [List.mem_cons, List.not_mem_nil, or_false] at ht; rcases ht with rfl | rfl; exact sA; exact sB))
  have HWK : Hid (∀ w', Below w.heap.size w w' → Calls Tryz.prog 16 #[] w' fun e w2 => e = .returned (.bool true) ∧ Below w'.heap.size w' w2) := fun w' hb => works_any w' (hT.below hb) (fun w2 h => hP w2 (hb.trans (h.mono hb.size)))
  have HW2 := hidE hW2
  have HW3 := hidE hW3
  have HB := hidE (And.intro hb2 (And.intro hb23 hb3))
  have HSAB := hidE (And.intro sA sB)
  clear hW2 hW3 hb2 hb23 hb3 hqa hqb hq3 hl3 hlt3 hA hB sA sB hT hP hs2
  go_enter Tryz.func13, Tryz.ntmps13
  go_wp2_with fail
  rw [HW2.out, HW3.out]
  refine HSM.out.mono ?_
  rintro e w5 ⟨rfl, hb5⟩
  have hb25 : Below W2.heap.size W2 w5 := below_on HB.out.2.1 hb5
  have hbw5 : Below w.heap.size w w5 := below_on HB.out.2.2 hb5
  have HB5 := hidE (And.intro hb25 hbw5)
  obtain ⟨⟨a0, a1, a2, a3, a4, a5⟩, ⟨b0, b1, b2, b3, b4, b5⟩⟩ := HX.out w5 hb25
  clear hb5 hb25 hbw5 HSM
  by_cases hsm : smalls [A, B] ≤ 2000
  · have HTOT := hidE (small_total hsm)
    have hmA : Modest A := modest_total (HTOT.out A (by simp))
    have hmB : Modest B := modest_total (HTOT.out B (by simp))
    have HMM := hidE (And.intro hmA hmB)
    have hd : decide (smalls [A, B] ≤ 2000) = true := by simp [hsm]
    rw [hd]
    clear hmA hmB hsm hd
    go_wp2_with fail
    refine (check_any _ A w5 ((HL.out w5 HB5.out.2).1.mono (HL.out w5 HB5.out.2).2.2.1) (HL.out w5 HB5.out.2).2.2.2 HMM.out.1.1 HMM.out.1.2).mono ?_
    rintro e w6 ⟨rfl, hb6⟩
    have hb26 : Below W2.heap.size W2 w6 := below_on HB5.out.1 hb6
    have hbw6 : Below w.heap.size w w6 := below_on HB5.out.2 hb6
    have HB6 := hidE (And.intro hb26 hbw6)
    clear a0 a1 a2 a3 a4 a5 b0 b1 b2 b3 b4 b5
    obtain ⟨⟨a0, a1, a2, a3, a4, a5⟩, ⟨b0, b1, b2, b3, b4, b5⟩⟩ := HX.out w6 hb26
    clear hb6 hb26 hbw6
    obtain ⟨zA, hzA⟩ : ∃ z, checkN A = z := ⟨_, rfl⟩
    have HZA := hidE hzA
    rw [hzA]
    clear hzA
    go_wp2_with fail
    refine (num_any zA w6).mono ?_
    rintro e w7 ⟨rfl, hb7⟩
    have hb27 : Below W2.heap.size W2 w7 := below_on HB6.out.1 hb7
    have hbw7 : Below w.heap.size w w7 := below_on HB6.out.2 hb7
    have HB7 := hidE (And.intro hb27 hbw7)
    clear a0 a1 a2 a3 a4 a5 b0 b1 b2 b3 b4 b5
    obtain ⟨⟨a0, a1, a2, a3, a4, a5⟩, ⟨b0, b1, b2, b3, b4, b5⟩⟩ := HX.out w7 hb27
    clear hb7 hb27 hbw7
    by_cases cA : zA = 0
    · have nA : (zA != 0) = false := by simp [cA]
      have HCA : Hid (checkN A = 0) := by show _ = _; rw [HZA.out]; exact cA
      clear cA
      go_wp2_with fail
      refine (check_any _ B w7 ((HL.out w7 HB7.out.2).2.1.mono (HL.out w7 HB7.out.2).2.2.1) (HL.out w7 HB7.out.2).2.2.2 HMM.out.2.1 HMM.out.2.2).mono ?_
      rintro e w8 ⟨rfl, hb8⟩
      have hb28 : Below W2.heap.size W2 w8 := below_on HB7.out.1 hb8
      have hbw8 : Below w.heap.size w w8 := below_on HB7.out.2 hb8
      have HB8 := hidE (And.intro hb28 hbw8)
      clear a0 a1 a2 a3 a4 a5 b0 b1 b2 b3 b4 b5
      obtain ⟨⟨a0, a1, a2, a3, a4, a5⟩, ⟨b0, b1, b2, b3, b4, b5⟩⟩ := HX.out w8 hb28
      clear hb8 hb28 hbw8
      obtain ⟨zB, hzB⟩ : ∃ z, checkN B = z := ⟨_, rfl⟩
      have HZB := hidE hzB
      rw [hzB]
      clear hzB
      go_wp2_with fail
      refine (num_any zB w8).mono ?_
      rintro e w9 ⟨rfl, hb9⟩
      have hb29 : Below W2.heap.size W2 w9 := below_on HB8.out.1 hb9
      have hbw9 : Below w.heap.size w w9 := below_on HB8.out.2 hb9
      have HB9 := hidE (And.intro hb29 hbw9)
      clear a0 a1 a2 a3 a4 a5 b0 b1 b2 b3 b4 b5
      obtain ⟨⟨a0, a1, a2, a3, a4, a5⟩, ⟨b0, b1, b2, b3, b4, b5⟩⟩ := HX.out w9 hb29
      clear hb9 hb29 hbw9
      by_cases cB : zB = 0
      · have nB : (zB != 0) = false := by simp [cB]
        have HCB : Hid (checkN B = 0) := by show _ = _; rw [HZB.out]; exact cB
        clear cB
        go_wp2_with fail
        refine (Equal_any A B D _ _ w9 (HL.out w9 HB9.out.2).2.2.1 (HL.out w9 HB9.out.2).1 (HL.out w9 HB9.out.2).2.1 (HL.out w9 HB9.out.2).2.2.2 HMM.out.1 HMM.out.2).mono ?_
        rintro e w10 ⟨rfl, hb10⟩
        have hb210 : Below W2.heap.size W2 w10 := below_on HB9.out.1 hb10
        have hbw10 : Below w.heap.size w w10 := below_on HB9.out.2 hb10
        have HB10 := hidE (And.intro hb210 hbw10)
        clear a0 a1 a2 a3 a4 a5 b0 b1 b2 b3 b4 b5
        obtain ⟨⟨a0, a1, a2, a3, a4, a5⟩, ⟨b0, b1, b2, b3, b4, b5⟩⟩ := HX.out w10 hb210
        clear hb10 hb210 hbw10
        obtain ⟨t, ht⟩ : ∃ t, equalN A B = t := ⟨_, rfl⟩
        have HLAW := hidE (equal_laws HCA.out HCB.out)
        have HLES := hidE (less_laws HCA.out HCB.out)
        have HTT := hidE ht
        rw [ht]
        clear ht
        go_wp2_with fail
        refine (Same_any A B D _ _ w10 (HL.out w10 HB10.out.2).2.2.1 (HL.out w10 HB10.out.2).1 (HL.out w10 HB10.out.2).2.1 (HL.out w10 HB10.out.2).2.2.2 HMM.out.1 HMM.out.2).mono ?_
        rintro e w11 ⟨rfl, hb11⟩
        have hb211 : Below W2.heap.size W2 w11 := below_on HB10.out.1 hb11
        have hbw11 : Below w.heap.size w w11 := below_on HB10.out.2 hb11
        have HB11 := hidE (And.intro hb211 hbw11)
        clear a0 a1 a2 a3 a4 a5 b0 b1 b2 b3 b4 b5
        obtain ⟨⟨a0, a1, a2, a3, a4, a5⟩, ⟨b0, b1, b2, b3, b4, b5⟩⟩ := HX.out w11 hb211
        clear hb11 hb211 hbw11
        obtain ⟨sm, hsm⟩ : ∃ s, sameB A B = s := ⟨_, rfl⟩
        have HSB : Hid (sm = (ordT A B == 0)) := by show _ = _; rw [← hsm]; unfold sameB; simp [HCA.out, HCB.out]
        rw [hsm]
        clear hsm
        have HKA := hidE (lies_kind HLL.out.1)
        have HKB := hidE (lies_kind HLL.out.2)
        go_upto_region 5 with fail
        go_cut [61] from 34 to 61 (fun u wx => u = .bool false ∧ Below W2.heap.size W2 wx ∧ Below w.heap.size w wx)
        case first =>
          obtain ⟨e0, e1, e2, e3⟩ := HLAW.out.2
          rw [HTT.out] at e0 e1 e2 e3
          have HQ : Hid (equalN B A = t) := by show _ = _; rw [HLAW.out.1]; exact HTT.out
          have HE := hidE (And.intro e1 e2)
          clear e1 e2 e3 HLES
          rcases e0 with rfl | rfl | rfl
          · have : sm = false := by rw [HSB.out]; simpa using HE.out.2 rfl
            subst this
            clear HE
            go_wp2_with fail
            refine (Equal_any B A D _ _ w11 (HL.out w11 HB11.out.2).2.2.1 (HL.out w11 HB11.out.2).2.1 (HL.out w11 HB11.out.2).1 (HL.out w11 HB11.out.2).2.2.2 HMM.out.2 HMM.out.1).mono ?_
            rintro e w12 ⟨rfl, hb12⟩
            have hb212 : Below W2.heap.size W2 w12 := below_on HB11.out.1 hb12
            have hbw12 : Below w.heap.size w w12 := below_on HB11.out.2 hb12
            have HB12 := hidE (And.intro hb212 hbw12)
            clear a0 a1 a2 a3 a4 a5 b0 b1 b2 b3 b4 b5
            obtain ⟨⟨a0, a1, a2, a3, a4, a5⟩, ⟨b0, b1, b2, b3, b4, b5⟩⟩ := HX.out w12 hb212
            clear hb12 hb212 hbw12
            rw [HQ.out]
            go_wp2_with fail
            go_meet
            exact ⟨rfl, HB12.out.1, HB12.out.2⟩
          · clear HE
            go_wp2_with fail
            refine (Equal_any B A D _ _ w11 (HL.out w11 HB11.out.2).2.2.1 (HL.out w11 HB11.out.2).2.1 (HL.out w11 HB11.out.2).1 (HL.out w11 HB11.out.2).2.2.2 HMM.out.2 HMM.out.1).mono ?_
            rintro e w12 ⟨rfl, hb12⟩
            have hb212 : Below W2.heap.size W2 w12 := below_on HB11.out.1 hb12
            have hbw12 : Below w.heap.size w w12 := below_on HB11.out.2 hb12
            have HB12 := hidE (And.intro hb212 hbw12)
            clear a0 a1 a2 a3 a4 a5 b0 b1 b2 b3 b4 b5
            obtain ⟨⟨a0, a1, a2, a3, a4, a5⟩, ⟨b0, b1, b2, b3, b4, b5⟩⟩ := HX.out w12 hb212
            clear hb12 hb212 hbw12
            rw [HQ.out]
            go_wp2_with fail
            go_meet
            exact ⟨rfl, HB12.out.1, HB12.out.2⟩
          · have : sm = true := by rw [HSB.out]; simpa using HE.out.1 rfl
            subst this
            clear HE
            go_wp2_with fail
            refine (Equal_any B A D _ _ w11 (HL.out w11 HB11.out.2).2.2.1 (HL.out w11 HB11.out.2).2.1 (HL.out w11 HB11.out.2).1 (HL.out w11 HB11.out.2).2.2.2 HMM.out.2 HMM.out.1).mono ?_
            rintro e w12 ⟨rfl, hb12⟩
            have hb212 : Below W2.heap.size W2 w12 := below_on HB11.out.1 hb12
            have hbw12 : Below w.heap.size w w12 := below_on HB11.out.2 hb12
            have HB12 := hidE (And.intro hb212 hbw12)
            clear a0 a1 a2 a3 a4 a5 b0 b1 b2 b3 b4 b5
            obtain ⟨⟨a0, a1, a2, a3, a4, a5⟩, ⟨b0, b1, b2, b3, b4, b5⟩⟩ := HX.out w12 hb212
            clear hb12 hb212 hbw12
            rw [HQ.out]
            go_wp2_with fail
            go_meet
            exact ⟨rfl, HB12.out.1, HB12.out.2⟩
        case rest =>
          rename World => w12
          obtain ⟨rfl, hb2c, hbwc⟩ := hcut
          have HB12 := hidE (And.intro hb2c hbwc)
          clear a0 a1 a2 a3 a4 a5 b0 b1 b2 b3 b4 b5
          obtain ⟨⟨a0, a1, a2, a3, a4, a5⟩, ⟨b0, b1, b2, b3, b4, b5⟩⟩ := HX.out w12 hb2c
          clear hb2c hbwc HB5
          go_upto_region 7 with fail
          go_cut [73] from 62 to 73 (fun u wx => u = .bool false ∧ Below W2.heap.size W2 wx ∧ Below w.heap.size w wx)
          case first =>
            obtain ⟨xa, hxa⟩ : ∃ x, noneB A = x := ⟨_, rfl⟩
            obtain ⟨xb, hxb⟩ : ∃ x, noneB B = x := ⟨_, rfl⟩
            have HXA := hidE hxa
            have HXB := hidE hxb
            have HN : Hid (xa = false → xb = false → t ≠ 1) := by
              show _ → _ → _
              have := HLAW.out.2.2.2.2
              rw [HTT.out, hxa, hxb] at this
              exact this
            clear hxa hxb HLES
            go_wp2_with fail
            refine (nothing_any A D _ w12 (HL.out w12 HB12.out.2).2.2.1 (HL.out w12 HB12.out.2).1).mono ?_
            rintro e w13 ⟨rfl, hb13⟩
            have hb213 : Below W2.heap.size W2 w13 := below_on HB12.out.1 hb13
            have hbw13 : Below w.heap.size w w13 := below_on HB12.out.2 hb13
            have HB13 := hidE (And.intro hb213 hbw13)
            clear a0 a1 a2 a3 a4 a5 b0 b1 b2 b3 b4 b5
            obtain ⟨⟨a0, a1, a2, a3, a4, a5⟩, ⟨b0, b1, b2, b3, b4, b5⟩⟩ := HX.out w13 hb213
            clear hb13 hb213 hbw13
            rw [HXA.out]
            cases xa with
            | true =>
              go_wp2_with fail
              go_meet
              exact ⟨rfl, HB13.out.1, HB13.out.2⟩
            | false =>
              go_wp2_with fail
              refine (nothing_any B D _ w13 (HL.out w13 HB13.out.2).2.2.1 (HL.out w13 HB13.out.2).2.1).mono ?_
              rintro e w14 ⟨rfl, hb14⟩
              have hb214 : Below W2.heap.size W2 w14 := below_on HB13.out.1 hb14
              have hbw14 : Below w.heap.size w w14 := below_on HB13.out.2 hb14
              have HB14 := hidE (And.intro hb214 hbw14)
              clear a0 a1 a2 a3 a4 a5 b0 b1 b2 b3 b4 b5
              obtain ⟨⟨a0, a1, a2, a3, a4, a5⟩, ⟨b0, b1, b2, b3, b4, b5⟩⟩ := HX.out w14 hb214
              clear hb14 hb214 hbw14
              rw [HXB.out]
              cases xb with
              | true =>
                go_wp2_with fail
                go_meet
                exact ⟨rfl, HB14.out.1, HB14.out.2⟩
              | false =>
                have ht1 : (t == 1) = false := by have hh := HN.out; simpa using hh
                go_wp2_with fail
                go_meet
                exact ⟨rfl, HB14.out.1, HB14.out.2⟩
          case rest =>
            rename World => w15
            obtain ⟨rfl, hb2c, hbwc⟩ := hcut
            have HB15 := hidE (And.intro hb2c hbwc)
            clear a0 a1 a2 a3 a4 a5 b0 b1 b2 b3 b4 b5
            obtain ⟨⟨a0, a1, a2, a3, a4, a5⟩, ⟨b0, b1, b2, b3, b4, b5⟩⟩ := HX.out w15 hb2c
            clear hb2c hbwc HB12
            go_upto_region 9 with fail
            show (Code.region 9 RQ9 true).wp _ _ _ _
            refine regionQ9 w.heap.size (w.heap.size + 1) D (.int .i64 ak) (.bool ab) (.int .i64 an) (.string ax) (.slice aa am ac) (.slice al ao ad) (.int .i64 bk) (.bool bb) (.int .i64 bn) (.string bx) (.slice ba bm bc) (.slice bl bo bd) A B _ _ w15 rfl ⟨rfl, rfl⟩ (fun w16 hb16 => ?_) ?_
            · have hb3 : Below W2.heap.size W2 w16 := below_on HB15.out.1 hb16
              have hbw : Below w.heap.size w w16 := below_on HB15.out.2 hb16
              obtain ⟨⟨a0, a1, a2, a3, a4, a5⟩, ⟨b0, b1, b2, b3, b4, b5⟩⟩ := HX.out w16 hb3
              obtain ⟨l1, l2, l4, l5⟩ := HL.out w16 hbw
              exact ⟨a0, a1, a2, a3, a4, a5, b0, b1, b2, b3, b4, b5, l1, l2, l4, l5, HMM.out.1, HMM.out.2⟩
            intro c w16 hS hb16 h7 h8
            have hb216 : Below W2.heap.size W2 w16 := below_on HB15.out.1 hb16
            have hbw16 : Below w.heap.size w w16 := below_on HB15.out.2 hb16
            have HB16 := hidE (And.intro hb216 hbw16)
            clear a0 a1 a2 a3 a4 a5 b0 b1 b2 b3 b4 b5
            obtain ⟨⟨a0, a1, a2, a3, a4, a5⟩, ⟨b0, b1, b2, b3, b4, b5⟩⟩ := HX.out w16 hb216
            clear hb16 hb216 hbw16
            have hl : c = ⟨#[Value.agg #[Value.int IntKind.i64 ak, Value.bool ab, Value.int IntKind.i64 an, Value.string ax, Value.slice aa am ac, Value.slice al ao ad], Value.agg #[Value.int IntKind.i64 bk, Value.bool bb, Value.int IntKind.i64 bn, Value.string bx, Value.slice ba bm bc, Value.slice bl bo bd], Value.pointer (some { block := w.heap.size, off := 0 }), Value.pointer (some { block := w.heap.size + 1, off := 0 }), Value.bool false, Value.int IntKind.i64 t, Value.bool sm, c.eval (.tmp 7), c.eval (.tmp 8), undef, Value.agg #[Value.int IntKind.i64 ak, Value.bool ab, Value.int IntKind.i64 an, Value.string ax, Value.slice aa am ac, Value.slice al ao ad], Value.agg #[Value.int IntKind.i64 bk, Value.bool bb, Value.int IntKind.i64 bn, Value.string bx, Value.slice ba bm bc, Value.slice bl bo bd], Value.slice (some { block := w.heap.size + 1 + 1, off := 0 }) 2 2, Value.bool true, Value.bool false, Value.bool false, Value.agg #[Value.int IntKind.i64 ak, Value.bool ab, Value.int IntKind.i64 an, Value.string ax, Value.slice aa am ac, Value.slice al ao ad], Value.int IntKind.i64 zA, Value.int IntKind.i64 zA, Value.bool false, Value.bool false, Value.bool false, Value.agg #[Value.int IntKind.i64 bk, Value.bool bb, Value.int IntKind.i64 bn, Value.string bx, Value.slice ba bm bc, Value.slice bl bo bd], Value.int IntKind.i64 zB, Value.int IntKind.i64 zB, Value.bool false, Value.bool false, undef, Value.agg #[Value.int IntKind.i64 ak, Value.bool ab, Value.int IntKind.i64 an, Value.string ax, Value.slice aa am ac, Value.slice al ao ad], Value.agg #[Value.int IntKind.i64 bk, Value.bool bb, Value.int IntKind.i64 bn, Value.string bx, Value.slice ba bm bc, Value.slice bl bo bd], Value.int IntKind.i64 t, Value.agg #[Value.int IntKind.i64 ak, Value.bool ab, Value.int IntKind.i64 an, Value.string ax, Value.slice aa am ac, Value.slice al ao ad], Value.agg #[Value.int IntKind.i64 bk, Value.bool bb, Value.int IntKind.i64 bn, Value.string bx, Value.slice ba bm bc, Value.slice bl bo bd], Value.bool sm, u34, u35, u36, u37, u38, u39, u40, u41, u42, u43, u44, u45, u46, u47, u48, u49, u50, u51, u52, u53, u54, u55, u56, u57, u58, u59, u60, Value.bool false, u62, u63, u64, u65, u66, u67, u68, u69, u70, u71, u72, Value.bool false, c.eval (.tmp 74), c.eval (.tmp 75), c.eval (.tmp 76), c.eval (.tmp 77), c.eval (.tmp 78), c.eval (.tmp 79), undef, undef, undef, undef, undef, undef, undef, undef, undef, undef, undef, undef, undef, undef, undef, undef, undef, undef, undef, undef, undef, undef, undef, undef, undef, undef, undef, undef, undef, undef, undef, undef, undef, undef, undef, undef, undef, undef, undef, undef, undef, undef, undef, undef, undef, undef, undef, undef, undef, undef, undef, undef, undef, undef], []⟩ := (same_lay hS).trans (by kernel_rfl)
            rw [h7, h8] at hl
            generalize c.eval (.tmp 74) = z74 at hl
            generalize c.eval (.tmp 75) = z75 at hl
            generalize c.eval (.tmp 76) = z76 at hl
            generalize c.eval (.tmp 77) = z77 at hl
            generalize c.eval (.tmp 78) = z78 at hl
            generalize c.eval (.tmp 79) = z79 at hl
            clear hS h7 h8
            subst hl
            have hkk : ak = A.kind := HKA.out.symm
            have hkb : bk = B.kind := HKB.out.symm
            rcases HLES.out with ⟨⟨h1, h2⟩, h3⟩ | ⟨h1, h2, h3⟩
            · have hab : bk = ak := by rw [hkk, hkb, h1]
              have hp := plain_three h2
              rw [← hkk] at hp
              rw [HTT.out] at h3
              clear h1 h2 hkk hkb HKA HKB HLAW HLES
              subst hab
              have HP := hidE hp
              clear hp
              obtain ⟨x, hx⟩ : ∃ x, lessN A B = x := ⟨_, rfl⟩
              obtain ⟨y, hy⟩ : ∃ y, lessN B A = y := ⟨_, rfl⟩
              rw [hx, hy] at h3 ⊢
              clear hx hy
              rcases h3 with ⟨rfl, rfl, rfl⟩ | ⟨rfl, rfl, rfl⟩ | ⟨rfl, rfl, rfl⟩ <;> rcases HP.out with rfl | rfl | rfl
              all_goals
                clear HP
                go_wp2_with fail
                refine (HWK.out w16 HB16.out.2).mono ?_
                rintro e w99 ⟨rfl, hb99⟩
                have HF : Hid (Below w.heap.size w w99) := below_on HB16.out.2 hb99
                clear hb99
                go_wp2_with fail
                go_ret
                exact ⟨rfl, HF.out⟩
            · obtain ⟨x, hx⟩ : ∃ x, lessN A B = x := ⟨_, rfl⟩
              obtain ⟨y, hy⟩ : ∃ y, lessN B A = y := ⟨_, rfl⟩
              rw [hx] at h2
              rw [hy] at h3
              rw [hx, hy]
              clear hx hy
              subst h2
              subst h3
              rw [← hkk, ← hkb] at h1
              clear hkk hkb HKA HKB HLAW HLES
              by_cases hab : ak = bk
              · subst hab
                have n1 : (ak == 1) = false := by simp only [true_and] at h1; simp [plainB] at h1; simp [h1]
                have n2 : (ak == 2) = false := by simp only [true_and] at h1; simp [plainB] at h1; simp [h1]
                have n3 : (ak == 3) = false := by simp only [true_and] at h1; simp [plainB] at h1; simp [h1]
                clear h1
                go_wp2_with fail
                refine (HWK.out w16 HB16.out.2).mono ?_
                rintro e w99 ⟨rfl, hb99⟩
                have HF : Hid (Below w.heap.size w w99) := below_on HB16.out.2 hb99
                clear hb99
                go_wp2_with fail
                go_ret
                exact ⟨rfl, HF.out⟩
              · have nab : (ak == bk) = false := by simp [hab]
                clear h1
                go_wp2_with fail
                refine (HWK.out w16 HB16.out.2).mono ?_
                rintro e w99 ⟨rfl, hb99⟩
                have HF : Hid (Below w.heap.size w w99) := below_on HB16.out.2 hb99
                clear hb99
                go_wp2_with fail
                go_ret
                exact ⟨rfl, HF.out⟩
      · have nB : (zB != 0) = true := by simp [cB]
        clear cB
        go_wp2_with fail
        refine (HWK.out w9 HB9.out.2).mono ?_
        rintro e w99 ⟨rfl, hb99⟩
        have HF : Hid (Below w.heap.size w w99) := below_on HB9.out.2 hb99
        clear hb99
        go_wp2_with fail
        go_ret
        exact ⟨rfl, HF.out⟩
    · have nA : (zA != 0) = true := by simp [cA]
      clear cA
      go_wp2_with fail
      refine (HWK.out w7 HB7.out.2).mono ?_
      rintro e w99 ⟨rfl, hb99⟩
      have HF : Hid (Below w.heap.size w w99) := below_on HB7.out.2 hb99
      clear hb99
      go_wp2_with fail
      go_ret
      exact ⟨rfl, HF.out⟩
  · have hd : decide (smalls [A, B] ≤ 2000) = false := by simp [hsm]
    rw [hd]
    clear hsm hd
    go_wp2_with fail
    refine (HWK.out w5 HB5.out.2).mono ?_
    rintro e w6 ⟨rfl, hb6⟩
    have HF : Hid (Below w.heap.size w w6) := below_on HB5.out.2 hb6
    clear hb6
    go_wp2_with fail
    go_ret
    exact ⟨rfl, HF.out⟩
end Go.Proofs.YtbpmhgcjefpigaaGreatDoor
