/- ValueTotal, walked. -/
import Derived.Test.YtbpmhgcjefpigaaGreatDoorThree
namespace Go.Proofs.YtbpmhgcjefpigaaGreatDoor
open Go.RowKit Go.Shelf Go.Lib
set_option linter.unusedVariables false
set_option linter.unusedSimpArgs false

theorem lies_form {B : Nat} {w : World} {v : Value} {T : Tree} (h : Lies B w v T) : ∃ (k : Int) (x : Bool) (n : Int) (s : ByteArray) (ka : Option Addr) (kn kc : Nat) (la : Option Addr) (ln lc : Nat), v = .agg #[.int .i64 k, .bool x, .int .i64 n, .string s, .slice ka kn kc, .slice la ln lc] := by
  obtain ⟨k, x, n, s, ks, ts⟩ := T
  simp only [Lies] at h
  obtain ⟨ka, kc, la, lc, rfl, -⟩ := h
  exact ⟨_, _, _, _, _, _, _, _, _, _, rfl⟩
theorem six_cells {w : World} {q : Nat} {x0 x1 x2 x3 x4 x5 : Value} {fz : Nat × Nat} (h : w.heap[q]? = some (.cells #[x0, x1, x2, x3, x4, x5] 26 fz)) :
    w.cell? ⟨q, 0, none⟩ = some x0 ∧ w.cell? ⟨q, 1, none⟩ = some x1 ∧ w.cell? ⟨q, 2, none⟩ = some x2 ∧ w.cell? ⟨q, 3, none⟩ = some x3 ∧ w.cell? ⟨q, 4, none⟩ = some x4 ∧ w.cell? ⟨q, 5, none⟩ = some x5 :=
  ⟨box_cell h rfl, box_cell h rfl, box_cell h rfl, box_cell h rfl, box_cell h rfl, box_cell h rfl⟩

set_option maxRecDepth 100000 in
set_option maxHeartbeats 4000000 in
theorem total_any (A B C : Tree) (D : Nat) (va vb vc : Value) (w : World) (hD : D ≤ w.heap.size) (hA : Lies D w va A) (hB : Lies D w vb B) (hC : Lies D w vc C) (sA : Sane A) (sB : Sane B) (sC : Sane C) (hT : Tabs w)
    (hP : TabBelow Tryz.prog w.heap.size w "internal/strconv.uint64pow10" .u64 pow10Tab) : Calls Tryz.prog 11 #[va, vb, vc] w fun e w' => e = .returned (.bool true) ∧ Below w.heap.size w w' := by
  have HLL := hidE (And.intro hA (And.intro hB hC))
  obtain ⟨ak, ab, an, ax, aa, am, ac, al, ao, ad, rfl⟩ := lies_form hA
  obtain ⟨bk, bb, bn, bx, ba, bm, bc, bl, bo, bd, rfl⟩ := lies_form hB
  obtain ⟨ck, cb, cn, cx, ca, cm, cc, cl, co, cd, rfl⟩ := lies_form hC
  obtain ⟨W3, hW3⟩ : ∃ W3, ((w.alloc (.cells #[.int .i64 ak, .bool ab, .int .i64 an, .string ax, .slice aa am ac, .slice al ao ad] 26)).alloc (.cells #[.int .i64 bk, .bool bb, .int .i64 bn, .string bx, .slice ba bm bc, .slice bl bo bd] 26)).alloc (.cells #[.int .i64 ck, .bool cb, .int .i64 cn, .string cx, .slice ca cm cc, .slice cl co cd] 26) = W3 := ⟨_, rfl⟩
  have hs3 : W3.heap.size = w.heap.size + 1 + 1 + 1 := by rw [← hW3]; simp
  have hb3 : Below w.heap.size w W3 := hW3 ▸ (((Below.refl _ _).alloc (Nat.le_refl _) _).alloc (by simp) _).alloc (by simp; omega) _
  have hqa : W3.heap[w.heap.size]? = some (.cells #[.int .i64 ak, .bool ab, .int .i64 an, .string ax, .slice aa am ac, .slice al ao ad] 26 (0, 0)) := by
    rw [← hW3, Below.heap_alloc _ _ _ (by simp; omega), Below.heap_alloc _ _ _ (by simp)]; exact World.alloc_heap_new _ _
  have hqb : W3.heap[w.heap.size + 1]? = some (.cells #[.int .i64 bk, .bool bb, .int .i64 bn, .string bx, .slice ba bm bc, .slice bl bo bd] 26 (0, 0)) := by
    rw [← hW3, Below.heap_alloc _ _ _ (by simp)]
    have := World.alloc_heap_new (w.alloc (.cells #[.int .i64 ak, .bool ab, .int .i64 an, .string ax, .slice aa am ac, .slice al ao ad] 26)) (.cells #[.int .i64 bk, .bool bb, .int .i64 bn, .string bx, .slice ba bm bc, .slice bl bo bd] 26)
    rwa [World.size_alloc] at this
  have hqc : W3.heap[w.heap.size + 1 + 1]? = some (.cells #[.int .i64 ck, .bool cb, .int .i64 cn, .string cx, .slice ca cm cc, .slice cl co cd] 26 (0, 0)) := by
    rw [← hW3]
    have := World.alloc_heap_new ((w.alloc (.cells #[.int .i64 ak, .bool ab, .int .i64 an, .string ax, .slice aa am ac, .slice al ao ad] 26)).alloc (.cells #[.int .i64 bk, .bool bb, .int .i64 bn, .string bx, .slice ba bm bc, .slice bl bo bd] 26)) (.cells #[.int .i64 ck, .bool cb, .int .i64 cn, .string cx, .slice ca cm cc, .slice cl co cd] 26)
    simpa only [World.size_alloc] using this
  obtain ⟨W4, hW4⟩ : ∃ W4, W3.alloc (.cells #[.int .i64 ak, .bool ab, .int .i64 an, .string ax, .slice aa am ac, .slice al ao ad, .int .i64 bk, .bool bb, .int .i64 bn, .string bx, .slice ba bm bc, .slice bl bo bd, .int .i64 ck, .bool cb, .int .i64 cn, .string cx, .slice ca cm cc, .slice cl co cd] 26) = W4 := ⟨_, rfl⟩
  have hb34 : Below W3.heap.size W3 W4 := hW4 ▸ (Below.refl _ _).alloc (Nat.le_refl _) _
  have hq4 : W4.heap[w.heap.size + 1 + 1 + 1]? = some (.cells #[.int .i64 ak, .bool ab, .int .i64 an, .string ax, .slice aa am ac, .slice al ao ad, .int .i64 bk, .bool bb, .int .i64 bn, .string bx, .slice ba bm bc, .slice bl bo bd, .int .i64 ck, .bool cb, .int .i64 cn, .string cx, .slice ca cm cc, .slice cl co cd] 26 (0, 0)) := by
    rw [← hs3, ← hW4]; exact World.alloc_heap_new _ _
  have hb4 : Below w.heap.size w W4 := below_on hb3 hb34
  have HX : Hid (∀ w', Below W3.heap.size W3 w' → (w'.cell? ⟨w.heap.size, 0, none⟩ = some (.int .i64 ak) ∧ w'.cell? ⟨w.heap.size, 1, none⟩ = some (.bool ab) ∧ w'.cell? ⟨w.heap.size, 2, none⟩ = some (.int .i64 an) ∧ w'.cell? ⟨w.heap.size, 3, none⟩ = some (.string ax) ∧ w'.cell? ⟨w.heap.size, 4, none⟩ = some (.slice aa am ac) ∧ w'.cell? ⟨w.heap.size, 5, none⟩ = some (.slice al ao ad)) ∧
      (w'.cell? ⟨w.heap.size + 1, 0, none⟩ = some (.int .i64 bk) ∧ w'.cell? ⟨w.heap.size + 1, 1, none⟩ = some (.bool bb) ∧ w'.cell? ⟨w.heap.size + 1, 2, none⟩ = some (.int .i64 bn) ∧ w'.cell? ⟨w.heap.size + 1, 3, none⟩ = some (.string bx) ∧ w'.cell? ⟨w.heap.size + 1, 4, none⟩ = some (.slice ba bm bc) ∧ w'.cell? ⟨w.heap.size + 1, 5, none⟩ = some (.slice bl bo bd)) ∧
      (w'.cell? ⟨w.heap.size + 1 + 1, 0, none⟩ = some (.int .i64 ck) ∧ w'.cell? ⟨w.heap.size + 1 + 1, 1, none⟩ = some (.bool cb) ∧ w'.cell? ⟨w.heap.size + 1 + 1, 2, none⟩ = some (.int .i64 cn) ∧ w'.cell? ⟨w.heap.size + 1 + 1, 3, none⟩ = some (.string cx) ∧ w'.cell? ⟨w.heap.size + 1 + 1, 4, none⟩ = some (.slice ca cm cc) ∧ w'.cell? ⟨w.heap.size + 1 + 1, 5, none⟩ = some (.slice cl co cd))) := fun w' hb =>
    ⟨six_cells ((hb.block _ (by omega)).trans hqa), six_cells ((hb.block _ (by omega)).trans hqb), six_cells ((hb.block _ (by omega)).trans hqc)⟩
  have HL : Hid (∀ w', Below w.heap.size w w' → Lies D w' (.agg #[.int .i64 ak, .bool ab, .int .i64 an, .string ax, .slice aa am ac, .slice al ao ad]) A ∧ Lies D w' (.agg #[.int .i64 bk, .bool bb, .int .i64 bn, .string bx, .slice ba bm bc, .slice bl bo bd]) B ∧ Lies D w' (.agg #[.int .i64 ck, .bool cb, .int .i64 cn, .string cx, .slice ca cm cc, .slice cl co cd]) C ∧ D ≤ w'.heap.size ∧ Tabs w') := fun w' hb => ⟨HLL.out.1.below (hb.mono hD), HLL.out.2.1.below (hb.mono hD), HLL.out.2.2.below (hb.mono hD), Nat.le_trans hD hb.size, hT.below hb⟩
  have hl4 := HL.out W4 hb4
  have hlt4 : w.heap.size + 1 + 1 + 1 < W4.heap.size := (Array.getElem?_eq_some_iff.1 hq4).1
  have HSM := hidE (smalls_any [A, B, C] W4.heap.size (some ⟨w.heap.size + 1 + 1 + 1, 0, none⟩) 3 W4 (Nat.le_refl _) (.inr ⟨_, _, rfl, hlt4, three_kids hq4 (hl4.1.mono hl4.2.2.2.1) (hl4.2.1.mono hl4.2.2.2.1) (hl4.2.2.1.mono hl4.2.2.2.1)⟩) (Nat.le_refl _) (by unfold maxLen; omega) (by intro t ht; simp only [List.mem_cons, List.not_mem_nil, or_false] at ht; rcases ht with rfl | rfl | rfl; exact sA; exact sB; exact sC))
  have HP := hidE (And.intro hT hP)
  have HWK : Hid (∀ w', Below w.heap.size w w' → Calls Tryz.prog 16 #[] w' fun e w2 => e = .returned (.bool true) ∧ Below w'.heap.size w' w2) := fun w' hb => works_any w' (hT.below hb) (fun w2 h => hP w2 (hb.trans (h.mono hb.size)))
  have HW3 := hidE hW3
  have HW4 := hidE hW4
  have HB := hidE (And.intro hb3 (And.intro hb34 hb4))
  obtain ⟨A0, A1, A2⟩ := (HX.out W3 (Below.refl _ _))
  clear hW3 hW4 hb3 hb34 hb4 hqa hqb hqc hq4 hl4 hlt4 hA hB hC sA sB sC hT hP A0 A1 A2 hs3
  go_enter Tryz.func11, Tryz.ntmps11
  go_wp2_with fail
  rw [HW3.out, HW4.out]
  refine HSM.out.mono ?_
  rintro e w5 ⟨rfl, hb5⟩
  have hb35 : Below W3.heap.size W3 w5 := below_on HB.out.2.1 hb5
  have hbw5 : Below w.heap.size w w5 := below_on HB.out.2.2 hb5
  have HB5 := hidE (And.intro hb35 hbw5)
  obtain ⟨⟨a0, a1, a2, a3, a4, a5⟩, ⟨b0, b1, b2, b3, b4, b5⟩, ⟨c0, c1, c2, c3, c4, c5⟩⟩ := HX.out w5 hb35
  clear hb5 hb35 hbw5 HSM
  by_cases hsm : smalls [A, B, C] ≤ 2000
  · have HTOT := hidE (small_total hsm)
    have hmA : Modest A := modest_total (HTOT.out A (by simp))
    have hmB : Modest B := modest_total (HTOT.out B (by simp))
    have hmC : Modest C := modest_total (HTOT.out C (by simp))
    have HMM := hidE (And.intro hmA (And.intro hmB hmC))
    have hd : decide (smalls [A, B, C] ≤ 2000) = true := by simp [hsm]
    rw [hd]
    clear hmA hmB hmC hsm hd
    go_wp2_with fail
    refine (check_any _ A w5 ((HL.out w5 HB5.out.2).1.mono (HL.out w5 HB5.out.2).2.2.2.1) (HL.out w5 HB5.out.2).2.2.2.2 HMM.out.1.1 HMM.out.1.2).mono ?_
    rintro e w6 ⟨rfl, hb6⟩
    have hb36 : Below W3.heap.size W3 w6 := below_on HB5.out.1 hb6
    have hbw6 : Below w.heap.size w w6 := below_on HB5.out.2 hb6
    have HB6 := hidE (And.intro hb36 hbw6)
    clear a0 a1 a2 a3 a4 a5 b0 b1 b2 b3 b4 b5 c0 c1 c2 c3 c4 c5
    obtain ⟨⟨a0, a1, a2, a3, a4, a5⟩, ⟨b0, b1, b2, b3, b4, b5⟩, ⟨c0, c1, c2, c3, c4, c5⟩⟩ := HX.out w6 hb36
    clear hb6 hb36 hbw6
    obtain ⟨zA, hzA⟩ : ∃ z, checkN A = z := ⟨_, rfl⟩
    have HZA := hidE hzA
    rw [hzA]
    clear hzA
    go_wp2_with fail
    refine (num_any zA w6).mono ?_
    rintro e w7 ⟨rfl, hb7⟩
    have hb37 : Below W3.heap.size W3 w7 := below_on HB6.out.1 hb7
    have hbw7 : Below w.heap.size w w7 := below_on HB6.out.2 hb7
    have HB7 := hidE (And.intro hb37 hbw7)
    clear a0 a1 a2 a3 a4 a5 b0 b1 b2 b3 b4 b5 c0 c1 c2 c3 c4 c5
    obtain ⟨⟨a0, a1, a2, a3, a4, a5⟩, ⟨b0, b1, b2, b3, b4, b5⟩, ⟨c0, c1, c2, c3, c4, c5⟩⟩ := HX.out w7 hb37
    clear hb7 hb37 hbw7
    by_cases cA : zA = 0
    · have nA : (zA != 0) = false := by simp [cA]
      have HCA : Hid (checkN A = 0) := by show _ = _; rw [HZA.out]; exact cA
      clear cA
      go_wp2_with fail
      refine (check_any _ B w7 ((HL.out w7 HB7.out.2).2.1.mono (HL.out w7 HB7.out.2).2.2.2.1) (HL.out w7 HB7.out.2).2.2.2.2 HMM.out.2.1.1 HMM.out.2.1.2).mono ?_
      rintro e w8 ⟨rfl, hb8⟩
      have hb38 : Below W3.heap.size W3 w8 := below_on HB7.out.1 hb8
      have hbw8 : Below w.heap.size w w8 := below_on HB7.out.2 hb8
      have HB8 := hidE (And.intro hb38 hbw8)
      clear a0 a1 a2 a3 a4 a5 b0 b1 b2 b3 b4 b5 c0 c1 c2 c3 c4 c5
      obtain ⟨⟨a0, a1, a2, a3, a4, a5⟩, ⟨b0, b1, b2, b3, b4, b5⟩, ⟨c0, c1, c2, c3, c4, c5⟩⟩ := HX.out w8 hb38
      clear hb8 hb38 hbw8
      obtain ⟨zB, hzB⟩ : ∃ z, checkN B = z := ⟨_, rfl⟩
      have HZB := hidE hzB
      rw [hzB]
      clear hzB
      go_wp2_with fail
      refine (num_any zB w8).mono ?_
      rintro e w9 ⟨rfl, hb9⟩
      have hb39 : Below W3.heap.size W3 w9 := below_on HB8.out.1 hb9
      have hbw9 : Below w.heap.size w w9 := below_on HB8.out.2 hb9
      have HB9 := hidE (And.intro hb39 hbw9)
      clear a0 a1 a2 a3 a4 a5 b0 b1 b2 b3 b4 b5 c0 c1 c2 c3 c4 c5
      obtain ⟨⟨a0, a1, a2, a3, a4, a5⟩, ⟨b0, b1, b2, b3, b4, b5⟩, ⟨c0, c1, c2, c3, c4, c5⟩⟩ := HX.out w9 hb39
      clear hb9 hb39 hbw9
      by_cases cB : zB = 0
      · have nB : (zB != 0) = false := by simp [cB]
        have HCB : Hid (checkN B = 0) := by show _ = _; rw [HZB.out]; exact cB
        clear cB
        go_wp2_with fail
        refine (check_any _ C w9 ((HL.out w9 HB9.out.2).2.2.1.mono (HL.out w9 HB9.out.2).2.2.2.1) (HL.out w9 HB9.out.2).2.2.2.2 HMM.out.2.2.1 HMM.out.2.2.2).mono ?_
        rintro e w10 ⟨rfl, hb10⟩
        have hb310 : Below W3.heap.size W3 w10 := below_on HB9.out.1 hb10
        have hbw10 : Below w.heap.size w w10 := below_on HB9.out.2 hb10
        have HB10 := hidE (And.intro hb310 hbw10)
        clear a0 a1 a2 a3 a4 a5 b0 b1 b2 b3 b4 b5 c0 c1 c2 c3 c4 c5
        obtain ⟨⟨a0, a1, a2, a3, a4, a5⟩, ⟨b0, b1, b2, b3, b4, b5⟩, ⟨c0, c1, c2, c3, c4, c5⟩⟩ := HX.out w10 hb310
        clear hb10 hb310 hbw10
        obtain ⟨zC, hzC⟩ : ∃ z, checkN C = z := ⟨_, rfl⟩
        have HZC := hidE hzC
        rw [hzC]
        clear hzC
        go_wp2_with fail
        refine (num_any zC w10).mono ?_
        rintro e w11 ⟨rfl, hb11⟩
        have hb311 : Below W3.heap.size W3 w11 := below_on HB10.out.1 hb11
        have hbw11 : Below w.heap.size w w11 := below_on HB10.out.2 hb11
        have HB11 := hidE (And.intro hb311 hbw11)
        clear a0 a1 a2 a3 a4 a5 b0 b1 b2 b3 b4 b5 c0 c1 c2 c3 c4 c5
        obtain ⟨⟨a0, a1, a2, a3, a4, a5⟩, ⟨b0, b1, b2, b3, b4, b5⟩, ⟨c0, c1, c2, c3, c4, c5⟩⟩ := HX.out w11 hb311
        clear hb11 hb311 hbw11
        by_cases cC : zC = 0
        · have nC : (zC != 0) = false := by simp [cC]
          have HCC : Hid (checkN C = 0) := by show _ = _; rw [HZC.out]; exact cC
          clear cC
          go_upto_region 3 with fail
          show (Code.region 3 RX3 true).wp _ _ _ _
          refine regionX3 w.heap.size (w.heap.size + 1) (w.heap.size + 1 + 1) D (.int .i64 ak) (.bool ab) (.int .i64 an) (.string ax) (.slice aa am ac) (.slice al ao ad) (.int .i64 bk) (.bool bb) (.int .i64 bn) (.string bx) (.slice ba bm bc) (.slice bl bo bd) (.int .i64 ck) (.bool cb) (.int .i64 cn) (.string cx) (.slice ca cm cc) (.slice cl co cd) A B C _ _ w11 rfl ⟨rfl, rfl, rfl⟩ (fun w12 hb12 => ?_) ?_
          · have hb3 : Below W3.heap.size W3 w12 := below_on HB11.out.1 hb12
            have hbw : Below w.heap.size w w12 := below_on HB11.out.2 hb12
            obtain ⟨⟨a0, a1, a2, a3, a4, a5⟩, ⟨b0, b1, b2, b3, b4, b5⟩, ⟨c0, c1, c2, c3, c4, c5⟩⟩ := HX.out w12 hb3
            obtain ⟨l1, l2, l3, l4, l5⟩ := HL.out w12 hbw
            exact ⟨a0, a1, a2, a3, a4, a5, b0, b1, b2, b3, b4, b5, c0, c1, c2, c3, c4, c5, l1, l2, l3, l4, l5, HMM.out.1, HMM.out.2.1, HMM.out.2.2⟩
          intro c w12 hS hb12 h7 h8 h9
          have hb312 : Below W3.heap.size W3 w12 := below_on HB11.out.1 hb12
          have hbw12 : Below w.heap.size w w12 := below_on HB11.out.2 hb12
          have HB12 := hidE (And.intro hb312 hbw12)
          clear a0 a1 a2 a3 a4 a5 b0 b1 b2 b3 b4 b5 c0 c1 c2 c3 c4 c5
          obtain ⟨⟨a0, a1, a2, a3, a4, a5⟩, ⟨b0, b1, b2, b3, b4, b5⟩, ⟨c0, c1, c2, c3, c4, c5⟩⟩ := HX.out w12 hb312
          clear hb12 hb312 hbw12
          have hl : c = ⟨#[Value.agg #[Value.int IntKind.i64 ak, Value.bool ab, Value.int IntKind.i64 an, Value.string ax, Value.slice aa am ac, Value.slice al ao ad], Value.agg #[Value.int IntKind.i64 bk, Value.bool bb, Value.int IntKind.i64 bn, Value.string bx, Value.slice ba bm bc, Value.slice bl bo bd], Value.agg #[Value.int IntKind.i64 ck, Value.bool cb, Value.int IntKind.i64 cn, Value.string cx, Value.slice ca cm cc, Value.slice cl co cd], Value.pointer (some { block := w.heap.size, off := 0 }), Value.pointer (some { block := w.heap.size + 1, off := 0 }), Value.pointer (some { block := w.heap.size + 1 + 1, off := 0 }), Value.bool false, c.eval (.tmp 7), c.eval (.tmp 8), c.eval (.tmp 9), Value.agg #[Value.int IntKind.i64 ak, Value.bool ab, Value.int IntKind.i64 an, Value.string ax, Value.slice aa am ac, Value.slice al ao ad], Value.agg #[Value.int IntKind.i64 bk, Value.bool bb, Value.int IntKind.i64 bn, Value.string bx, Value.slice ba bm bc, Value.slice bl bo bd], Value.agg #[Value.int IntKind.i64 ck, Value.bool cb, Value.int IntKind.i64 cn, Value.string cx, Value.slice ca cm cc, Value.slice cl co cd], Value.slice (some { block := w.heap.size + 1 + 1 + 1, off := 0 }) 3 3, Value.bool true, Value.bool false, Value.bool false, Value.agg #[Value.int IntKind.i64 ak, Value.bool ab, Value.int IntKind.i64 an, Value.string ax, Value.slice aa am ac, Value.slice al ao ad], Value.int IntKind.i64 zA, Value.int IntKind.i64 zA, Value.bool false, Value.bool false, Value.bool false, Value.agg #[Value.int IntKind.i64 bk, Value.bool bb, Value.int IntKind.i64 bn, Value.string bx, Value.slice ba bm bc, Value.slice bl bo bd], Value.int IntKind.i64 zB, Value.int IntKind.i64 zB, Value.bool false, Value.bool false, Value.bool false, Value.agg #[Value.int IntKind.i64 ck, Value.bool cb, Value.int IntKind.i64 cn, Value.string cx, Value.slice ca cm cc, Value.slice cl co cd], Value.int IntKind.i64 zC, Value.int IntKind.i64 zC, Value.bool false, Value.bool false, undef, c.eval (.tmp 35), c.eval (.tmp 36), c.eval (.tmp 37), c.eval (.tmp 38), c.eval (.tmp 39), c.eval (.tmp 40), c.eval (.tmp 41), c.eval (.tmp 42), c.eval (.tmp 43), undef, undef, undef, undef, undef, undef, undef, undef, undef, undef, undef, undef, undef, undef, undef, undef, undef, undef, undef, undef, undef, undef, undef, undef, undef, undef, undef, undef, undef, undef, undef, undef, undef, undef, undef, undef, undef, undef, undef, undef, undef, undef, undef, undef, undef, undef, undef, undef, undef, undef, undef, undef, undef, undef, undef, undef, undef, undef, undef, undef, undef, undef, undef, undef, undef, undef, undef, undef, undef, undef, undef, undef, undef, undef, undef, undef, undef, undef, undef, undef], []⟩ := (same_lay hS).trans (by kernel_rfl)
          rw [h7, h8, h9] at hl
          generalize c.eval (.tmp 35) = z35 at hl
          generalize c.eval (.tmp 36) = z36 at hl
          generalize c.eval (.tmp 37) = z37 at hl
          generalize c.eval (.tmp 38) = z38 at hl
          generalize c.eval (.tmp 39) = z39 at hl
          generalize c.eval (.tmp 40) = z40 at hl
          generalize c.eval (.tmp 41) = z41 at hl
          generalize c.eval (.tmp 42) = z42 at hl
          generalize c.eval (.tmp 43) = z43 at hl
          clear hS h7 h8 h9
          subst hl
          have eo : ∀ X Y, checkN X = 0 → checkN Y = 0 → compN X Y = ordT X Y := fun X Y h1 h2 => by unfold compN; rw [if_pos ⟨h1, h2⟩]
          have kA := known_check HCA.out
          have kB := known_check HCB.out
          have kC := known_check HCC.out
          obtain ⟨x, hx⟩ : ∃ x, compN A B = x := ⟨_, rfl⟩
          obtain ⟨y, hy⟩ : ∃ y, compN B C = y := ⟨_, rfl⟩
          obtain ⟨z, hz⟩ : ∃ z, compN A C = z := ⟨_, rfl⟩
          have HBA : Hid (compN B A = -x) := by show _ = _; rw [← hx, eo A B HCA.out HCB.out, eo B A HCB.out HCA.out]; exact ordT_turn A B kA kB
          have HAA : Hid (compN A A = 0) := by show _ = _; rw [eo A A HCA.out HCA.out]; exact ordT_self A kA
          have HSA : Hid (sameB A B = (x == 0)) := by show _ = _; rw [← hx, eo A B HCA.out HCB.out]; unfold sameB; simp [HCA.out, HCB.out]
          have HLD : Hid (Leads x y z) := by show Leads _ _ _; rw [← hx, ← hy, ← hz, eo A B HCA.out HCB.out, eo B C HCB.out HCC.out, eo A C HCA.out HCC.out]; exact ordT_leads A B C kA kB kC
          have HTX : Hid (Three x ∧ Three y ∧ Three z) := by show Three _ ∧ Three _ ∧ Three _; rw [← hx, ← hy, ← hz, eo A B HCA.out HCB.out, eo B C HCB.out HCC.out, eo A C HCA.out HCC.out]; exact ⟨ordT_three A B, ordT_three B C, ordT_three A C⟩
          rw [hx, hy, hz]
          clear eo kA kB kC hx hy hz
          obtain ⟨hx3, hy3, hz3⟩ := HTX.out
          have HYZ := hidE (And.intro hy3 hz3)
          clear hy3 hz3 HTX
          rcases hx3 with rfl | rfl | rfl
          · go_wp2_with fail
            refine (Compare_any B A D _ _ w12 (HL.out w12 HB12.out.2).2.2.2.1 (HL.out w12 HB12.out.2).2.1 (HL.out w12 HB12.out.2).1 (HL.out w12 HB12.out.2).2.2.2.2 HMM.out.2.1 HMM.out.1).mono ?_
            rintro e w13 ⟨rfl, hb13⟩
            have hb313 : Below W3.heap.size W3 w13 := below_on HB12.out.1 hb13
            have hbw13 : Below w.heap.size w w13 := below_on HB12.out.2 hb13
            have HB13 := hidE (And.intro hb313 hbw13)
            clear a0 a1 a2 a3 a4 a5 b0 b1 b2 b3 b4 b5 c0 c1 c2 c3 c4 c5
            obtain ⟨⟨a0, a1, a2, a3, a4, a5⟩, ⟨b0, b1, b2, b3, b4, b5⟩, ⟨c0, c1, c2, c3, c4, c5⟩⟩ := HX.out w13 hb313
            clear hb13 hb313 hbw13
            rw [HBA.out]
            go_wp2_with fail
            refine (Compare_any A A D _ _ w13 (HL.out w13 HB13.out.2).2.2.2.1 (HL.out w13 HB13.out.2).1 (HL.out w13 HB13.out.2).1 (HL.out w13 HB13.out.2).2.2.2.2 HMM.out.1 HMM.out.1).mono ?_
            rintro e w14 ⟨rfl, hb14⟩
            have hb314 : Below W3.heap.size W3 w14 := below_on HB13.out.1 hb14
            have hbw14 : Below w.heap.size w w14 := below_on HB13.out.2 hb14
            have HB14 := hidE (And.intro hb314 hbw14)
            clear a0 a1 a2 a3 a4 a5 b0 b1 b2 b3 b4 b5 c0 c1 c2 c3 c4 c5
            obtain ⟨⟨a0, a1, a2, a3, a4, a5⟩, ⟨b0, b1, b2, b3, b4, b5⟩, ⟨c0, c1, c2, c3, c4, c5⟩⟩ := HX.out w14 hb314
            clear hb14 hb314 hbw14
            rw [HAA.out]
            go_wp2_with fail
            refine (Same_any A B D _ _ w14 (HL.out w14 HB14.out.2).2.2.2.1 (HL.out w14 HB14.out.2).1 (HL.out w14 HB14.out.2).2.1 (HL.out w14 HB14.out.2).2.2.2.2 HMM.out.1 HMM.out.2.1).mono ?_
            rintro e w15 ⟨rfl, hb15⟩
            have hb315 : Below W3.heap.size W3 w15 := below_on HB14.out.1 hb15
            have hbw15 : Below w.heap.size w w15 := below_on HB14.out.2 hb15
            have HB15 := hidE (And.intro hb315 hbw15)
            clear a0 a1 a2 a3 a4 a5 b0 b1 b2 b3 b4 b5 c0 c1 c2 c3 c4 c5
            obtain ⟨⟨a0, a1, a2, a3, a4, a5⟩, ⟨b0, b1, b2, b3, b4, b5⟩, ⟨c0, c1, c2, c3, c4, c5⟩⟩ := HX.out w15 hb315
            clear hb15 hb315 hbw15
            rw [HSA.out]
            obtain ⟨hy3, hz3⟩ := HYZ.out
            have hld := HLD.out
            unfold Leads at hld
            clear HYZ HLD
            rcases hy3 with rfl | rfl | rfl <;> rcases hz3 with rfl | rfl | rfl
            all_goals first
              | (exfalso; omega)
              | (clear hld
                 go_wp2_with fail
                 refine (HWK.out w15 HB15.out.2).mono ?_
                 rintro e w99 ⟨rfl, hb99⟩
                 have HF : Hid (Below w.heap.size w w99) := below_on HB15.out.2 hb99
                 clear hb99
                 go_wp2_with fail
                 go_ret
                 exact ⟨rfl, HF.out⟩)
          · go_wp2_with fail
            refine (Compare_any B A D _ _ w12 (HL.out w12 HB12.out.2).2.2.2.1 (HL.out w12 HB12.out.2).2.1 (HL.out w12 HB12.out.2).1 (HL.out w12 HB12.out.2).2.2.2.2 HMM.out.2.1 HMM.out.1).mono ?_
            rintro e w13 ⟨rfl, hb13⟩
            have hb313 : Below W3.heap.size W3 w13 := below_on HB12.out.1 hb13
            have hbw13 : Below w.heap.size w w13 := below_on HB12.out.2 hb13
            have HB13 := hidE (And.intro hb313 hbw13)
            clear a0 a1 a2 a3 a4 a5 b0 b1 b2 b3 b4 b5 c0 c1 c2 c3 c4 c5
            obtain ⟨⟨a0, a1, a2, a3, a4, a5⟩, ⟨b0, b1, b2, b3, b4, b5⟩, ⟨c0, c1, c2, c3, c4, c5⟩⟩ := HX.out w13 hb313
            clear hb13 hb313 hbw13
            rw [HBA.out]
            go_wp2_with fail
            refine (Compare_any A A D _ _ w13 (HL.out w13 HB13.out.2).2.2.2.1 (HL.out w13 HB13.out.2).1 (HL.out w13 HB13.out.2).1 (HL.out w13 HB13.out.2).2.2.2.2 HMM.out.1 HMM.out.1).mono ?_
            rintro e w14 ⟨rfl, hb14⟩
            have hb314 : Below W3.heap.size W3 w14 := below_on HB13.out.1 hb14
            have hbw14 : Below w.heap.size w w14 := below_on HB13.out.2 hb14
            have HB14 := hidE (And.intro hb314 hbw14)
            clear a0 a1 a2 a3 a4 a5 b0 b1 b2 b3 b4 b5 c0 c1 c2 c3 c4 c5
            obtain ⟨⟨a0, a1, a2, a3, a4, a5⟩, ⟨b0, b1, b2, b3, b4, b5⟩, ⟨c0, c1, c2, c3, c4, c5⟩⟩ := HX.out w14 hb314
            clear hb14 hb314 hbw14
            rw [HAA.out]
            go_wp2_with fail
            refine (Same_any A B D _ _ w14 (HL.out w14 HB14.out.2).2.2.2.1 (HL.out w14 HB14.out.2).1 (HL.out w14 HB14.out.2).2.1 (HL.out w14 HB14.out.2).2.2.2.2 HMM.out.1 HMM.out.2.1).mono ?_
            rintro e w15 ⟨rfl, hb15⟩
            have hb315 : Below W3.heap.size W3 w15 := below_on HB14.out.1 hb15
            have hbw15 : Below w.heap.size w w15 := below_on HB14.out.2 hb15
            have HB15 := hidE (And.intro hb315 hbw15)
            clear a0 a1 a2 a3 a4 a5 b0 b1 b2 b3 b4 b5 c0 c1 c2 c3 c4 c5
            obtain ⟨⟨a0, a1, a2, a3, a4, a5⟩, ⟨b0, b1, b2, b3, b4, b5⟩, ⟨c0, c1, c2, c3, c4, c5⟩⟩ := HX.out w15 hb315
            clear hb15 hb315 hbw15
            rw [HSA.out]
            obtain ⟨hy3, hz3⟩ := HYZ.out
            have hld := HLD.out
            unfold Leads at hld
            clear HYZ HLD
            rcases hy3 with rfl | rfl | rfl <;> rcases hz3 with rfl | rfl | rfl
            all_goals first
              | (exfalso; omega)
              | (clear hld
                 go_wp2_with fail
                 refine (HWK.out w15 HB15.out.2).mono ?_
                 rintro e w99 ⟨rfl, hb99⟩
                 have HF : Hid (Below w.heap.size w w99) := below_on HB15.out.2 hb99
                 clear hb99
                 go_wp2_with fail
                 go_ret
                 exact ⟨rfl, HF.out⟩)
          · go_wp2_with fail
            refine (Compare_any B A D _ _ w12 (HL.out w12 HB12.out.2).2.2.2.1 (HL.out w12 HB12.out.2).2.1 (HL.out w12 HB12.out.2).1 (HL.out w12 HB12.out.2).2.2.2.2 HMM.out.2.1 HMM.out.1).mono ?_
            rintro e w13 ⟨rfl, hb13⟩
            have hb313 : Below W3.heap.size W3 w13 := below_on HB12.out.1 hb13
            have hbw13 : Below w.heap.size w w13 := below_on HB12.out.2 hb13
            have HB13 := hidE (And.intro hb313 hbw13)
            clear a0 a1 a2 a3 a4 a5 b0 b1 b2 b3 b4 b5 c0 c1 c2 c3 c4 c5
            obtain ⟨⟨a0, a1, a2, a3, a4, a5⟩, ⟨b0, b1, b2, b3, b4, b5⟩, ⟨c0, c1, c2, c3, c4, c5⟩⟩ := HX.out w13 hb313
            clear hb13 hb313 hbw13
            rw [HBA.out]
            go_wp2_with fail
            refine (Compare_any A A D _ _ w13 (HL.out w13 HB13.out.2).2.2.2.1 (HL.out w13 HB13.out.2).1 (HL.out w13 HB13.out.2).1 (HL.out w13 HB13.out.2).2.2.2.2 HMM.out.1 HMM.out.1).mono ?_
            rintro e w14 ⟨rfl, hb14⟩
            have hb314 : Below W3.heap.size W3 w14 := below_on HB13.out.1 hb14
            have hbw14 : Below w.heap.size w w14 := below_on HB13.out.2 hb14
            have HB14 := hidE (And.intro hb314 hbw14)
            clear a0 a1 a2 a3 a4 a5 b0 b1 b2 b3 b4 b5 c0 c1 c2 c3 c4 c5
            obtain ⟨⟨a0, a1, a2, a3, a4, a5⟩, ⟨b0, b1, b2, b3, b4, b5⟩, ⟨c0, c1, c2, c3, c4, c5⟩⟩ := HX.out w14 hb314
            clear hb14 hb314 hbw14
            rw [HAA.out]
            go_wp2_with fail
            refine (Same_any A B D _ _ w14 (HL.out w14 HB14.out.2).2.2.2.1 (HL.out w14 HB14.out.2).1 (HL.out w14 HB14.out.2).2.1 (HL.out w14 HB14.out.2).2.2.2.2 HMM.out.1 HMM.out.2.1).mono ?_
            rintro e w15 ⟨rfl, hb15⟩
            have hb315 : Below W3.heap.size W3 w15 := below_on HB14.out.1 hb15
            have hbw15 : Below w.heap.size w w15 := below_on HB14.out.2 hb15
            have HB15 := hidE (And.intro hb315 hbw15)
            clear a0 a1 a2 a3 a4 a5 b0 b1 b2 b3 b4 b5 c0 c1 c2 c3 c4 c5
            obtain ⟨⟨a0, a1, a2, a3, a4, a5⟩, ⟨b0, b1, b2, b3, b4, b5⟩, ⟨c0, c1, c2, c3, c4, c5⟩⟩ := HX.out w15 hb315
            clear hb15 hb315 hbw15
            rw [HSA.out]
            obtain ⟨hy3, hz3⟩ := HYZ.out
            have hld := HLD.out
            unfold Leads at hld
            clear HYZ HLD
            rcases hy3 with rfl | rfl | rfl <;> rcases hz3 with rfl | rfl | rfl
            all_goals first
              | (exfalso; omega)
              | (clear hld
                 go_wp2_with fail
                 refine (HWK.out w15 HB15.out.2).mono ?_
                 rintro e w99 ⟨rfl, hb99⟩
                 have HF : Hid (Below w.heap.size w w99) := below_on HB15.out.2 hb99
                 clear hb99
                 go_wp2_with fail
                 go_ret
                 exact ⟨rfl, HF.out⟩)
        · have nC : (zC != 0) = true := by simp [cC]
          clear cC
          go_wp2_with fail
          refine (HWK.out w11 HB11.out.2).mono ?_
          rintro e w99 ⟨rfl, hb99⟩
          have HF : Hid (Below w.heap.size w w99) := below_on HB11.out.2 hb99
          clear hb99
          go_wp2_with fail
          go_ret
          exact ⟨rfl, HF.out⟩
      · have nB : (zB != 0) = true := by simp [cB]
        clear cB
        go_wp2_with fail
        refine (HWK.out w9 HB9.out.2).mono ?_
        rintro e w99 ⟨rfl, hb99⟩
        have HF : Hid (Below w.heap.size w w99) := below_on HB9.out.2 hb99
        clear hb99
        go_wp2_with fail
        go_ret
        exact ⟨rfl, HF.out⟩
    · have nA : (zA != 0) = true := by simp [cA]
      clear cA
      go_wp2_with fail
      refine (HWK.out w7 HB7.out.2).mono ?_
      rintro e w99 ⟨rfl, hb99⟩
      have HF : Hid (Below w.heap.size w w99) := below_on HB7.out.2 hb99
      clear hb99
      go_wp2_with fail
      go_ret
      exact ⟨rfl, HF.out⟩
  · have hd : decide (smalls [A, B, C] ≤ 2000) = false := by simp [hsm]
    rw [hd]
    clear hsm hd
    go_wp2_with fail
    refine (HWK.out w5 HB5.out.2).mono ?_
    rintro e w6 ⟨rfl, hb6⟩
    have HF : Hid (Below w.heap.size w w6) := below_on HB5.out.2 hb6
    clear hb6
    go_wp2_with fail
    go_ret
    exact ⟨rfl, HF.out⟩
end Go.Proofs.YtbpmhgcjefpigaaGreatDoor
