/- ValueOne, walked. Rows of a call's own that hold values. -/
import Derived.Test.YtbpmhgcjefpigaaGreatDoorJoin32
import Derived.Test.YtbpmhgcjefpigaaGreatDoorOne7
import Derived.Test.YtbpmhgcjefpigaaGreatDoorJoin28
import Derived.Test.YtbpmhgcjefpigaaGreatDoorJoin29
import Derived.Test.YtbpmhgcjefpigaaGreatDoorJoin6
import Derived.Test.YtbpmhgcjefpigaaGreatDoorJoin14
import Derived.Test.YtbpmhgcjefpigaaGreatDoorJoin19
namespace Go.Proofs.YtbpmhgcjefpigaaGreatDoor
open Go.RowKit Go.Shelf Go.Lib
set_option linter.unusedVariables false
set_option linter.unusedSimpArgs false
theorem kids_three {W : World} {bl B : Nat} {a0 a1 a2 a3 a4 a5 b0 b1 b2 b3 b4 b5 : Value} {S T : Tree} (hc : W.heap[bl]? = some (.cells #[a0, a1, a2, a3, a4, a5, b0, b1, b2, b3, b4, b5, a0, a1, a2, a3, a4, a5] 26 (0, 0))) (h1 : Lies B W (.agg #[a0, a1, a2, a3, a4, a5]) S) (h2 : Lies B W (.agg #[b0, b1, b2, b3, b4, b5]) T) : KidsLie B W bl 0 [S, T, S] := by
  have hcell : ∀ i v, (#[a0, a1, a2, a3, a4, a5, b0, b1, b2, b3, b4, b5, a0, a1, a2, a3, a4, a5] : Array Value)[i]? = some v → W.cell? ⟨bl, i, none⟩ = some v := by
    intro i v hi; unfold World.cell?; simp only [hc]; simpa using hi
  simp only [KidsLie]
  exact ⟨⟨_, _, _, _, _, _, ⟨hcell 0 _ rfl, hcell 1 _ rfl, hcell 2 _ rfl, hcell 3 _ rfl, hcell 4 _ rfl, hcell 5 _ rfl⟩, h1⟩, ⟨_, _, _, _, _, _, ⟨hcell 6 _ rfl, hcell 7 _ rfl, hcell 8 _ rfl, hcell 9 _ rfl, hcell 10 _ rfl, hcell 11 _ rfl⟩, h2⟩, ⟨_, _, _, _, _, _, ⟨hcell 12 _ rfl, hcell 13 _ rfl, hcell 14 _ rfl, hcell 15 _ rfl, hcell 16 _ rfl, hcell 17 _ rfl⟩, h1⟩, trivial⟩
theorem may_of {T : Tree} (hc : checkN T = 0) : mayT T = true := by
  rw [check_eq] at hc
  by_cases h : mayT T = true
  · exact h
  · rw [if_neg h] at hc; omega
theorem same_self {A : Tree} (h : checkN A = 0) : sameB A A = true := by
  unfold sameB
  rw [ordT_self A (known_check h)]
  simp [h]
theorem same_tell {A B : Tree} (hA : checkN A = 0) (hB : checkN B = 0) : sameB A B = true ↔ tellG A = tellG B := by
  constructor
  · intro h
    unfold sameB at h
    simp only [Bool.and_eq_true, beq_iff_eq] at h
    rw [ord_one A (may_of hA) B (may_of hB) h.2]
  · intro h
    rw [tell_one (may_of hA) (may_of hB) h]
    exact same_self hB
theorem out_three {A B : Tree} (hA : checkN A = 0) (hB : checkN B = 0) : ∃ r, outL [A, B, A] = A :: r ∧ ((A :: r).length = 1 ↔ sameB A B = true) ∧ (A :: r).length ≤ 2 := by
  have e1 : hasT [] A = false := rfl
  have e2 : hasT [A] B = decide (tellG B = tellG A) := by
    unfold hasT
    rw [Bool.eq_iff_iff, List.contains_iff_mem]
    simp
  unfold outL
  simp only [List.foldl_cons, List.foldl_nil, e1, Bool.false_eq_true, if_false, List.nil_append, e2, decide_eq_true_eq]
  by_cases h : tellG B = tellG A
  · rw [if_pos h]
    have e3 : hasT [A] A = true := by unfold hasT; rw [List.contains_iff_mem]; simp
    rw [if_pos e3]
    exact ⟨[], rfl, ⟨fun _ => (same_tell hA hB).2 h.symm, fun _ => rfl⟩, by show 1 ≤ 2; decide⟩
  · rw [if_neg h]
    have e3 : hasT ([A] ++ [B]) A = true := by unfold hasT; rw [List.contains_iff_mem]; simp
    rw [if_pos e3]
    exact ⟨[B], rfl, ⟨fun h => by simp at h, fun hs => absurd ((same_tell hA hB).1 hs).symm h⟩, by simp⟩

set_option maxRecDepth 100000 in
set_option maxHeartbeats 8000000 in
theorem one_law (A B : Tree) (D : Nat) (va vb : Value) (w : World) (hD : D ≤ w.heap.size) (hA : Lies D w va A) (hB : Lies D w vb B) (sA : Sane A) (sB : Sane B) (rA : Ranged A) (rB : Ranged B) (hT : Tabs w)
    (hP : TabBelow Tryz.prog w.heap.size w "internal/strconv.uint64pow10" .u64 pow10Tab) (hM : ML w) (h2 : 2 < w.heap.size) : Calls Tryz.prog 12 #[va, vb] w fun e w' => e = .returned (.bool true) ∧ Below w.heap.size w w' := by
  have HLL := hidE (And.intro hA hB)
  obtain ⟨ak, ab, an, ax, aa, am, ac, al, ao, ad, rfl⟩ := lies_form hA
  obtain ⟨bk, bb, bn, bx, ba, bm, bc, bl, bo, bd, rfl⟩ := lies_form hB
  obtain ⟨W2, hW2⟩ : ∃ W2, (w.alloc (.cells #[.int .i64 ak, .bool ab, .int .i64 an, .string ax, .slice aa am ac, .slice al ao ad] 26)).alloc (.cells #[.int .i64 bk, .bool bb, .int .i64 bn, .string bx, .slice ba bm bc, .slice bl bo bd] 26) = W2 := ⟨_, rfl⟩
  have hs2 : W2.heap.size = w.heap.size + 1 + 1 := by rw [← hW2]; simp
  have hb2 : Below w.heap.size w W2 := hW2 ▸ ((Below.refl _ _).alloc (Nat.le_refl _) _).alloc (by simp) _
  have hqa : W2.heap[w.heap.size]? = some (.cells #[.int .i64 ak, .bool ab, .int .i64 an, .string ax, .slice aa am ac, .slice al ao ad] 26 (0, 0)) := by
    rw [← hW2, Below.heap_alloc _ _ _ (by simp)]; exact World.alloc_heap_new _ _
  have hqb : W2.heap[w.heap.size + 1]? = some (.cells #[.int .i64 bk, .bool bb, .int .i64 bn, .string bx, .slice ba bm bc, .slice bl bo bd] 26 (0, 0)) := by
    rw [← hW2]
    have := World.alloc_heap_new (w.alloc (.cells #[.int .i64 ak, .bool ab, .int .i64 an, .string ax, .slice aa am ac, .slice al ao ad] 26)) (.cells #[.int .i64 bk, .bool bb, .int .i64 bn, .string bx, .slice ba bm bc, .slice bl bo bd] 26)
    rwa [World.size_alloc] at this
  obtain ⟨W3, hW3⟩ : ∃ W3, W2.alloc (.cells #[.int .i64 ak, .bool ab, .int .i64 an, .string ax, .slice aa am ac, .slice al ao ad, .int .i64 bk, .bool bb, .int .i64 bn, .string bx, .slice ba bm bc, .slice bl bo bd] 26) = W3 := ⟨_, rfl⟩
  have hb23 : Below W2.heap.size W2 W3 := hW3 ▸ (Below.refl _ _).alloc (Nat.le_refl _) _
  have hq3 : W3.heap[w.heap.size + 1 + 1]? = some (.cells #[.int .i64 ak, .bool ab, .int .i64 an, .string ax, .slice aa am ac, .slice al ao ad, .int .i64 bk, .bool bb, .int .i64 bn, .string bx, .slice ba bm bc, .slice bl bo bd] 26 (0, 0)) := by
    rw [← hs2, ← hW3]; exact World.alloc_heap_new _ _
  have hb3 : Below w.heap.size w W3 := below_on hb2 hb23
  have HX : Hid (∀ w', Below W2.heap.size W2 w' → (w'.cell? ⟨w.heap.size, 0, none⟩ = some (.int .i64 ak) ∧ w'.cell? ⟨w.heap.size, 1, none⟩ = some (.bool ab) ∧ w'.cell? ⟨w.heap.size, 2, none⟩ = some (.int .i64 an) ∧ w'.cell? ⟨w.heap.size, 3, none⟩ = some (.string ax) ∧ w'.cell? ⟨w.heap.size, 4, none⟩ = some (.slice aa am ac) ∧ w'.cell? ⟨w.heap.size, 5, none⟩ = some (.slice al ao ad)) ∧ (w'.cell? ⟨w.heap.size + 1, 0, none⟩ = some (.int .i64 bk) ∧ w'.cell? ⟨w.heap.size + 1, 1, none⟩ = some (.bool bb) ∧ w'.cell? ⟨w.heap.size + 1, 2, none⟩ = some (.int .i64 bn) ∧ w'.cell? ⟨w.heap.size + 1, 3, none⟩ = some (.string bx) ∧ w'.cell? ⟨w.heap.size + 1, 4, none⟩ = some (.slice ba bm bc) ∧ w'.cell? ⟨w.heap.size + 1, 5, none⟩ = some (.slice bl bo bd))) := fun w' hb =>
    ⟨six_cells ((hb.block _ (by omega)).trans hqa), six_cells ((hb.block _ (by omega)).trans hqb)⟩
  have HL : Hid (∀ w', Below w.heap.size w w' → Lies D w' (.agg #[.int .i64 ak, .bool ab, .int .i64 an, .string ax, .slice aa am ac, .slice al ao ad]) A ∧ Lies D w' (.agg #[.int .i64 bk, .bool bb, .int .i64 bn, .string bx, .slice ba bm bc, .slice bl bo bd]) B ∧ D ≤ w'.heap.size ∧ Tabs w') := fun w' hb => ⟨HLL.out.1.below (hb.mono hD), HLL.out.2.below (hb.mono hD), Nat.le_trans hD hb.size, hT.below hb⟩
  have hl3 := HL.out W3 hb3
  have hlt3 : w.heap.size + 1 + 1 < W3.heap.size := (Array.getElem?_eq_some_iff.1 hq3).1
  have HSM := hidE (smalls_any [A, B] W3.heap.size (some ⟨w.heap.size + 1 + 1, 0, none⟩) 2 W3 (Nat.le_refl _) (.inr ⟨_, _, rfl, hlt3, kids_two hq3 (hl3.1.mono hl3.2.2.1) (hl3.2.1.mono hl3.2.2.1)⟩) (Nat.le_refl _) (by unfold maxLen; omega) (by intro t ht; simp only [List.mem_cons, List.not_mem_nil, or_false] at ht; rcases ht with rfl | rfl; exact sA; exact sB))
  have HWK : Hid (∀ w', Below w.heap.size w w' → Calls Tryz.prog 16 #[] w' fun e w2 => e = .returned (.bool true) ∧ Below w'.heap.size w' w2) := fun w' hb => works_any w' (hT.below hb) (fun w2 h => hP w2 (hb.trans (h.mono hb.size)))
  have HW2 := hidE hW2
  have HW3 := hidE hW3
  have HB := hidE (And.intro hb2 (And.intro hb23 hb3))
  have HSAB := hidE (And.intro sA (And.intro sB (And.intro rA rB)))
  have HP2 : Hid (∀ w', Below w.heap.size w w' → TabBelow Tryz.prog w'.heap.size w' "internal/strconv.uint64pow10" .u64 pow10Tab ∧ ML w' ∧ 2 < w'.heap.size) := fun w' hb => by
    obtain ⟨m, hm⟩ := hM
    exact ⟨fun w2 h => hP w2 (hb.trans (h.mono hb.size)), ⟨m, (hb.cell (p := ⟨2, 0, none⟩) h2).trans hm⟩, Nat.lt_of_lt_of_le h2 hb.size⟩
  clear hW2 hW3 hb2 hb23 hb3 hqa hqb hq3 hl3 hlt3 hA hB sA sB rA rB hT hP hs2 hM h2
  go_enter Tryz.func12, Tryz.ntmps12
  go_wp2_with fail
  rw [HW2.out, HW3.out]
  refine HSM.out.mono ?_
  rintro e w5 ⟨rfl, hb5⟩
  have hb25 : Below W2.heap.size W2 w5 := below_on HB.out.2.1 hb5
  have hbw5 : Below w.heap.size w w5 := below_on HB.out.2.2 hb5
  have HB5 := hidE (And.intro hb25 hbw5)
  obtain ⟨⟨a0, a1, a2, a3, a4, a5⟩, ⟨b0, b1, b2, b3, b4, b5⟩⟩ := HX.out w5 hb25
  clear hb5 hb25 hbw5 HSM
  by_cases hsm : smalls [A, B] ≤ 2000
  · have HTOT := hidE (small_total hsm)
    have hmA : Modest A := modest_total (HTOT.out A (by simp))
    have hmB : Modest B := modest_total (HTOT.out B (by simp))
    have HMM := hidE (And.intro hmA hmB)
    have hd : decide (smalls [A, B] ≤ 2000) = true := by simp [hsm]
    rw [hd]
    clear hmA hmB hsm hd
    go_wp2_with fail
    refine (check_any _ A w5 ((HL.out w5 HB5.out.2).1.mono (HL.out w5 HB5.out.2).2.2.1) (HL.out w5 HB5.out.2).2.2.2 HMM.out.1.1 HMM.out.1.2).mono ?_
    rintro e w6 ⟨rfl, hb6⟩
    have hb26 : Below W2.heap.size W2 w6 := below_on HB5.out.1 hb6
    have hbw6 : Below w.heap.size w w6 := below_on HB5.out.2 hb6
    have HB6 := hidE (And.intro hb26 hbw6)
    clear a0 a1 a2 a3 a4 a5 b0 b1 b2 b3 b4 b5
    obtain ⟨⟨a0, a1, a2, a3, a4, a5⟩, ⟨b0, b1, b2, b3, b4, b5⟩⟩ := HX.out w6 hb26
    clear hb6 hb26 hbw6
    obtain ⟨zA, hzA⟩ : ∃ z, checkN A = z := ⟨_, rfl⟩
    have HZA := hidE hzA
    rw [hzA]
    clear hzA
    go_wp2_with fail
    refine (num_any zA w6).mono ?_
    rintro e w7 ⟨rfl, hb7⟩
    have hb27 : Below W2.heap.size W2 w7 := below_on HB6.out.1 hb7
    have hbw7 : Below w.heap.size w w7 := below_on HB6.out.2 hb7
    have HB7 := hidE (And.intro hb27 hbw7)
    clear a0 a1 a2 a3 a4 a5 b0 b1 b2 b3 b4 b5
    obtain ⟨⟨a0, a1, a2, a3, a4, a5⟩, ⟨b0, b1, b2, b3, b4, b5⟩⟩ := HX.out w7 hb27
    clear hb7 hb27 hbw7
    by_cases cA : zA = 0
    · have nA : (zA != 0) = false := by simp [cA]
      have HCA : Hid (checkN A = 0) := by show _ = _; rw [HZA.out]; exact cA
      clear cA
      go_wp2_with fail
      refine (check_any _ B w7 ((HL.out w7 HB7.out.2).2.1.mono (HL.out w7 HB7.out.2).2.2.1) (HL.out w7 HB7.out.2).2.2.2 HMM.out.2.1 HMM.out.2.2).mono ?_
      rintro e w8 ⟨rfl, hb8⟩
      have hb28 : Below W2.heap.size W2 w8 := below_on HB7.out.1 hb8
      have hbw8 : Below w.heap.size w w8 := below_on HB7.out.2 hb8
      have HB8 := hidE (And.intro hb28 hbw8)
      clear a0 a1 a2 a3 a4 a5 b0 b1 b2 b3 b4 b5
      obtain ⟨⟨a0, a1, a2, a3, a4, a5⟩, ⟨b0, b1, b2, b3, b4, b5⟩⟩ := HX.out w8 hb28
      clear hb8 hb28 hbw8
      obtain ⟨zB, hzB⟩ : ∃ z, checkN B = z := ⟨_, rfl⟩
      have HZB := hidE hzB
      rw [hzB]
      clear hzB
      go_wp2_with fail
      refine (num_any zB w8).mono ?_
      rintro e w9 ⟨rfl, hb9⟩
      have hb29 : Below W2.heap.size W2 w9 := below_on HB8.out.1 hb9
      have hbw9 : Below w.heap.size w w9 := below_on HB8.out.2 hb9
      have HB9 := hidE (And.intro hb29 hbw9)
      clear a0 a1 a2 a3 a4 a5 b0 b1 b2 b3 b4 b5
      obtain ⟨⟨a0, a1, a2, a3, a4, a5⟩, ⟨b0, b1, b2, b3, b4, b5⟩⟩ := HX.out w9 hb29
      clear hb9 hb29 hbw9
      by_cases cB : zB = 0
      · have nB : (zB != 0) = false := by simp [cB]
        have HCB : Hid (checkN B = 0) := by show _ = _; rw [HZB.out]; exact cB
        clear cB
        have HTA := hidE (Text_anyG A HCA.out HSAB.out.2.2.1 (by have := HTOT.out A (by simp); omega) HMM.out.1 D _ w9 (HL.out w9 HB9.out.2).2.2.1 (HL.out w9 HB9.out.2).1 (HL.out w9 HB9.out.2).2.2.2 (HP2.out w9 HB9.out.2).1 (HP2.out w9 HB9.out.2).2.1 (HP2.out w9 HB9.out.2).2.2)
        obtain ⟨S, hS⟩ : ∃ S, (⟨(tellG A).toArray⟩ : ByteArray) = S := ⟨_, rfl⟩
        rw [hS] at HTA
        have HS := hidE hS
        clear hS
        go_wp2_with fail
        refine HTA.out.mono ?_
        rintro e w10 ⟨rfl, hb10⟩
        have hb210 : Below W2.heap.size W2 w10 := below_on HB9.out.1 hb10
        have hbw10 : Below w.heap.size w w10 := below_on HB9.out.2 hb10
        have HB10 := hidE (And.intro hb210 hbw10)
        clear a0 a1 a2 a3 a4 a5 b0 b1 b2 b3 b4 b5
        obtain ⟨⟨a0, a1, a2, a3, a4, a5⟩, ⟨b0, b1, b2, b3, b4, b5⟩⟩ := HX.out w10 hb210
        clear hb10 hb210 hbw10
        have HTB := hidE (Text_anyG B HCB.out HSAB.out.2.2.2 (by have := HTOT.out B (by simp); omega) HMM.out.2 D _ w10 (HL.out w10 HB10.out.2).2.2.1 (HL.out w10 HB10.out.2).2.1 (HL.out w10 HB10.out.2).2.2.2 (HP2.out w10 HB10.out.2).1 (HP2.out w10 HB10.out.2).2.1 (HP2.out w10 HB10.out.2).2.2)
        obtain ⟨T, hT⟩ : ∃ T, (⟨(tellG B).toArray⟩ : ByteArray) = T := ⟨_, rfl⟩
        rw [hT] at HTB
        have HT := hidE hT
        clear hT HTA
        go_wp2_with fail
        refine HTB.out.mono ?_
        rintro e w11 ⟨rfl, hb11⟩
        have hb211 : Below W2.heap.size W2 w11 := below_on HB10.out.1 hb11
        have hbw11 : Below w.heap.size w w11 := below_on HB10.out.2 hb11
        have HB11 := hidE (And.intro hb211 hbw11)
        clear a0 a1 a2 a3 a4 a5 b0 b1 b2 b3 b4 b5
        obtain ⟨⟨a0, a1, a2, a3, a4, a5⟩, ⟨b0, b1, b2, b3, b4, b5⟩⟩ := HX.out w11 hb211
        clear hb11 hb211 hbw11
        obtain ⟨sm, hsm⟩ : ∃ x, sameB A B = x := ⟨_, rfl⟩
        have HSA := hidE (Same_any A B D _ _ w11 (HL.out w11 HB11.out.2).2.2.1 (HL.out w11 HB11.out.2).1 (HL.out w11 HB11.out.2).2.1 (HL.out w11 HB11.out.2).2.2.2 HMM.out.1 HMM.out.2)
        rw [hsm] at HSA
        have HSM := hidE hsm
        clear hsm HTB
        go_wp2_with fail
        refine HSA.out.mono ?_
        rintro e w12 ⟨rfl, hb12⟩
        have hb212 : Below W2.heap.size W2 w12 := below_on HB11.out.1 hb12
        have hbw12 : Below w.heap.size w w12 := below_on HB11.out.2 hb12
        have HB12 := hidE (And.intro hb212 hbw12)
        clear a0 a1 a2 a3 a4 a5 b0 b1 b2 b3 b4 b5
        obtain ⟨⟨a0, a1, a2, a3, a4, a5⟩, ⟨b0, b1, b2, b3, b4, b5⟩⟩ := HX.out w12 hb212
        clear hb12 hb212 hbw12
        obtain ⟨W13, hW13⟩ : ∃ W13, w12.alloc (.cells #[.int .i64 ak, .bool ab, .int .i64 an, .string ax, .slice aa am ac, .slice al ao ad, .int .i64 bk, .bool bb, .int .i64 bn, .string bx, .slice ba bm bc, .slice bl bo bd, .int .i64 ak, .bool ab, .int .i64 an, .string ax, .slice aa am ac, .slice al ao ad] 26) = W13 := ⟨_, rfl⟩
        have hb1213 : Below w12.heap.size w12 W13 := hW13 ▸ (Below.refl _ _).alloc (Nat.le_refl _) _
        have hq13 : W13.heap[w12.heap.size]? = some (.cells #[.int .i64 ak, .bool ab, .int .i64 an, .string ax, .slice aa am ac, .slice al ao ad, .int .i64 bk, .bool bb, .int .i64 bn, .string bx, .slice ba bm bc, .slice bl bo bd, .int .i64 ak, .bool ab, .int .i64 an, .string ax, .slice aa am ac, .slice al ao ad] 26 (0, 0)) := hW13 ▸ World.alloc_heap_new _ _
        have hlt13 : w12.heap.size < W13.heap.size := (Array.getElem?_eq_some_iff.1 hq13).1
        have hbw13 : Below w.heap.size w W13 := below_on HB12.out.2 hb1213
        have hl13 := HL.out W13 hbw13
        have HON := hidE (once_any [A, B, A] W13.heap.size (some ⟨w12.heap.size, 0, none⟩) 3 W13 (Nat.le_refl _) (.inr ⟨_, _, rfl, hlt13, kids_three hq13 (hl13.1.mono hl13.2.2.1) (hl13.2.1.mono hl13.2.2.1)⟩) (Nat.le_refl _) (by show 3 ≤ 1000; decide)
          (by
            have tA := HTOT.out A (by simp)
            have tB := HTOT.out B (by simp)
            intro t ht
            simp only [List.mem_cons, List.not_mem_nil, or_false] at ht
            rcases ht with rfl | rfl | rfl
            · exact ⟨HCA.out, HSAB.out.2.2.1, HMM.out.1, by omega⟩
            · exact ⟨HCB.out, HSAB.out.2.2.2, HMM.out.2, by omega⟩
            · exact ⟨HCA.out, HSAB.out.2.2.1, HMM.out.1, by omega⟩) hl13.2.2.2 (HP2.out W13 hbw13).1 (HP2.out W13 hbw13).2.1 (HP2.out W13 hbw13).2.2)
        have HB13 := hidE (And.intro (below_on HB12.out.1 hb1213) hbw13)
        have HW13 := hidE hW13
        clear hW13 hb1213 hq13 hlt13 hbw13 hl13 HSA
        go_wp2_with fail
        rw [HW13.out]
        refine HON.out.mono ?_
        rintro e w14 ⟨v, xs, rfl, ho, hr, hb14⟩
        obtain ⟨r, hr1, hr2, hr3⟩ := out_three HCA.out HCB.out
        rw [hr1] at ho hr
        have hb214 : Below W2.heap.size W2 w14 := below_on HB13.out.1 hb14
        have hbw14 : Below w.heap.size w w14 := below_on HB13.out.2 hb14
        obtain ⟨g, cap, rfl, hgc⟩ : ∃ g cap, v = .slice (some ⟨g, 0, none⟩) (A :: r).length cap ∧ (A :: r).length ≤ cap := by
          rcases ho.2 with ⟨_, h0⟩ | ⟨g, cap, cur, h1, _, _, h2, _⟩
          · simp at h0
          · exact ⟨g, cap, h1, h2⟩
        cases hr with
        | @cons lo hi n0 n1 n2 n3 n4 n5 rr _ _ hlf h1 h2 h3 hk =>
        have hcl : ∀ W, Below w14.heap.size w14 W → ∀ i u, (n0 :: n1 :: n2 :: n3 :: n4 :: n5 :: rr)[i]? = some u → W.cell? ⟨g, i, none⟩ = some u := fun W hb i u hi => by
          have hc := ho.cells (g := g) rfl i u hi
          rw [Lib.add_plain, Nat.zero_add] at hc
          exact (hb.cell (p := ⟨g, i, none⟩) (lt_of_cell hc)).trans hc
        have hla : Lies w14.heap.size w14 (.agg #[n0, n1, n2, n3, n4, n5]) A := hlf.lie.mono h2
        obtain ⟨nl, hnl⟩ : ∃ nl, (A :: r).length = nl := ⟨_, rfl⟩
        rw [hnl] at hr2 hr3 hgc ⊢
        have hn1 : 1 ≤ nl := by rw [← hnl]; simp
        have HR := hidE (And.intro hcl (And.intro hla (And.intro hr2 (And.intro hgc (And.intro hb214 hbw14)))))
        clear hcl hla hr2 hr1 hlf h1 h2 h3 hk ho hb14 hb214 hbw14 HON HW13 a0 a1 a2 a3 a4 a5 b0 b1 b2 b3 b4 b5 hnl hgc
        go_upto_region 7 with fail
        show (Code.region 7 RN7 true).wp _ _ _ _
        refine regionN7 w.heap.size g nl cap S T sm ak ab an ax aa am ac al ao ad n0 n1 n2 n3 n4 n5 _ _ w14 rfl ⟨rfl, rfl, rfl, rfl, rfl, rfl, rfl⟩ (fun W hb => ?_) ?_
        · obtain ⟨hcl, hla, hr2, hgc, hb214, hbw14⟩ := HR.out
          have hbw : Below w.heap.size w W := below_on hbw14 hb
          obtain ⟨⟨x0, x1, x2, x3, x4, x5⟩, -⟩ := HX.out W (below_on hb214 hb)
          have hL := HL.out W hbw
          have hsame := Same_any A A W.heap.size _ _ W (Nat.le_refl _) ((hla.below hb).mono hb.size) (hL.1.mono hL.2.2.1) hL.2.2.2 HMM.out.1 HMM.out.1
          rw [same_self HCA.out] at hsame
          have hst : (S.toList == T.toList) = sm := by
            rw [← HSM.out, Bool.eq_iff_iff, same_tell HCA.out HCB.out, ← HS.out, ← HT.out, ByteArray.toList_eq, ByteArray.toList_eq]
            simp
          have hln : ((nl : Int) == 1) = sm := by
            rw [← HSM.out, Bool.eq_iff_iff, ← hr2, beq_iff_eq]
            omega
          exact ⟨x0, x1, x2, x3, x4, x5, hcl W hb 0 _ rfl, hcl W hb 1 _ rfl, hcl W hb 2 _ rfl, hcl W hb 3 _ rfl, hcl W hb 4 _ rfl, hcl W hb 5 _ rfl, num_any 0 W, hsame, HWK.out W hbw, hst, hln, by omega, hgc⟩
        intro c w15 hS hb15 h4
        have HF : Hid (Below w.heap.size w w15) := below_on HR.out.2.2.2.2.2 hb15
        have hl : c = ⟨#[Value.agg #[Value.int IntKind.i64 ak, Value.bool ab, Value.int IntKind.i64 an, Value.string ax, Value.slice aa am ac, Value.slice al ao ad], Value.agg #[Value.int IntKind.i64 bk, Value.bool bb, Value.int IntKind.i64 bn, Value.string bx, Value.slice ba bm bc, Value.slice bl bo bd], Value.pointer (some { block := w.heap.size, off := 0 }), Value.pointer (some { block := w.heap.size + 1, off := 0 }), c.eval (.tmp 4), Value.string S, Value.int IntKind.i64 0, Value.string T, Value.int IntKind.i64 0, Value.bool sm, Value.slice (some { block := g, off := 0 }) nl cap, Value.agg #[Value.int IntKind.i64 ak, Value.bool ab, Value.int IntKind.i64 an, Value.string ax, Value.slice aa am ac, Value.slice al ao ad], Value.agg #[Value.int IntKind.i64 bk, Value.bool bb, Value.int IntKind.i64 bn, Value.string bx, Value.slice ba bm bc, Value.slice bl bo bd], Value.slice (some { block := w.heap.size + 1 + 1, off := 0 }) 2 2, Value.bool true, Value.bool false, Value.bool false, Value.agg #[Value.int IntKind.i64 ak, Value.bool ab, Value.int IntKind.i64 an, Value.string ax, Value.slice aa am ac, Value.slice al ao ad], Value.int IntKind.i64 zA, Value.int IntKind.i64 zA, Value.bool false, Value.bool false, Value.bool false, Value.agg #[Value.int IntKind.i64 bk, Value.bool bb, Value.int IntKind.i64 bn, Value.string bx, Value.slice ba bm bc, Value.slice bl bo bd], Value.int IntKind.i64 zB, Value.int IntKind.i64 zB, Value.bool false, Value.bool false, undef, Value.tuple #[Value.string S, Value.int IntKind.i64 0], Value.agg #[Value.int IntKind.i64 ak, Value.bool ab, Value.int IntKind.i64 an, Value.string ax, Value.slice aa am ac, Value.slice al ao ad], Value.tuple #[Value.string S, Value.int IntKind.i64 0], Value.string S, Value.int IntKind.i64 0, Value.tuple #[Value.string T, Value.int IntKind.i64 0], Value.agg #[Value.int IntKind.i64 bk, Value.bool bb, Value.int IntKind.i64 bn, Value.string bx, Value.slice ba bm bc, Value.slice bl bo bd], Value.tuple #[Value.string T, Value.int IntKind.i64 0], Value.string T, Value.int IntKind.i64 0, Value.agg #[Value.int IntKind.i64 ak, Value.bool ab, Value.int IntKind.i64 an, Value.string ax, Value.slice aa am ac, Value.slice al ao ad], Value.agg #[Value.int IntKind.i64 bk, Value.bool bb, Value.int IntKind.i64 bn, Value.string bx, Value.slice ba bm bc, Value.slice bl bo bd], Value.bool sm, Value.agg #[Value.int IntKind.i64 ak, Value.bool ab, Value.int IntKind.i64 an, Value.string ax, Value.slice aa am ac, Value.slice al ao ad], Value.agg #[Value.int IntKind.i64 bk, Value.bool bb, Value.int IntKind.i64 bn, Value.string bx, Value.slice ba bm bc, Value.slice bl bo bd], Value.agg #[Value.int IntKind.i64 ak, Value.bool ab, Value.int IntKind.i64 an, Value.string ax, Value.slice aa am ac, Value.slice al ao ad], Value.slice (some { block := w12.heap.size, off := 0 }) 3 3, Value.slice (some { block := g, off := 0 }) nl cap, c.eval (.tmp 47), c.eval (.tmp 48), c.eval (.tmp 49), c.eval (.tmp 50), c.eval (.tmp 51), c.eval (.tmp 52), c.eval (.tmp 53), c.eval (.tmp 54), c.eval (.tmp 55), c.eval (.tmp 56), c.eval (.tmp 57), c.eval (.tmp 58), c.eval (.tmp 59), c.eval (.tmp 60), c.eval (.tmp 61), c.eval (.tmp 62), c.eval (.tmp 63), c.eval (.tmp 64), c.eval (.tmp 65), c.eval (.tmp 66), c.eval (.tmp 67), c.eval (.tmp 68), c.eval (.tmp 69), c.eval (.tmp 70), c.eval (.tmp 71), c.eval (.tmp 72), c.eval (.tmp 73), c.eval (.tmp 74), c.eval (.tmp 75), c.eval (.tmp 76), c.eval (.tmp 77), c.eval (.tmp 78), c.eval (.tmp 79), c.eval (.tmp 80), c.eval (.tmp 81)], []⟩ := (same_lay hS).trans (by kernel_rfl)
        rw [h4] at hl
        generalize c.eval (.tmp 47) = z47 at hl
        generalize c.eval (.tmp 48) = z48 at hl
        generalize c.eval (.tmp 49) = z49 at hl
        generalize c.eval (.tmp 50) = z50 at hl
        generalize c.eval (.tmp 51) = z51 at hl
        generalize c.eval (.tmp 52) = z52 at hl
        generalize c.eval (.tmp 53) = z53 at hl
        generalize c.eval (.tmp 54) = z54 at hl
        generalize c.eval (.tmp 55) = z55 at hl
        generalize c.eval (.tmp 56) = z56 at hl
        generalize c.eval (.tmp 57) = z57 at hl
        generalize c.eval (.tmp 58) = z58 at hl
        generalize c.eval (.tmp 59) = z59 at hl
        generalize c.eval (.tmp 60) = z60 at hl
        generalize c.eval (.tmp 61) = z61 at hl
        generalize c.eval (.tmp 62) = z62 at hl
        generalize c.eval (.tmp 63) = z63 at hl
        generalize c.eval (.tmp 64) = z64 at hl
        generalize c.eval (.tmp 65) = z65 at hl
        generalize c.eval (.tmp 66) = z66 at hl
        generalize c.eval (.tmp 67) = z67 at hl
        generalize c.eval (.tmp 68) = z68 at hl
        generalize c.eval (.tmp 69) = z69 at hl
        generalize c.eval (.tmp 70) = z70 at hl
        generalize c.eval (.tmp 71) = z71 at hl
        generalize c.eval (.tmp 72) = z72 at hl
        generalize c.eval (.tmp 73) = z73 at hl
        generalize c.eval (.tmp 74) = z74 at hl
        generalize c.eval (.tmp 75) = z75 at hl
        generalize c.eval (.tmp 76) = z76 at hl
        generalize c.eval (.tmp 77) = z77 at hl
        generalize c.eval (.tmp 78) = z78 at hl
        generalize c.eval (.tmp 79) = z79 at hl
        generalize c.eval (.tmp 80) = z80 at hl
        generalize c.eval (.tmp 81) = z81 at hl
        clear hS h4 hb15
        subst hl
        go_wp2_with fail
        go_ret
        exact ⟨rfl, HF.out⟩
      · have nB : (zB != 0) = true := by simp [cB]
        clear cB
        go_wp2_with fail
        refine (HWK.out w9 HB9.out.2).mono ?_
        rintro e w99 ⟨rfl, hb99⟩
        have HF : Hid (Below w.heap.size w w99) := below_on HB9.out.2 hb99
        clear hb99
        go_wp2_with fail
        go_ret
        exact ⟨rfl, HF.out⟩
    · have nA : (zA != 0) = true := by simp [cA]
      clear cA
      go_wp2_with fail
      refine (HWK.out w7 HB7.out.2).mono ?_
      rintro e w99 ⟨rfl, hb99⟩
      have HF : Hid (Below w.heap.size w w99) := below_on HB7.out.2 hb99
      clear hb99
      go_wp2_with fail
      go_ret
      exact ⟨rfl, HF.out⟩
  · have hd : decide (smalls [A, B] ≤ 2000) = false := by simp [hsm]
    rw [hd]
    clear hsm hd
    go_wp2_with fail
    refine (HWK.out w5 HB5.out.2).mono ?_
    rintro e w6 ⟨rfl, hb6⟩
    have HF : Hid (Below w.heap.size w w6) := below_on HB5.out.2 hb6
    clear hb6
    go_wp2_with fail
    go_ret
    exact ⟨rfl, HF.out⟩
end Go.Proofs.YtbpmhgcjefpigaaGreatDoor

namespace Go.Proofs.YtbpmhgcjefpigaaGreatDoor
open Go.RowKit Go.Shelf Go.Lib
set_option linter.unusedVariables false

theorem ListLies.grows {B B' : Nat} {w : World} {la : Option Addr} {ts : List Tree} (h : ListLies B w la ts) (hb : B ≤ B') : ListLies B' w la ts := by
  rcases h with h | ⟨bl, off, e, h1, h2⟩
  · exact .inl h
  · exact .inr ⟨bl, off, e, Nat.lt_of_lt_of_le h1 hb, h2.mono hb⟩
/-- A row of the call's own that holds values. -/
theorem owned_lies {D base n : Nat} {w : World} {v : Value} {xs : List Value} {us : List Tree} (h : w.ownsRow base 26 6 v n xs) (hn : n = us.length) (hr : RowL D w xs us) (hD : D ≤ w.heap.size) :
    ∃ ad cap, v = .slice ad us.length cap ∧ us.length ≤ cap ∧ cap ≤ maxLen ∧ ListLies w.heap.size w ad us := by
  subst hn
  have hk := h
  rcases h.2 with ⟨rfl, h0⟩ | ⟨g, cap, cur, rfl, hbg, hg, hnc, hcm, hcs, htake⟩
  · have : us = [] := List.eq_nil_of_length_eq_zero h0
    exact ⟨none, 0, by rw [h0], by omega, by unfold maxLen; omega, .inl this⟩
  · refine ⟨some ⟨g, 0, none⟩, cap, rfl, hnc, hcm, .inr ⟨g, 0, rfl, (Array.getElem?_eq_some_iff.1 hg).1, ?_⟩⟩
    have hr2 := hr.mono hD
    refine hr2.kids (fun j u hu => ?_) hr2
    have := hk.cells (g := g) rfl j u hu
    rwa [add_plain] at this
/-- Values that lie below D, in a row of cells in a block from base on. -/
def RefRow (D base : Nat) (w : World) (la : Option Addr) (us : List Tree) : Prop := ∃ xs, RowL D w xs us ∧ (us = [] ∨ ∃ g, la = some ⟨g, 0, none⟩ ∧ base ≤ g ∧ g < w.heap.size ∧ ∀ j u, xs[j]? = some u → w.cell? ⟨g, j, none⟩ = some u)
theorem owned_row {D base n : Nat} {w : World} {v : Value} {xs : List Value} {us : List Tree} (h : w.ownsRow base 26 6 v n xs) (hn : n = us.length) (hr : RowL D w xs us) :
    ∃ ad cap, v = .slice ad us.length cap ∧ us.length ≤ cap ∧ cap ≤ maxLen ∧ RefRow D base w ad us := by
  subst hn
  have hk := h
  rcases h.2 with ⟨rfl, h0⟩ | ⟨g, cap, cur, rfl, hbg, hg, hnc, hcm, hcs, htake⟩
  · have : us = [] := List.eq_nil_of_length_eq_zero h0
    exact ⟨none, 0, by rw [h0], by omega, by unfold maxLen; omega, xs, hr, .inl this⟩
  · refine ⟨some ⟨g, 0, none⟩, cap, rfl, hnc, hcm, xs, hr, .inr ⟨g, rfl, hbg, (Array.getElem?_eq_some_iff.1 hg).1, fun j u hu => ?_⟩⟩
    have := hk.cells (g := g) rfl j u hu
    rwa [add_plain, Nat.zero_add] at this
theorem RefRow.at {D base : Nat} {w w' : World} {la : Option Addr} {us : List Tree} (h : RefRow D base w la us) (hne : us ≠ []) (hb : Below D w w') (hk : ∀ b, base ≤ b → b < w.heap.size → w'.heap[b]? = w.heap[b]?) : ∃ g, la = some ⟨g, 0, none⟩ ∧ g < w.heap.size ∧ KidsLie D w' g 0 us := by
  obtain ⟨xs, hr, h⟩ := h
  obtain ⟨g, rfl, h1, h2, h3⟩ := h.resolve_left hne
  have hr2 := hr.stay hb
  refine ⟨g, rfl, h2, hr2.kids (fun j u hu => ?_) hr2⟩
  rw [Nat.zero_add, World.cell?_of_block (a := ⟨g, j, none⟩) (hk g h1 h2)]
  exact h3 j u hu
end Go.Proofs.YtbpmhgcjefpigaaGreatDoor

