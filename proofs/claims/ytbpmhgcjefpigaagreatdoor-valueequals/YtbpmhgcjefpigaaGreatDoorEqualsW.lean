/- ValueEquals, walked. -/
import Derived.Test.YtbpmhgcjefpigaaGreatDoorJoin12
import Derived.Test.YtbpmhgcjefpigaaGreatDoorJoin18
import Derived.Test.YtbpmhgcjefpigaaGreatDoorEquals3
import Derived.Test.YtbpmhgcjefpigaaGreatDoorEquals6
import Derived.Test.YtbpmhgcjefpigaaGreatDoorJoin19
import Derived.Test.YtbpmhgcjefpigaaGreatDoorJoin20
namespace Go.Proofs.YtbpmhgcjefpigaaGreatDoor
open Go.RowKit Go.Shelf Go.Lib
set_option linter.unusedVariables false
set_option linter.unusedSimpArgs false

theorem fine_two (A B : Tree) : fineB [A, B] = true ↔ checkN A = 0 ∧ checkN B = 0 := by simp [fineB]
set_option maxRecDepth 100000 in
set_option maxHeartbeats 8000000 in
theorem equals_law (A B : Tree) (D : Nat) (va vb : Value) (w : World) (hD : D ≤ w.heap.size) (hA : Lies D w va A) (hB : Lies D w vb B) (sA : Sane A) (sB : Sane B) (hT : Tabs w)
    (hP : TabBelow Tryz.prog w.heap.size w "internal/strconv.uint64pow10" .u64 pow10Tab) : Calls Tryz.prog 6 #[va, vb] w fun e w' => e = .returned (.bool true) ∧ Below w.heap.size w w' := by
  have HLL := hidE (And.intro hA hB)
  obtain ⟨ak, ab, an, ax, aa, am, ac, al, ao, ad, rfl⟩ := lies_form hA
  obtain ⟨bk, bb, bn, bx, ba, bm, bc, bl, bo, bd, rfl⟩ := lies_form hB
  obtain ⟨W2, hW2⟩ : ∃ W2, (w.alloc (.cells #[.int .i64 ak, .bool ab, .int .i64 an, .string ax, .slice aa am ac, .slice al ao ad] 26)).alloc (.cells #[.int .i64 bk, .bool bb, .int .i64 bn, .string bx, .slice ba bm bc, .slice bl bo bd] 26) = W2 := ⟨_, rfl⟩
  have hs2 : W2.heap.size = w.heap.size + 1 + 1 := by rw [← hW2]; simp
  have hb2 : Below w.heap.size w W2 := hW2 ▸ ((Below.refl _ _).alloc (Nat.le_refl _) _).alloc (by simp) _
  have hqa : W2.heap[w.heap.size]? = some (.cells #[.int .i64 ak, .bool ab, .int .i64 an, .string ax, .slice aa am ac, .slice al ao ad] 26 (0, 0)) := by
    rw [← hW2, Below.heap_alloc _ _ _ (by simp)]; exact World.alloc_heap_new _ _
  have hqb : W2.heap[w.heap.size + 1]? = some (.cells #[.int .i64 bk, .bool bb, .int .i64 bn, .string bx, .slice ba bm bc, .slice bl bo bd] 26 (0, 0)) := by
    rw [← hW2]
    have := World.alloc_heap_new (w.alloc (.cells #[.int .i64 ak, .bool ab, .int .i64 an, .string ax, .slice aa am ac, .slice al ao ad] 26)) (.cells #[.int .i64 bk, .bool bb, .int .i64 bn, .string bx, .slice ba bm bc, .slice bl bo bd] 26)
    rwa [World.size_alloc] at this
  obtain ⟨W3, hW3⟩ : ∃ W3, W2.alloc (.cells #[.int .i64 ak, .bool ab, .int .i64 an, .string ax, .slice aa am ac, .slice al ao ad, .int .i64 bk, .bool bb, .int .i64 bn, .string bx, .slice ba bm bc, .slice bl bo bd] 26) = W3 := ⟨_, rfl⟩
  have hb23 : Below W2.heap.size W2 W3 := hW3 ▸ (Below.refl _ _).alloc (Nat.le_refl _) _
  have hq3 : W3.heap[w.heap.size + 1 + 1]? = some (.cells #[.int .i64 ak, .bool ab, .int .i64 an, .string ax, .slice aa am ac, .slice al ao ad, .int .i64 bk, .bool bb, .int .i64 bn, .string bx, .slice ba bm bc, .slice bl bo bd] 26 (0, 0)) := by
    rw [← hs2, ← hW3]; exact World.alloc_heap_new _ _
  have hb3 : Below w.heap.size w W3 := below_on hb2 hb23
  have HX : Hid (∀ w', Below W2.heap.size W2 w' → (w'.cell? ⟨w.heap.size, 0, none⟩ = some (.int .i64 ak) ∧ w'.cell? ⟨w.heap.size, 1, none⟩ = some (.bool ab) ∧ w'.cell? ⟨w.heap.size, 2, none⟩ = some (.int .i64 an) ∧ w'.cell? ⟨w.heap.size, 3, none⟩ = some (.string ax) ∧ w'.cell? ⟨w.heap.size, 4, none⟩ = some (.slice aa am ac) ∧ w'.cell? ⟨w.heap.size, 5, none⟩ = some (.slice al ao ad)) ∧ (w'.cell? ⟨w.heap.size + 1, 0, none⟩ = some (.int .i64 bk) ∧ w'.cell? ⟨w.heap.size + 1, 1, none⟩ = some (.bool bb) ∧ w'.cell? ⟨w.heap.size + 1, 2, none⟩ = some (.int .i64 bn) ∧ w'.cell? ⟨w.heap.size + 1, 3, none⟩ = some (.string bx) ∧ w'.cell? ⟨w.heap.size + 1, 4, none⟩ = some (.slice ba bm bc) ∧ w'.cell? ⟨w.heap.size + 1, 5, none⟩ = some (.slice bl bo bd))) := fun w' hb =>
    ⟨six_cells ((hb.block _ (by omega)).trans hqa), six_cells ((hb.block _ (by omega)).trans hqb)⟩
  have HL : Hid (∀ w', Below w.heap.size w w' → Lies D w' (.agg #[.int .i64 ak, .bool ab, .int .i64 an, .string ax, .slice aa am ac, .slice al ao ad]) A ∧ Lies D w' (.agg #[.int .i64 bk, .bool bb, .int .i64 bn, .string bx, .slice ba bm bc, .slice bl bo bd]) B ∧ D ≤ w'.heap.size ∧ Tabs w') := fun w' hb => ⟨HLL.out.1.below (hb.mono hD), HLL.out.2.below (hb.mono hD), Nat.le_trans hD hb.size, hT.below hb⟩
  have hl3 := HL.out W3 hb3
  have hlt3 : w.heap.size + 1 + 1 < W3.heap.size := (Array.getElem?_eq_some_iff.1 hq3).1
  have HSM := hidE (smalls_any [A, B] W3.heap.size (some ⟨w.heap.size + 1 + 1, 0, none⟩) 2 W3 (Nat.le_refl _) (.inr ⟨_, _, rfl, hlt3, kids_two hq3 (hl3.1.mono hl3.2.2.1) (hl3.2.1.mono hl3.2.2.1)⟩) (Nat.le_refl _) (by unfold maxLen; omega) (by intro t ht; simp only [List.mem_cons, List.not_mem_nil, or_false] at ht; rcases ht with rfl | rfl; exact sA; exact sB))
  have HWK : Hid (∀ w', Below w.heap.size w w' → Calls Tryz.prog 16 #[] w' fun e w2 => e = .returned (.bool true) ∧ Below w'.heap.size w' w2) := fun w' hb => works_any w' (hT.below hb) (fun w2 h => hP w2 (hb.trans (h.mono hb.size)))
  have HW2 := hidE hW2
  have HW3 := hidE hW3
  have HB := hidE (And.intro hb2 (And.intro hb23 hb3))
  have HSAB := hidE (And.intro sA sB)
  clear hW2 hW3 hb2 hb23 hb3 hqa hqb hq3 hl3 hlt3 hA hB sA sB hT hP hs2
  go_enter Tryz.func6, Tryz.ntmps6
  go_wp2_with fail
  rw [HW2.out, HW3.out]
  refine HSM.out.mono ?_
  rintro e w5 ⟨rfl, hb5⟩
  have hb25 : Below W2.heap.size W2 w5 := below_on HB.out.2.1 hb5
  have hbw5 : Below w.heap.size w w5 := below_on HB.out.2.2 hb5
  have HB5 := hidE (And.intro hb25 hbw5)
  obtain ⟨⟨a0, a1, a2, a3, a4, a5⟩, ⟨b0, b1, b2, b3, b4, b5⟩⟩ := HX.out w5 hb25
  clear hb5 hb25 hbw5 HSM
  by_cases hsm : smalls [A, B] ≤ 2000
  · have HTOT := hidE (small_total hsm)
    have hmA : Modest A := modest_total (HTOT.out A (by simp))
    have hmB : Modest B := modest_total (HTOT.out B (by simp))
    have HMM := hidE (And.intro hmA hmB)
    have hd : decide (smalls [A, B] ≤ 2000) = true := by simp [hsm]
    rw [hd]
    clear hmA hmB hsm hd
    go_upto_region 3 with fail
    show (Code.region 3 RE3 true).wp _ _ _ _
    refine regionE3 D (.int .i64 ak) (.bool ab) (.int .i64 an) (.string ax) (.slice aa am ac) (.slice al ao ad) (.int .i64 bk) (.bool bb) (.int .i64 bn) (.string bx) (.slice ba bm bc) (.slice bl bo bd) A B w.heap.size (w.heap.size + 1) w5 _ _ ⟨rfl, rfl, rfl⟩ ⟨a0, a1, a2, a3, a4, a5, b0, b1, b2, b3, b4, b5, (HL.out w5 HB5.out.2).1, (HL.out w5 HB5.out.2).2.1, (HL.out w5 HB5.out.2).2.2.1, by have := HTOT.out A (by simp); omega, by have := HTOT.out B (by simp); omega⟩ ?_
    intro c w6 qa qb va vb hS h5 h6 hb6 hqa hqb hpa hpb hsa hsb
    have hl : c = ⟨#[Value.agg #[Value.int IntKind.i64 ak, Value.bool ab, Value.int IntKind.i64 an, Value.string ax, Value.slice aa am ac, Value.slice al ao ad], Value.agg #[Value.int IntKind.i64 bk, Value.bool bb, Value.int IntKind.i64 bn, Value.string bx, Value.slice ba bm bc, Value.slice bl bo bd], Value.pointer (some { block := w.heap.size, off := 0 }), Value.pointer (some { block := w.heap.size + 1, off := 0 }), Value.bool false, c.eval (.tmp 5), c.eval (.tmp 6), undef, undef, Value.agg #[Value.int IntKind.i64 ak, Value.bool ab, Value.int IntKind.i64 an, Value.string ax, Value.slice aa am ac, Value.slice al ao ad], Value.agg #[Value.int IntKind.i64 bk, Value.bool bb, Value.int IntKind.i64 bn, Value.string bx, Value.slice ba bm bc, Value.slice bl bo bd], Value.slice (some { block := w.heap.size + 1 + 1, off := 0 }) 2 2, Value.bool true, Value.bool false, undef, c.eval (.tmp 15), c.eval (.tmp 16), c.eval (.tmp 17), c.eval (.tmp 18), undef, undef, undef, undef, undef, undef, undef, undef, undef, undef, undef, undef, undef, undef, undef, undef, undef, undef, undef, undef, undef, undef, undef, undef, undef, undef, undef, undef, undef, undef, undef, undef, undef, undef, undef, undef, undef, undef, undef, undef, undef, undef], []⟩ := (same_lay hS).trans (by kernel_rfl)
    rw [h5] at hl
    rw [h6] at hl
    generalize c.eval (.tmp 15) = z15 at hl
    generalize c.eval (.tmp 16) = z16 at hl
    generalize c.eval (.tmp 17) = z17 at hl
    generalize c.eval (.tmp 18) = z18 at hl
    clear hS h5 h6
    subst hl
    obtain ⟨qa', m0, m1, m2, m3, m4, m5, ea, rfl, x0, x1, x2, x3, x4, x5⟩ := hpa
    obtain rfl := ptr_inj ea
    obtain ⟨qb', n0, n1, n2, n3, n4, n5, eb, rfl, y0, y1, y2, y3, y4, y5⟩ := hpb
    obtain rfl := ptr_inj eb
    have HM : Hid (∀ w', Below w6.heap.size w6 w' → ((w'.cell? ⟨qa, 0, none⟩ = some m0 ∧ w'.cell? ⟨qa, 1, none⟩ = some m1 ∧ w'.cell? ⟨qa, 2, none⟩ = some m2 ∧ w'.cell? ⟨qa, 3, none⟩ = some m3 ∧ w'.cell? ⟨qa, 4, none⟩ = some m4 ∧ w'.cell? ⟨qa, 5, none⟩ = some m5) ∧
        (w'.cell? ⟨qb, 0, none⟩ = some n0 ∧ w'.cell? ⟨qb, 1, none⟩ = some n1 ∧ w'.cell? ⟨qb, 2, none⟩ = some n2 ∧ w'.cell? ⟨qb, 3, none⟩ = some n3 ∧ w'.cell? ⟨qb, 4, none⟩ = some n4 ∧ w'.cell? ⟨qb, 5, none⟩ = some n5)) ∧
        SpareP (· < w6.heap.size) w' (.agg #[m0, m1, m2, m3, m4, m5]) A ∧ SpareP (· < w6.heap.size) w' (.agg #[n0, n1, n2, n3, n4, n5]) B ∧ w6.heap.size ≤ w'.heap.size) := fun w' hb =>
      ⟨⟨⟨(hb.cell (p := ⟨qa, 0, none⟩) hqa.2).trans x0, (hb.cell (p := ⟨qa, 1, none⟩) hqa.2).trans x1, (hb.cell (p := ⟨qa, 2, none⟩) hqa.2).trans x2, (hb.cell (p := ⟨qa, 3, none⟩) hqa.2).trans x3, (hb.cell (p := ⟨qa, 4, none⟩) hqa.2).trans x4, (hb.cell (p := ⟨qa, 5, none⟩) hqa.2).trans x5⟩,
        (hb.cell (p := ⟨qb, 0, none⟩) hqb.2).trans y0, (hb.cell (p := ⟨qb, 1, none⟩) hqb.2).trans y1, (hb.cell (p := ⟨qb, 2, none⟩) hqb.2).trans y2, (hb.cell (p := ⟨qb, 3, none⟩) hqb.2).trans y3, (hb.cell (p := ⟨qb, 4, none⟩) hqb.2).trans y4, (hb.cell (p := ⟨qb, 5, none⟩) hqb.2).trans y5⟩,
        Spare.below hb hsa, Spare.below hb hsb, hb.size⟩
    have hb26 : Below W2.heap.size W2 w6 := below_on HB5.out.1 hb6
    have hbw6 : Below w.heap.size w w6 := below_on HB5.out.2 hb6
    have HB6 := hidE (And.intro hb26 hbw6)
    clear a0 a1 a2 a3 a4 a5 b0 b1 b2 b3 b4 b5
    obtain ⟨⟨a0, a1, a2, a3, a4, a5⟩, ⟨b0, b1, b2, b3, b4, b5⟩⟩ := HX.out w6 hb26
    clear hb6 hb26 hbw6
    clear x0 x1 x2 x3 x4 x5 y0 y1 y2 y3 y4 y5 hqa hqb hsa hsb ea eb
    obtain ⟨W7, hW7⟩ : ∃ W7, w6.alloc (.cells #[.int .i64 ak, .bool ab, .int .i64 an, .string ax, .slice aa am ac, .slice al ao ad, .int .i64 bk, .bool bb, .int .i64 bn, .string bx, .slice ba bm bc, .slice bl bo bd] 26) = W7 := ⟨_, rfl⟩
    have hb67 : Below w6.heap.size w6 W7 := hW7 ▸ (Below.refl _ _).alloc (Nat.le_refl _) _
    have hq7 : W7.heap[w6.heap.size]? = some (.cells #[.int .i64 ak, .bool ab, .int .i64 an, .string ax, .slice aa am ac, .slice al ao ad, .int .i64 bk, .bool bb, .int .i64 bn, .string bx, .slice ba bm bc, .slice bl bo bd] 26 (0, 0)) := hW7 ▸ World.alloc_heap_new _ _
    have hl7 := HL.out W7 (below_on HB6.out.2 hb67)
    have HFI := hidE (fine_any [A, B] W7.heap.size (some ⟨w6.heap.size, 0, none⟩) 2 W7 (Nat.le_refl _) (.inr ⟨_, _, rfl, (Array.getElem?_eq_some_iff.1 hq7).1, kids_two hq7 (hl7.1.mono hl7.2.2.1) (hl7.2.1.mono hl7.2.2.1)⟩) (Nat.le_refl _) (by unfold maxLen; omega) (by
      intro t ht
      have h1 := HTOT.out t ht
      simp only [List.mem_cons, List.not_mem_nil, or_false] at ht
      refine ⟨?_, by omega⟩
      rcases ht with rfl | rfl
      · exact HSAB.out.1
      · exact HSAB.out.2))
    have HB67 := hidE hb67
    have HW7 := hidE hW7
    clear hb67 hq7 hl7 hW7
    go_wp2_with fail
    rw [HW7.out]
    refine HFI.out.mono ?_
    rintro e w8 ⟨rfl, hb8'⟩
    have hb8 : Below w6.heap.size w6 w8 := below_on HB67.out hb8'
    have HM8 := hidE hb8
    have hb28 : Below W2.heap.size W2 w8 := below_on HB6.out.1 hb8
    have hbw8 : Below w.heap.size w w8 := below_on HB6.out.2 hb8
    have HB8 := hidE (And.intro hb28 hbw8)
    clear a0 a1 a2 a3 a4 a5 b0 b1 b2 b3 b4 b5
    obtain ⟨⟨a0, a1, a2, a3, a4, a5⟩, ⟨b0, b1, b2, b3, b4, b5⟩⟩ := HX.out w8 hb28
    clear hb8 hb28 hbw8
    clear hb8'
    have HCO : Hid (∀ W, Below w6.heap.size w6 W → Below w.heap.size w W → Calls Tryz.prog 37 #[.agg #[m0, m1, m2, m3, m4, m5], .agg #[n0, n1, n2, n3, n4, n5]] W (fun e w' => e = .returned (.int .i64 (equalN A B)) ∧ Below W.heap.size W w') ∧ Calls Tryz.prog 37 #[.agg #[n0, n1, n2, n3, n4, n5], .agg #[m0, m1, m2, m3, m4, m5]] W (fun e w' => e = .returned (.int .i64 (equalN B A)) ∧ Below W.heap.size W w') ∧ Calls Tryz.prog 38 #[.agg #[m0, m1, m2, m3, m4, m5], .agg #[n0, n1, n2, n3, n4, n5]] W (fun e w' => e = .returned (.int .i64 (lessN A B)) ∧ Below W.heap.size W w') ∧
        Calls Tryz.prog 29 #[.agg #[m0, m1, m2, m3, m4, m5], .agg #[.int .i64 ak, .bool ab, .int .i64 an, .string ax, .slice aa am ac, .slice al ao ad]] W (fun e w' => e = .returned (.bool true) ∧ Below W.heap.size W w') ∧ Calls Tryz.prog 29 #[.agg #[n0, n1, n2, n3, n4, n5], .agg #[.int .i64 bk, .bool bb, .int .i64 bn, .string bx, .slice ba bm bc, .slice bl bo bd]] W (fun e w' => e = .returned (.bool true) ∧ Below W.heap.size W w')) := fun W hb hbw => by
      obtain ⟨_, g1, g2, g3⟩ := HM.out W hb
      obtain ⟨l1, l2, l3, l4⟩ := HL.out W hbw
      have hD6 : D ≤ w6.heap.size := (HL.out w6 HB6.out.2).2.2.1
      exact ⟨Equal_any A B w6.heap.size _ _ W g3 (Spare.lies g1) (Spare.lies g2) l4 HMM.out.1 HMM.out.2, Equal_any B A w6.heap.size _ _ W g3 (Spare.lies g2) (Spare.lies g1) l4 HMM.out.2 HMM.out.1, Less_any A B w6.heap.size _ _ W g3 (Spare.lies g1) (Spare.lies g2) l4 HMM.out.1 HMM.out.2,
        kept_any A w6.heap.size _ _ W g3 g1 (l1.mono hD6), kept_any B w6.heap.size _ _ W g3 g2 (l2.mono hD6)⟩
    cases hfi : fineB [A, B] with
    | true =>
      have HC0 := hidE ((fine_two A B).1 hfi)
      clear hfi
      go_upto_region 6 with fail
      show (Code.region 6 RE6 true).wp _ _ _ _
      refine regionE6 w.heap.size (w.heap.size + 1) (eqT A B) (rlessN A B) (.int .i64 ak) (.bool ab) (.int .i64 an) (.string ax) (.slice aa am ac) (.slice al ao ad) (.int .i64 bk) (.bool bb) (.int .i64 bn) (.string bx) (.slice ba bm bc) (.slice bl bo bd) _ _ w8 rfl ⟨rfl, rfl⟩ (fun W hb => ?_) ?_
      · have hb2 : Below W2.heap.size W2 W := below_on HB8.out.1 hb
        have hbw : Below w.heap.size w W := below_on HB8.out.2 hb
        obtain ⟨⟨a0, a1, a2, a3, a4, a5⟩, ⟨b0, b1, b2, b3, b4, b5⟩⟩ := HX.out W hb2
        obtain ⟨l1, l2, l3, l4⟩ := HL.out W hbw
        exact ⟨a0, a1, a2, a3, a4, a5, b0, b1, b2, b3, b4, b5, refeq_any A D _ _ B W l3 l1 l2 (known_check HC0.out.1) (known_check HC0.out.2), rless_any A B D _ _ W l3 l1 l2 (known_check HC0.out.1) (known_check HC0.out.2)⟩
      intro c w9 hS hb9 h7 h8
      have hl : c = ⟨#[Value.agg #[Value.int IntKind.i64 ak, Value.bool ab, Value.int IntKind.i64 an, Value.string ax, Value.slice aa am ac, Value.slice al ao ad], Value.agg #[Value.int IntKind.i64 bk, Value.bool bb, Value.int IntKind.i64 bn, Value.string bx, Value.slice ba bm bc, Value.slice bl bo bd], Value.pointer (some { block := w.heap.size, off := 0 }), Value.pointer (some { block := w.heap.size + 1, off := 0 }), Value.bool false, Value.pointer (some { block := qa, off := 0 }), Value.pointer (some { block := qb, off := 0 }), c.eval (.tmp 7), c.eval (.tmp 8), Value.agg #[Value.int IntKind.i64 ak, Value.bool ab, Value.int IntKind.i64 an, Value.string ax, Value.slice aa am ac, Value.slice al ao ad], Value.agg #[Value.int IntKind.i64 bk, Value.bool bb, Value.int IntKind.i64 bn, Value.string bx, Value.slice ba bm bc, Value.slice bl bo bd], Value.slice (some { block := w.heap.size + 1 + 1, off := 0 }) 2 2, Value.bool true, Value.bool false, undef, z15, z16, z17, z18, Value.agg #[Value.int IntKind.i64 ak, Value.bool ab, Value.int IntKind.i64 an, Value.string ax, Value.slice aa am ac, Value.slice al ao ad], Value.agg #[Value.int IntKind.i64 bk, Value.bool bb, Value.int IntKind.i64 bn, Value.string bx, Value.slice ba bm bc, Value.slice bl bo bd], Value.slice (some { block := w6.heap.size, off := 0 }) 2 2, Value.bool true, c.eval (.tmp 23), c.eval (.tmp 24), c.eval (.tmp 25), c.eval (.tmp 26), c.eval (.tmp 27), c.eval (.tmp 28), undef, undef, undef, undef, undef, undef, undef, undef, undef, undef, undef, undef, undef, undef, undef, undef, undef, undef, undef, undef, undef, undef, undef, undef, undef, undef, undef, undef, undef, undef, undef, undef], []⟩ := (same_lay hS).trans (by kernel_rfl)
      rw [h7] at hl
      rw [h8] at hl
      generalize c.eval (.tmp 23) = z23 at hl
      generalize c.eval (.tmp 24) = z24 at hl
      generalize c.eval (.tmp 25) = z25 at hl
      generalize c.eval (.tmp 26) = z26 at hl
      generalize c.eval (.tmp 27) = z27 at hl
      generalize c.eval (.tmp 28) = z28 at hl
      clear hS h7 h8
      subst hl
      have hb29 : Below W2.heap.size W2 w9 := below_on HB8.out.1 hb9
      have hbw9 : Below w.heap.size w w9 := below_on HB8.out.2 hb9
      have HB9 := hidE (And.intro hb29 hbw9)
      clear a0 a1 a2 a3 a4 a5 b0 b1 b2 b3 b4 b5
      obtain ⟨⟨a0, a1, a2, a3, a4, a5⟩, ⟨b0, b1, b2, b3, b4, b5⟩⟩ := HX.out w9 hb29
      have HM9 : Hid (Below w6.heap.size w6 w9) := below_on HM8.out hb9
      clear hb9 hb29 hbw9
      obtain ⟨xv, hxv⟩ : ∃ x, eqT A B = x := ⟨_, rfl⟩
      obtain ⟨yv, hyv⟩ : ∃ x, rlessN A B = x := ⟨_, rfl⟩
      have HE1 : Hid (equalN A B = xv) := by show _ = _; unfold equalN; rw [if_pos HC0.out]; exact hxv
      have HE2 : Hid (equalN B A = xv) := by show _ = _; rw [(equal_laws HC0.out.1 HC0.out.2).1]; exact HE1.out
      have HE3 : Hid (lessN A B = yv) := by
        show _ = _
        rw [← hyv]
        unfold lessN rlessN
        by_cases h : A.kind = B.kind ∧ plainB A.kind = true
        · rw [if_pos h, if_pos ⟨h.1, h.2, HC0.out⟩]
        · rw [if_neg h, if_neg (fun g => h ⟨g.1, g.2.1⟩)]
      rw [hxv, hyv]
      clear hxv hyv
      obtain ⟨⟨⟨x0, x1, x2, x3, x4, x5⟩, ⟨y0, y1, y2, y3, y4, y5⟩⟩, _, _, _⟩ := HM.out w9 HM9.out
      go_wp2_with fail
      refine (HCO.out w9 HM9.out HB9.out.2).1.mono ?_
      rintro e w10 ⟨rfl, hb10⟩
      have HM10 : Hid (Below w6.heap.size w6 w10) := below_on HM9.out hb10
      clear x0 x1 x2 x3 x4 x5 y0 y1 y2 y3 y4 y5
      obtain ⟨⟨⟨x0, x1, x2, x3, x4, x5⟩, ⟨y0, y1, y2, y3, y4, y5⟩⟩, _, _, _⟩ := HM.out w10 HM10.out
      have hb210 : Below W2.heap.size W2 w10 := below_on HB9.out.1 hb10
      have hbw10 : Below w.heap.size w w10 := below_on HB9.out.2 hb10
      have HB10 := hidE (And.intro hb210 hbw10)
      clear a0 a1 a2 a3 a4 a5 b0 b1 b2 b3 b4 b5
      obtain ⟨⟨a0, a1, a2, a3, a4, a5⟩, ⟨b0, b1, b2, b3, b4, b5⟩⟩ := HX.out w10 hb210
      clear hb10 hb210 hbw10
      rw [HE1.out]
      go_wp2_with fail
      refine (HCO.out w10 HM10.out HB10.out.2).2.1.mono ?_
      rintro e w11 ⟨rfl, hb11⟩
      have HM11 : Hid (Below w6.heap.size w6 w11) := below_on HM10.out hb11
      clear x0 x1 x2 x3 x4 x5 y0 y1 y2 y3 y4 y5
      obtain ⟨⟨⟨x0, x1, x2, x3, x4, x5⟩, ⟨y0, y1, y2, y3, y4, y5⟩⟩, _, _, _⟩ := HM.out w11 HM11.out
      have hb211 : Below W2.heap.size W2 w11 := below_on HB10.out.1 hb11
      have hbw11 : Below w.heap.size w w11 := below_on HB10.out.2 hb11
      have HB11 := hidE (And.intro hb211 hbw11)
      clear a0 a1 a2 a3 a4 a5 b0 b1 b2 b3 b4 b5
      obtain ⟨⟨a0, a1, a2, a3, a4, a5⟩, ⟨b0, b1, b2, b3, b4, b5⟩⟩ := HX.out w11 hb211
      clear hb11 hb211 hbw11
      rw [HE2.out]
      go_wp2_with fail
      refine (HCO.out w11 HM11.out HB11.out.2).2.2.1.mono ?_
      rintro e w12 ⟨rfl, hb12⟩
      have HM12 : Hid (Below w6.heap.size w6 w12) := below_on HM11.out hb12
      clear x0 x1 x2 x3 x4 x5 y0 y1 y2 y3 y4 y5
      obtain ⟨⟨⟨x0, x1, x2, x3, x4, x5⟩, ⟨y0, y1, y2, y3, y4, y5⟩⟩, _, _, _⟩ := HM.out w12 HM12.out
      have hb212 : Below W2.heap.size W2 w12 := below_on HB11.out.1 hb12
      have hbw12 : Below w.heap.size w w12 := below_on HB11.out.2 hb12
      have HB12 := hidE (And.intro hb212 hbw12)
      clear a0 a1 a2 a3 a4 a5 b0 b1 b2 b3 b4 b5
      obtain ⟨⟨a0, a1, a2, a3, a4, a5⟩, ⟨b0, b1, b2, b3, b4, b5⟩⟩ := HX.out w12 hb212
      clear hb12 hb212 hbw12
      rw [HE3.out]
      go_wp2_with fail
      refine (HCO.out w12 HM12.out HB12.out.2).2.2.2.1.mono ?_
      rintro e w13 ⟨rfl, hb13⟩
      have HM13 : Hid (Below w6.heap.size w6 w13) := below_on HM12.out hb13
      clear x0 x1 x2 x3 x4 x5 y0 y1 y2 y3 y4 y5
      obtain ⟨⟨⟨x0, x1, x2, x3, x4, x5⟩, ⟨y0, y1, y2, y3, y4, y5⟩⟩, _, _, _⟩ := HM.out w13 HM13.out
      have hb213 : Below W2.heap.size W2 w13 := below_on HB12.out.1 hb13
      have hbw13 : Below w.heap.size w w13 := below_on HB12.out.2 hb13
      have HB13 := hidE (And.intro hb213 hbw13)
      clear a0 a1 a2 a3 a4 a5 b0 b1 b2 b3 b4 b5
      obtain ⟨⟨a0, a1, a2, a3, a4, a5⟩, ⟨b0, b1, b2, b3, b4, b5⟩⟩ := HX.out w13 hb213
      clear hb13 hb213 hbw13
      go_wp2_with fail
      refine (HCO.out w13 HM13.out HB13.out.2).2.2.2.2.mono ?_
      rintro e w14 ⟨rfl, hb14⟩
      have HM14 : Hid (Below w6.heap.size w6 w14) := below_on HM13.out hb14
      clear x0 x1 x2 x3 x4 x5 y0 y1 y2 y3 y4 y5
      obtain ⟨⟨⟨x0, x1, x2, x3, x4, x5⟩, ⟨y0, y1, y2, y3, y4, y5⟩⟩, _, _, _⟩ := HM.out w14 HM14.out
      have hb214 : Below W2.heap.size W2 w14 := below_on HB13.out.1 hb14
      have hbw14 : Below w.heap.size w w14 := below_on HB13.out.2 hb14
      have HB14 := hidE (And.intro hb214 hbw14)
      clear a0 a1 a2 a3 a4 a5 b0 b1 b2 b3 b4 b5
      obtain ⟨⟨a0, a1, a2, a3, a4, a5⟩, ⟨b0, b1, b2, b3, b4, b5⟩⟩ := HX.out w14 hb214
      clear hb14 hb214 hbw14
      go_wp2_with fail
      refine (HWK.out w14 HB14.out.2).mono ?_
      rintro e w99 ⟨rfl, hb99⟩
      have HF : Hid (Below w.heap.size w w99) := below_on HB14.out.2 hb99
      clear hb99
      go_wp2_with fail
      go_ret
      exact ⟨rfl, HF.out⟩
    | false =>
      have HC0 : Hid (¬ (checkN A = 0 ∧ checkN B = 0)) := fun h => by rw [(fine_two A B).2 h] at hfi; cases hfi
      clear hfi
      have HE1 : Hid (equalN A B = 1) := by show _ = _; unfold equalN; rw [if_neg HC0.out]
      have HE2 : Hid (equalN B A = 1) := by show _ = _; unfold equalN; rw [if_neg (fun h => HC0.out ⟨h.2, h.1⟩)]
      have HE3 : Hid (lessN A B = 1) := by show _ = _; unfold lessN; rw [if_neg (fun h => HC0.out ⟨h.2.2.1, h.2.2.2⟩)]
      obtain ⟨⟨⟨x0, x1, x2, x3, x4, x5⟩, ⟨y0, y1, y2, y3, y4, y5⟩⟩, _, _, _⟩ := HM.out w8 HM8.out
      go_wp2_with fail
      refine (HCO.out w8 HM8.out HB8.out.2).1.mono ?_
      rintro e w9 ⟨rfl, hb9⟩
      have HM9 : Hid (Below w6.heap.size w6 w9) := below_on HM8.out hb9
      clear x0 x1 x2 x3 x4 x5 y0 y1 y2 y3 y4 y5
      obtain ⟨⟨⟨x0, x1, x2, x3, x4, x5⟩, ⟨y0, y1, y2, y3, y4, y5⟩⟩, _, _, _⟩ := HM.out w9 HM9.out
      have hb29 : Below W2.heap.size W2 w9 := below_on HB8.out.1 hb9
      have hbw9 : Below w.heap.size w w9 := below_on HB8.out.2 hb9
      have HB9 := hidE (And.intro hb29 hbw9)
      clear a0 a1 a2 a3 a4 a5 b0 b1 b2 b3 b4 b5
      obtain ⟨⟨a0, a1, a2, a3, a4, a5⟩, ⟨b0, b1, b2, b3, b4, b5⟩⟩ := HX.out w9 hb29
      clear hb9 hb29 hbw9
      rw [HE1.out]
      go_wp2_with fail
      refine (HCO.out w9 HM9.out HB9.out.2).2.1.mono ?_
      rintro e w10 ⟨rfl, hb10⟩
      have HM10 : Hid (Below w6.heap.size w6 w10) := below_on HM9.out hb10
      clear x0 x1 x2 x3 x4 x5 y0 y1 y2 y3 y4 y5
      obtain ⟨⟨⟨x0, x1, x2, x3, x4, x5⟩, ⟨y0, y1, y2, y3, y4, y5⟩⟩, _, _, _⟩ := HM.out w10 HM10.out
      have hb210 : Below W2.heap.size W2 w10 := below_on HB9.out.1 hb10
      have hbw10 : Below w.heap.size w w10 := below_on HB9.out.2 hb10
      have HB10 := hidE (And.intro hb210 hbw10)
      clear a0 a1 a2 a3 a4 a5 b0 b1 b2 b3 b4 b5
      obtain ⟨⟨a0, a1, a2, a3, a4, a5⟩, ⟨b0, b1, b2, b3, b4, b5⟩⟩ := HX.out w10 hb210
      clear hb10 hb210 hbw10
      rw [HE2.out]
      go_wp2_with fail
      refine (HCO.out w10 HM10.out HB10.out.2).2.2.1.mono ?_
      rintro e w11 ⟨rfl, hb11⟩
      have HM11 : Hid (Below w6.heap.size w6 w11) := below_on HM10.out hb11
      clear x0 x1 x2 x3 x4 x5 y0 y1 y2 y3 y4 y5
      obtain ⟨⟨⟨x0, x1, x2, x3, x4, x5⟩, ⟨y0, y1, y2, y3, y4, y5⟩⟩, _, _, _⟩ := HM.out w11 HM11.out
      have hb211 : Below W2.heap.size W2 w11 := below_on HB10.out.1 hb11
      have hbw11 : Below w.heap.size w w11 := below_on HB10.out.2 hb11
      have HB11 := hidE (And.intro hb211 hbw11)
      clear a0 a1 a2 a3 a4 a5 b0 b1 b2 b3 b4 b5
      obtain ⟨⟨a0, a1, a2, a3, a4, a5⟩, ⟨b0, b1, b2, b3, b4, b5⟩⟩ := HX.out w11 hb211
      clear hb11 hb211 hbw11
      rw [HE3.out]
      go_wp2_with fail
      refine (HCO.out w11 HM11.out HB11.out.2).2.2.2.1.mono ?_
      rintro e w12 ⟨rfl, hb12⟩
      have HM12 : Hid (Below w6.heap.size w6 w12) := below_on HM11.out hb12
      clear x0 x1 x2 x3 x4 x5 y0 y1 y2 y3 y4 y5
      obtain ⟨⟨⟨x0, x1, x2, x3, x4, x5⟩, ⟨y0, y1, y2, y3, y4, y5⟩⟩, _, _, _⟩ := HM.out w12 HM12.out
      have hb212 : Below W2.heap.size W2 w12 := below_on HB11.out.1 hb12
      have hbw12 : Below w.heap.size w w12 := below_on HB11.out.2 hb12
      have HB12 := hidE (And.intro hb212 hbw12)
      clear a0 a1 a2 a3 a4 a5 b0 b1 b2 b3 b4 b5
      obtain ⟨⟨a0, a1, a2, a3, a4, a5⟩, ⟨b0, b1, b2, b3, b4, b5⟩⟩ := HX.out w12 hb212
      clear hb12 hb212 hbw12
      go_wp2_with fail
      refine (HCO.out w12 HM12.out HB12.out.2).2.2.2.2.mono ?_
      rintro e w13 ⟨rfl, hb13⟩
      have HM13 : Hid (Below w6.heap.size w6 w13) := below_on HM12.out hb13
      clear x0 x1 x2 x3 x4 x5 y0 y1 y2 y3 y4 y5
      obtain ⟨⟨⟨x0, x1, x2, x3, x4, x5⟩, ⟨y0, y1, y2, y3, y4, y5⟩⟩, _, _, _⟩ := HM.out w13 HM13.out
      have hb213 : Below W2.heap.size W2 w13 := below_on HB12.out.1 hb13
      have hbw13 : Below w.heap.size w w13 := below_on HB12.out.2 hb13
      have HB13 := hidE (And.intro hb213 hbw13)
      clear a0 a1 a2 a3 a4 a5 b0 b1 b2 b3 b4 b5
      obtain ⟨⟨a0, a1, a2, a3, a4, a5⟩, ⟨b0, b1, b2, b3, b4, b5⟩⟩ := HX.out w13 hb213
      clear hb13 hb213 hbw13
      go_wp2_with fail
      refine (HWK.out w13 HB13.out.2).mono ?_
      rintro e w99 ⟨rfl, hb99⟩
      have HF : Hid (Below w.heap.size w w99) := below_on HB13.out.2 hb99
      clear hb99
      go_wp2_with fail
      go_ret
      exact ⟨rfl, HF.out⟩
  · have hd : decide (smalls [A, B] ≤ 2000) = false := by simp [hsm]
    rw [hd]
    clear hsm hd
    go_wp2_with fail
    refine (HWK.out w5 HB5.out.2).mono ?_
    rintro e w6 ⟨rfl, hb6⟩
    have HF : Hid (Below w.heap.size w w6) := below_on HB5.out.2 hb6
    clear hb6
    go_wp2_with fail
    go_ret
    exact ⟨rfl, HF.out⟩
end Go.Proofs.YtbpmhgcjefpigaaGreatDoor
