/- ValueOrders, walked. -/
import Derived.Test.YtbpmhgcjefpigaaGreatDoorJoin11
import Derived.Test.YtbpmhgcjefpigaaGreatDoorJoin14
import Derived.Test.YtbpmhgcjefpigaaGreatDoorOrders3
import Derived.Test.YtbpmhgcjefpigaaGreatDoorOrders7f
import Derived.Test.YtbpmhgcjefpigaaGreatDoorJoin15
import Derived.Test.YtbpmhgcjefpigaaGreatDoorJoin16
namespace Go.Proofs.YtbpmhgcjefpigaaGreatDoor
open Go.RowKit Go.Shelf Go.Lib
set_option linter.unusedVariables false
set_option linter.unusedSimpArgs false

theorem fine_two (A B : Tree) : fineB [A, B] = true ↔ checkN A = 0 ∧ checkN B = 0 := by simp [fineB]
set_option maxRecDepth 100000 in
set_option maxHeartbeats 8000000 in
theorem orders_law (A B : Tree) (D : Nat) (va vb : Value) (w : World) (hD : D ≤ w.heap.size) (hA : Lies D w va A) (hB : Lies D w vb B) (sA : Sane A) (sB : Sane B) (hT : Tabs w)
    (hP : TabBelow Tryz.prog w.heap.size w "internal/strconv.uint64pow10" .u64 pow10Tab) : Calls Tryz.prog 4 #[va, vb] w fun e w' => e = .returned (.bool true) ∧ Below w.heap.size w w' := by
  have HLL := hidE (And.intro hA hB)
  obtain ⟨ak, ab, an, ax, aa, am, ac, al, ao, ad, rfl⟩ := lies_form hA
  obtain ⟨bk, bb, bn, bx, ba, bm, bc, bl, bo, bd, rfl⟩ := lies_form hB
  obtain ⟨W2, hW2⟩ : ∃ W2, (w.alloc (.cells #[.int .i64 ak, .bool ab, .int .i64 an, .string ax, .slice aa am ac, .slice al ao ad] 26)).alloc (.cells #[.int .i64 bk, .bool bb, .int .i64 bn, .string bx, .slice ba bm bc, .slice bl bo bd] 26) = W2 := ⟨_, rfl⟩
  have hs2 : W2.heap.size = w.heap.size + 1 + 1 := by rw [← hW2]; simp
  have hb2 : Below w.heap.size w W2 := hW2 ▸ ((Below.refl _ _).alloc (Nat.le_refl _) _).alloc (by simp) _
  have hqa : W2.heap[w.heap.size]? = some (.cells #[.int .i64 ak, .bool ab, .int .i64 an, .string ax, .slice aa am ac, .slice al ao ad] 26 (0, 0)) := by
    rw [← hW2, Below.heap_alloc _ _ _ (by simp)]; exact World.alloc_heap_new _ _
  have hqb : W2.heap[w.heap.size + 1]? = some (.cells #[.int .i64 bk, .bool bb, .int .i64 bn, .string bx, .slice ba bm bc, .slice bl bo bd] 26 (0, 0)) := by
    rw [← hW2]
    have := World.alloc_heap_new (w.alloc (.cells #[.int .i64 ak, .bool ab, .int .i64 an, .string ax, .slice aa am ac, .slice al ao ad] 26)) (.cells #[.int .i64 bk, .bool bb, .int .i64 bn, .string bx, .slice ba bm bc, .slice bl bo bd] 26)
    rwa [World.size_alloc] at this
  obtain ⟨W3, hW3⟩ : ∃ W3, W2.alloc (.cells #[.int .i64 ak, .bool ab, .int .i64 an, .string ax, .slice aa am ac, .slice al ao ad, .int .i64 bk, .bool bb, .int .i64 bn, .string bx, .slice ba bm bc, .slice bl bo bd] 26) = W3 := ⟨_, rfl⟩
  have hb23 : Below W2.heap.size W2 W3 := hW3 ▸ (Below.refl _ _).alloc (Nat.le_refl _) _
  have hq3 : W3.heap[w.heap.size + 1 + 1]? = some (.cells #[.int .i64 ak, .bool ab, .int .i64 an, .string ax, .slice aa am ac, .slice al ao ad, .int .i64 bk, .bool bb, .int .i64 bn, .string bx, .slice ba bm bc, .slice bl bo bd] 26 (0, 0)) := by
    rw [← hs2, ← hW3]; exact World.alloc_heap_new _ _
  have hb3 : Below w.heap.size w W3 := below_on hb2 hb23
  have HX : Hid (∀ w', Below W2.heap.size W2 w' → (w'.cell? ⟨w.heap.size, 0, none⟩ = some (.int .i64 ak) ∧ w'.cell? ⟨w.heap.size, 1, none⟩ = some (.bool ab) ∧ w'.cell? ⟨w.heap.size, 2, none⟩ = some (.int .i64 an) ∧ w'.cell? ⟨w.heap.size, 3, none⟩ = some (.string ax) ∧ w'.cell? ⟨w.heap.size, 4, none⟩ = some (.slice aa am ac) ∧ w'.cell? ⟨w.heap.size, 5, none⟩ = some (.slice al ao ad)) ∧ (w'.cell? ⟨w.heap.size + 1, 0, none⟩ = some (.int .i64 bk) ∧ w'.cell? ⟨w.heap.size + 1, 1, none⟩ = some (.bool bb) ∧ w'.cell? ⟨w.heap.size + 1, 2, none⟩ = some (.int .i64 bn) ∧ w'.cell? ⟨w.heap.size + 1, 3, none⟩ = some (.string bx) ∧ w'.cell? ⟨w.heap.size + 1, 4, none⟩ = some (.slice ba bm bc) ∧ w'.cell? ⟨w.heap.size + 1, 5, none⟩ = some (.slice bl bo bd))) := fun w' hb =>
    ⟨six_cells ((hb.block _ (by omega)).trans hqa), six_cells ((hb.block _ (by omega)).trans hqb)⟩
  have HL : Hid (∀ w', Below w.heap.size w w' → Lies D w' (.agg #[.int .i64 ak, .bool ab, .int .i64 an, .string ax, .slice aa am ac, .slice al ao ad]) A ∧ Lies D w' (.agg #[.int .i64 bk, .bool bb, .int .i64 bn, .string bx, .slice ba bm bc, .slice bl bo bd]) B ∧ D ≤ w'.heap.size ∧ Tabs w') := fun w' hb => ⟨HLL.out.1.below (hb.mono hD), HLL.out.2.below (hb.mono hD), Nat.le_trans hD hb.size, hT.below hb⟩
  have hl3 := HL.out W3 hb3
  have hlt3 : w.heap.size + 1 + 1 < W3.heap.size := (Array.getElem?_eq_some_iff.1 hq3).1
  have HSM := hidE (smalls_any [A, B] W3.heap.size (some ⟨w.heap.size + 1 + 1, 0, none⟩) 2 W3 (Nat.le_refl _) (.inr ⟨_, _, rfl, hlt3, kids_two hq3 (hl3.1.mono hl3.2.2.1) (hl3.2.1.mono hl3.2.2.1)⟩) (Nat.le_refl _) (by unfold maxLen; omega) (by intro t ht; simp only [List.mem_cons, List.not_mem_nil, or_false] at ht; rcases ht with rfl | rfl; exact sA; exact sB))
  have HWK : Hid (∀ w', Below w.heap.size w w' → Calls Tryz.prog 16 #[] w' fun e w2 => e = .returned (.bool true) ∧ Below w'.heap.size w' w2) := fun w' hb => works_any w' (hT.below hb) (fun w2 h => hP w2 (hb.trans (h.mono hb.size)))
  have HW2 := hidE hW2
  have HW3 := hidE hW3
  have HB := hidE (And.intro hb2 (And.intro hb23 hb3))
  have HSAB := hidE (And.intro sA sB)
  clear hW2 hW3 hb2 hb23 hb3 hqa hqb hq3 hl3 hlt3 hA hB sA sB hT hP hs2
  go_enter Tryz.func4, Tryz.ntmps4
  go_wp2_with fail
  rw [HW2.out, HW3.out]
  refine HSM.out.mono ?_
  rintro e w5 ⟨rfl, hb5⟩
  have hb25 : Below W2.heap.size W2 w5 := below_on HB.out.2.1 hb5
  have hbw5 : Below w.heap.size w w5 := below_on HB.out.2.2 hb5
  have HB5 := hidE (And.intro hb25 hbw5)
  obtain ⟨⟨a0, a1, a2, a3, a4, a5⟩, ⟨b0, b1, b2, b3, b4, b5⟩⟩ := HX.out w5 hb25
  clear hb5 hb25 hbw5 HSM
  by_cases hsm : smalls [A, B] ≤ 2000
  · have HTOT := hidE (small_total hsm)
    have hmA : Modest A := modest_total (HTOT.out A (by simp))
    have hmB : Modest B := modest_total (HTOT.out B (by simp))
    have HMM := hidE (And.intro hmA hmB)
    have hd : decide (smalls [A, B] ≤ 2000) = true := by simp [hsm]
    rw [hd]
    clear hmA hmB hsm hd
    go_upto_region 3 with fail
    show (Code.region 3 RO3 true).wp _ _ _ _
    refine regionO3 D (.int .i64 ak) (.bool ab) (.int .i64 an) (.string ax) (.slice aa am ac) (.slice al ao ad) (.int .i64 bk) (.bool bb) (.int .i64 bn) (.string bx) (.slice ba bm bc) (.slice bl bo bd) A B w.heap.size (w.heap.size + 1) w5 _ _ ⟨rfl, rfl, rfl⟩ ⟨a0, a1, a2, a3, a4, a5, b0, b1, b2, b3, b4, b5, (HL.out w5 HB5.out.2).1, (HL.out w5 HB5.out.2).2.1, (HL.out w5 HB5.out.2).2.2.1, by have := HTOT.out A (by simp); omega, by have := HTOT.out B (by simp); omega⟩ ?_
    intro c w6 qa qb va vb hS h5 h6 hb6 hqa hqb hpa hpb hsa hsb
    have hl : c = ⟨#[Value.agg #[Value.int IntKind.i64 ak, Value.bool ab, Value.int IntKind.i64 an, Value.string ax, Value.slice aa am ac, Value.slice al ao ad], Value.agg #[Value.int IntKind.i64 bk, Value.bool bb, Value.int IntKind.i64 bn, Value.string bx, Value.slice ba bm bc, Value.slice bl bo bd], Value.pointer (some { block := w.heap.size, off := 0 }), Value.pointer (some { block := w.heap.size + 1, off := 0 }), Value.bool false, c.eval (.tmp 5), c.eval (.tmp 6), undef, Value.agg #[Value.int IntKind.i64 ak, Value.bool ab, Value.int IntKind.i64 an, Value.string ax, Value.slice aa am ac, Value.slice al ao ad], Value.agg #[Value.int IntKind.i64 bk, Value.bool bb, Value.int IntKind.i64 bn, Value.string bx, Value.slice ba bm bc, Value.slice bl bo bd], Value.slice (some { block := w.heap.size + 1 + 1, off := 0 }) 2 2, Value.bool true, Value.bool false, undef, c.eval (.tmp 14), c.eval (.tmp 15), c.eval (.tmp 16), c.eval (.tmp 17), undef, undef, undef, undef, undef, undef, undef, undef, undef, undef, undef, undef, undef, undef, undef, undef, undef, undef, undef, undef, undef, undef, undef, undef, undef, undef, undef, undef, undef, undef, undef, undef, undef, undef, undef, undef, undef, undef, undef, undef, undef, undef, undef, undef, undef, undef, undef], []⟩ := (same_lay hS).trans (by kernel_rfl)
    rw [h5] at hl
    rw [h6] at hl
    generalize c.eval (.tmp 14) = z14 at hl
    generalize c.eval (.tmp 15) = z15 at hl
    generalize c.eval (.tmp 16) = z16 at hl
    generalize c.eval (.tmp 17) = z17 at hl
    clear hS h5 h6
    subst hl
    obtain ⟨qa', m0, m1, m2, m3, m4, m5, ea, rfl, x0, x1, x2, x3, x4, x5⟩ := hpa
    obtain rfl := ptr_inj ea
    obtain ⟨qb', n0, n1, n2, n3, n4, n5, eb, rfl, y0, y1, y2, y3, y4, y5⟩ := hpb
    obtain rfl := ptr_inj eb
    have HM : Hid (∀ w', Below w6.heap.size w6 w' → ((w'.cell? ⟨qa, 0, none⟩ = some m0 ∧ w'.cell? ⟨qa, 1, none⟩ = some m1 ∧ w'.cell? ⟨qa, 2, none⟩ = some m2 ∧ w'.cell? ⟨qa, 3, none⟩ = some m3 ∧ w'.cell? ⟨qa, 4, none⟩ = some m4 ∧ w'.cell? ⟨qa, 5, none⟩ = some m5) ∧
        (w'.cell? ⟨qb, 0, none⟩ = some n0 ∧ w'.cell? ⟨qb, 1, none⟩ = some n1 ∧ w'.cell? ⟨qb, 2, none⟩ = some n2 ∧ w'.cell? ⟨qb, 3, none⟩ = some n3 ∧ w'.cell? ⟨qb, 4, none⟩ = some n4 ∧ w'.cell? ⟨qb, 5, none⟩ = some n5)) ∧
        SpareP (· < w6.heap.size) w' (.agg #[m0, m1, m2, m3, m4, m5]) A ∧ SpareP (· < w6.heap.size) w' (.agg #[n0, n1, n2, n3, n4, n5]) B ∧ w6.heap.size ≤ w'.heap.size) := fun w' hb =>
      ⟨⟨⟨(hb.cell (p := ⟨qa, 0, none⟩) hqa.2).trans x0, (hb.cell (p := ⟨qa, 1, none⟩) hqa.2).trans x1, (hb.cell (p := ⟨qa, 2, none⟩) hqa.2).trans x2, (hb.cell (p := ⟨qa, 3, none⟩) hqa.2).trans x3, (hb.cell (p := ⟨qa, 4, none⟩) hqa.2).trans x4, (hb.cell (p := ⟨qa, 5, none⟩) hqa.2).trans x5⟩,
        (hb.cell (p := ⟨qb, 0, none⟩) hqb.2).trans y0, (hb.cell (p := ⟨qb, 1, none⟩) hqb.2).trans y1, (hb.cell (p := ⟨qb, 2, none⟩) hqb.2).trans y2, (hb.cell (p := ⟨qb, 3, none⟩) hqb.2).trans y3, (hb.cell (p := ⟨qb, 4, none⟩) hqb.2).trans y4, (hb.cell (p := ⟨qb, 5, none⟩) hqb.2).trans y5⟩,
        Spare.below hb hsa, Spare.below hb hsb, hb.size⟩
    have hb26 : Below W2.heap.size W2 w6 := below_on HB5.out.1 hb6
    have hbw6 : Below w.heap.size w w6 := below_on HB5.out.2 hb6
    have HB6 := hidE (And.intro hb26 hbw6)
    clear a0 a1 a2 a3 a4 a5 b0 b1 b2 b3 b4 b5
    obtain ⟨⟨a0, a1, a2, a3, a4, a5⟩, ⟨b0, b1, b2, b3, b4, b5⟩⟩ := HX.out w6 hb26
    clear hb6 hb26 hbw6
    clear x0 x1 x2 x3 x4 x5 y0 y1 y2 y3 y4 y5 hqa hqb hsa hsb ea eb
    obtain ⟨W7, hW7⟩ : ∃ W7, w6.alloc (.cells #[.int .i64 ak, .bool ab, .int .i64 an, .string ax, .slice aa am ac, .slice al ao ad, .int .i64 bk, .bool bb, .int .i64 bn, .string bx, .slice ba bm bc, .slice bl bo bd] 26) = W7 := ⟨_, rfl⟩
    have hb67 : Below w6.heap.size w6 W7 := hW7 ▸ (Below.refl _ _).alloc (Nat.le_refl _) _
    have hq7 : W7.heap[w6.heap.size]? = some (.cells #[.int .i64 ak, .bool ab, .int .i64 an, .string ax, .slice aa am ac, .slice al ao ad, .int .i64 bk, .bool bb, .int .i64 bn, .string bx, .slice ba bm bc, .slice bl bo bd] 26 (0, 0)) := hW7 ▸ World.alloc_heap_new _ _
    have hl7 := HL.out W7 (below_on HB6.out.2 hb67)
    have HFI := hidE (fine_any [A, B] W7.heap.size (some ⟨w6.heap.size, 0, none⟩) 2 W7 (Nat.le_refl _) (.inr ⟨_, _, rfl, (Array.getElem?_eq_some_iff.1 hq7).1, kids_two hq7 (hl7.1.mono hl7.2.2.1) (hl7.2.1.mono hl7.2.2.1)⟩) (Nat.le_refl _) (by unfold maxLen; omega) (by
      intro t ht
      have h1 := HTOT.out t ht
      simp only [List.mem_cons, List.not_mem_nil, or_false] at ht
      refine ⟨?_, by omega⟩
      rcases ht with rfl | rfl
      · exact HSAB.out.1
      · exact HSAB.out.2))
    have HB67 := hidE hb67
    have HW7 := hidE hW7
    clear hb67 hq7 hl7 hW7
    go_wp2_with fail
    rw [HW7.out]
    refine HFI.out.mono ?_
    rintro e w8 ⟨rfl, hb8'⟩
    have hb8 : Below w6.heap.size w6 w8 := below_on HB67.out hb8'
    have HM8 := hidE hb8
    have hb28 : Below W2.heap.size W2 w8 := below_on HB6.out.1 hb8
    have hbw8 : Below w.heap.size w w8 := below_on HB6.out.2 hb8
    have HB8 := hidE (And.intro hb28 hbw8)
    clear a0 a1 a2 a3 a4 a5 b0 b1 b2 b3 b4 b5
    obtain ⟨⟨a0, a1, a2, a3, a4, a5⟩, ⟨b0, b1, b2, b3, b4, b5⟩⟩ := HX.out w8 hb28
    clear hb8 hb28 hbw8
    clear hb8'
    have HK4 : Hid (∀ W t, Below w.heap.size w W → W.heap[t]? = some (.cells #[.int .i64 ak, .bool ab, .int .i64 an, .string ax, .slice aa am ac, .slice al ao ad, .int .i64 bk, .bool bb, .int .i64 bn, .string bx, .slice ba bm bc, .slice bl bo bd] 26 (0, 0)) → Calls Tryz.prog 21 #[.slice (some ⟨t, 0, none⟩) 2 2] W fun e w' => e = .returned (.bool (fineB [A, B])) ∧ Below W.heap.size W w') := fun W t hb hq =>
      fine_any [A, B] W.heap.size (some ⟨t, 0, none⟩) 2 W (Nat.le_refl _) (.inr ⟨_, _, rfl, (Array.getElem?_eq_some_iff.1 hq).1, kids_two hq ((HL.out W hb).1.mono (HL.out W hb).2.2.1) ((HL.out W hb).2.1.mono (HL.out W hb).2.2.1)⟩) (Nat.le_refl _) (by unfold maxLen; omega) (by
      intro t ht
      have h1 := HTOT.out t ht
      simp only [List.mem_cons, List.not_mem_nil, or_false] at ht
      refine ⟨?_, by omega⟩
      rcases ht with rfl | rfl
      · exact HSAB.out.1
      · exact HSAB.out.2)
    have HCO : Hid (∀ W, Below w6.heap.size w6 W → Below w.heap.size w W → Calls Tryz.prog 31 #[.agg #[m0, m1, m2, m3, m4, m5], .agg #[n0, n1, n2, n3, n4, n5]] W (fun e w' => e = .returned (.int .i64 (compN A B)) ∧ Below W.heap.size W w') ∧ Calls Tryz.prog 31 #[.agg #[n0, n1, n2, n3, n4, n5], .agg #[m0, m1, m2, m3, m4, m5]] W (fun e w' => e = .returned (.int .i64 (compN B A)) ∧ Below W.heap.size W w') ∧ Calls Tryz.prog 32 #[.agg #[m0, m1, m2, m3, m4, m5], .agg #[n0, n1, n2, n3, n4, n5]] W (fun e w' => e = .returned (.bool (sameB A B)) ∧ Below W.heap.size W w') ∧
        Calls Tryz.prog 29 #[.agg #[m0, m1, m2, m3, m4, m5], .agg #[.int .i64 ak, .bool ab, .int .i64 an, .string ax, .slice aa am ac, .slice al ao ad]] W (fun e w' => e = .returned (.bool true) ∧ Below W.heap.size W w') ∧ Calls Tryz.prog 29 #[.agg #[n0, n1, n2, n3, n4, n5], .agg #[.int .i64 bk, .bool bb, .int .i64 bn, .string bx, .slice ba bm bc, .slice bl bo bd]] W (fun e w' => e = .returned (.bool true) ∧ Below W.heap.size W w')) := fun W hb hbw => by
      obtain ⟨_, g1, g2, g3⟩ := HM.out W hb
      obtain ⟨l1, l2, l3, l4⟩ := HL.out W hbw
      have hD6 : D ≤ w6.heap.size := (HL.out w6 HB6.out.2).2.2.1
      exact ⟨Compare_any A B w6.heap.size _ _ W g3 (Spare.lies g1) (Spare.lies g2) l4 HMM.out.1 HMM.out.2, Compare_any B A w6.heap.size _ _ W g3 (Spare.lies g2) (Spare.lies g1) l4 HMM.out.2 HMM.out.1, Same_any A B w6.heap.size _ _ W g3 (Spare.lies g1) (Spare.lies g2) l4 HMM.out.1 HMM.out.2,
        kept_any A w6.heap.size _ _ W g3 g1 (l1.mono hD6), kept_any B w6.heap.size _ _ W g3 g2 (l2.mono hD6)⟩
    cases hfi : fineB [A, B] with
    | true =>
      have HC0 := hidE ((fine_two A B).1 hfi)
      have HFB := hidE hfi
      clear hfi
      go_wp2_with fail
      refine (refcmp_any A D _ _ B w8 (HL.out w8 HB8.out.2).2.2.1 (HL.out w8 HB8.out.2).1 (HL.out w8 HB8.out.2).2.1 (known_check HC0.out.1) (known_check HC0.out.2)).mono ?_
      rintro e w9 ⟨rfl, hb9⟩
      have hb29 : Below W2.heap.size W2 w9 := below_on HB8.out.1 hb9
      have hbw9 : Below w.heap.size w w9 := below_on HB8.out.2 hb9
      have HB9 := hidE (And.intro hb29 hbw9)
      clear a0 a1 a2 a3 a4 a5 b0 b1 b2 b3 b4 b5
      obtain ⟨⟨a0, a1, a2, a3, a4, a5⟩, ⟨b0, b1, b2, b3, b4, b5⟩⟩ := HX.out w9 hb29
      have HM9 : Hid (Below w6.heap.size w6 w9) := below_on HM8.out hb9
      clear hb9 hb29 hbw9
      obtain ⟨wv, hwv⟩ : ∃ x, ordT A B = x := ⟨_, rfl⟩
      have HWV := hidE hwv
      rw [hwv]
      clear hwv
      go_upto_region 7 with fail
      show (Code.region 7 RO7t true).wp _ _ _ _
      refine regionO7t w.heap.size (w.heap.size + 1) qa qb wv ak ab an ax aa am ac al ao ad bk bb bn bx ba bm bc bl bo bd m0 m1 m2 m3 m4 m5 n0 n1 n2 n3 n4 n5 _ _ w9 rfl ⟨rfl, rfl, rfl, rfl, rfl⟩ (fun W hb => ?_) ?_
      · have hb6 : Below w6.heap.size w6 W := below_on HM9.out hb
        have hb2 : Below W2.heap.size W2 W := below_on HB9.out.1 hb
        have hbw : Below w.heap.size w W := below_on HB9.out.2 hb
        obtain ⟨⟨⟨x0, x1, x2, x3, x4, x5⟩, ⟨y0, y1, y2, y3, y4, y5⟩⟩, _, _, _⟩ := HM.out W hb6
        obtain ⟨⟨a0, a1, a2, a3, a4, a5⟩, ⟨b0, b1, b2, b3, b4, b5⟩⟩ := HX.out W hb2
        obtain ⟨k1, k2, k3, k5, k6⟩ := HCO.out W hb6 hbw
        have h3 := ordT_three A B
        have e1 : compN A B = wv := by unfold compN; rw [if_pos HC0.out]; exact HWV.out
        have e2 : compN B A = -wv := by unfold compN; rw [if_pos ⟨HC0.out.2, HC0.out.1⟩, ordT_turn A B (known_check HC0.out.1) (known_check HC0.out.2)]; rw [HWV.out]
        have e3 : sameB A B = (wv == 0) := by unfold sameB; simp [HC0.out.1, HC0.out.2, HWV.out]
        rw [e1] at k1
        rw [e2] at k2
        rw [e3] at k3
        rw [HWV.out] at h3
        unfold Three at h3
        exact ⟨a0, a1, a2, a3, a4, a5, b0, b1, b2, b3, b4, b5, x0, x1, x2, x3, x4, x5, y0, y1, y2, y3, y4, y5, by omega, by omega, k1, k2, k3, fun t ht => HFB.out ▸ HK4.out W t hbw ht, k5, k6, HWK.out W hbw⟩
      intro c w10 hS hb10 h4
      have HF : Hid (Below w.heap.size w w10) := below_on HB9.out.2 hb10
      clear hb10
      have hl : c = ⟨#[Value.agg #[Value.int IntKind.i64 ak, Value.bool ab, Value.int IntKind.i64 an, Value.string ax, Value.slice aa am ac, Value.slice al ao ad], Value.agg #[Value.int IntKind.i64 bk, Value.bool bb, Value.int IntKind.i64 bn, Value.string bx, Value.slice ba bm bc, Value.slice bl bo bd], Value.pointer (some { block := w.heap.size, off := 0 }), Value.pointer (some { block := w.heap.size + 1, off := 0 }), c.eval (.tmp 4), Value.pointer (some { block := qa, off := 0 }), Value.pointer (some { block := qb, off := 0 }), Value.int IntKind.i64 wv, Value.agg #[Value.int IntKind.i64 ak, Value.bool ab, Value.int IntKind.i64 an, Value.string ax, Value.slice aa am ac, Value.slice al ao ad], Value.agg #[Value.int IntKind.i64 bk, Value.bool bb, Value.int IntKind.i64 bn, Value.string bx, Value.slice ba bm bc, Value.slice bl bo bd], Value.slice (some { block := w.heap.size + 1 + 1, off := 0 }) 2 2, Value.bool true, Value.bool false, undef, z14, z15, z16, z17, Value.agg #[Value.int IntKind.i64 ak, Value.bool ab, Value.int IntKind.i64 an, Value.string ax, Value.slice aa am ac, Value.slice al ao ad], Value.agg #[Value.int IntKind.i64 bk, Value.bool bb, Value.int IntKind.i64 bn, Value.string bx, Value.slice ba bm bc, Value.slice bl bo bd], Value.slice (some { block := w6.heap.size, off := 0 }) 2 2, Value.bool true, Value.agg #[Value.int IntKind.i64 ak, Value.bool ab, Value.int IntKind.i64 an, Value.string ax, Value.slice aa am ac, Value.slice al ao ad], Value.agg #[Value.int IntKind.i64 bk, Value.bool bb, Value.int IntKind.i64 bn, Value.string bx, Value.slice ba bm bc, Value.slice bl bo bd], Value.int IntKind.i64 wv, c.eval (.tmp 25), c.eval (.tmp 26), c.eval (.tmp 27), c.eval (.tmp 28), c.eval (.tmp 29), c.eval (.tmp 30), c.eval (.tmp 31), c.eval (.tmp 32), c.eval (.tmp 33), c.eval (.tmp 34), c.eval (.tmp 35), c.eval (.tmp 36), c.eval (.tmp 37), c.eval (.tmp 38), c.eval (.tmp 39), c.eval (.tmp 40), c.eval (.tmp 41), c.eval (.tmp 42), c.eval (.tmp 43), c.eval (.tmp 44), c.eval (.tmp 45), c.eval (.tmp 46), c.eval (.tmp 47), c.eval (.tmp 48), c.eval (.tmp 49), c.eval (.tmp 50), c.eval (.tmp 51), c.eval (.tmp 52), c.eval (.tmp 53), c.eval (.tmp 54), c.eval (.tmp 55), c.eval (.tmp 56), c.eval (.tmp 57), c.eval (.tmp 58), c.eval (.tmp 59), c.eval (.tmp 60), c.eval (.tmp 61), c.eval (.tmp 62), c.eval (.tmp 63), c.eval (.tmp 64)], []⟩ := (same_lay hS).trans (by kernel_rfl)
      rw [h4] at hl
      generalize c.eval (.tmp 25) = z25 at hl
      generalize c.eval (.tmp 26) = z26 at hl
      generalize c.eval (.tmp 27) = z27 at hl
      generalize c.eval (.tmp 28) = z28 at hl
      generalize c.eval (.tmp 29) = z29 at hl
      generalize c.eval (.tmp 30) = z30 at hl
      generalize c.eval (.tmp 31) = z31 at hl
      generalize c.eval (.tmp 32) = z32 at hl
      generalize c.eval (.tmp 33) = z33 at hl
      generalize c.eval (.tmp 34) = z34 at hl
      generalize c.eval (.tmp 35) = z35 at hl
      generalize c.eval (.tmp 36) = z36 at hl
      generalize c.eval (.tmp 37) = z37 at hl
      generalize c.eval (.tmp 38) = z38 at hl
      generalize c.eval (.tmp 39) = z39 at hl
      generalize c.eval (.tmp 40) = z40 at hl
      generalize c.eval (.tmp 41) = z41 at hl
      generalize c.eval (.tmp 42) = z42 at hl
      generalize c.eval (.tmp 43) = z43 at hl
      generalize c.eval (.tmp 44) = z44 at hl
      generalize c.eval (.tmp 45) = z45 at hl
      generalize c.eval (.tmp 46) = z46 at hl
      generalize c.eval (.tmp 47) = z47 at hl
      generalize c.eval (.tmp 48) = z48 at hl
      generalize c.eval (.tmp 49) = z49 at hl
      generalize c.eval (.tmp 50) = z50 at hl
      generalize c.eval (.tmp 51) = z51 at hl
      generalize c.eval (.tmp 52) = z52 at hl
      generalize c.eval (.tmp 53) = z53 at hl
      generalize c.eval (.tmp 54) = z54 at hl
      generalize c.eval (.tmp 55) = z55 at hl
      generalize c.eval (.tmp 56) = z56 at hl
      generalize c.eval (.tmp 57) = z57 at hl
      generalize c.eval (.tmp 58) = z58 at hl
      generalize c.eval (.tmp 59) = z59 at hl
      generalize c.eval (.tmp 60) = z60 at hl
      generalize c.eval (.tmp 61) = z61 at hl
      generalize c.eval (.tmp 62) = z62 at hl
      generalize c.eval (.tmp 63) = z63 at hl
      generalize c.eval (.tmp 64) = z64 at hl
      clear hS h4
      subst hl
      go_wp2_with fail
      go_ret
      exact ⟨rfl, HF.out⟩
    | false =>
      have HC0 : Hid (¬ (checkN A = 0 ∧ checkN B = 0)) := fun h => by rw [(fine_two A B).2 h] at hfi; cases hfi
      have HFB := hidE hfi
      clear hfi
      go_upto_region 7 with fail
      show (Code.region 7 RO7f true).wp _ _ _ _
      refine regionO7f w.heap.size (w.heap.size + 1) qa qb 0 ak ab an ax aa am ac al ao ad bk bb bn bx ba bm bc bl bo bd m0 m1 m2 m3 m4 m5 n0 n1 n2 n3 n4 n5 _ _ w8 rfl ⟨rfl, rfl, rfl, rfl, rfl⟩ (fun W hb => ?_) ?_
      · have hb6 : Below w6.heap.size w6 W := below_on HM8.out hb
        have hb2 : Below W2.heap.size W2 W := below_on HB8.out.1 hb
        have hbw : Below w.heap.size w W := below_on HB8.out.2 hb
        obtain ⟨⟨⟨x0, x1, x2, x3, x4, x5⟩, ⟨y0, y1, y2, y3, y4, y5⟩⟩, _, _, _⟩ := HM.out W hb6
        obtain ⟨⟨a0, a1, a2, a3, a4, a5⟩, ⟨b0, b1, b2, b3, b4, b5⟩⟩ := HX.out W hb2
        obtain ⟨k1, k2, k3, k5, k6⟩ := HCO.out W hb6 hbw
        have e1 : compN A B = 0 := by unfold compN; rw [if_neg HC0.out]
        have e2 : compN B A = 0 := by unfold compN; rw [if_neg (fun h => HC0.out ⟨h.2, h.1⟩)]
        have e3 : sameB A B = false := by
          have := HC0.out
          unfold sameB
          simp only [not_and] at this
          by_cases h : checkN A = 0
          · simp [h, this h]
          · simp [h]
        rw [e1] at k1
        rw [e2] at k2
        rw [e3] at k3
        exact ⟨a0, a1, a2, a3, a4, a5, b0, b1, b2, b3, b4, b5, x0, x1, x2, x3, x4, x5, y0, y1, y2, y3, y4, y5, by omega, by omega, k1, k2, k3, fun t ht => HFB.out ▸ HK4.out W t hbw ht, k5, k6, HWK.out W hbw⟩
      intro c w10 hS hb10 h4
      have HF : Hid (Below w.heap.size w w10) := below_on HB8.out.2 hb10
      clear hb10
      have hl : c = ⟨#[Value.agg #[Value.int IntKind.i64 ak, Value.bool ab, Value.int IntKind.i64 an, Value.string ax, Value.slice aa am ac, Value.slice al ao ad], Value.agg #[Value.int IntKind.i64 bk, Value.bool bb, Value.int IntKind.i64 bn, Value.string bx, Value.slice ba bm bc, Value.slice bl bo bd], Value.pointer (some { block := w.heap.size, off := 0 }), Value.pointer (some { block := w.heap.size + 1, off := 0 }), c.eval (.tmp 4), Value.pointer (some { block := qa, off := 0 }), Value.pointer (some { block := qb, off := 0 }), Value.int IntKind.i64 0, Value.agg #[Value.int IntKind.i64 ak, Value.bool ab, Value.int IntKind.i64 an, Value.string ax, Value.slice aa am ac, Value.slice al ao ad], Value.agg #[Value.int IntKind.i64 bk, Value.bool bb, Value.int IntKind.i64 bn, Value.string bx, Value.slice ba bm bc, Value.slice bl bo bd], Value.slice (some { block := w.heap.size + 1 + 1, off := 0 }) 2 2, Value.bool true, Value.bool false, undef, z14, z15, z16, z17, Value.agg #[Value.int IntKind.i64 ak, Value.bool ab, Value.int IntKind.i64 an, Value.string ax, Value.slice aa am ac, Value.slice al ao ad], Value.agg #[Value.int IntKind.i64 bk, Value.bool bb, Value.int IntKind.i64 bn, Value.string bx, Value.slice ba bm bc, Value.slice bl bo bd], Value.slice (some { block := w6.heap.size, off := 0 }) 2 2, Value.bool false, undef, undef, undef, c.eval (.tmp 25), c.eval (.tmp 26), c.eval (.tmp 27), c.eval (.tmp 28), c.eval (.tmp 29), c.eval (.tmp 30), c.eval (.tmp 31), c.eval (.tmp 32), c.eval (.tmp 33), c.eval (.tmp 34), c.eval (.tmp 35), c.eval (.tmp 36), c.eval (.tmp 37), c.eval (.tmp 38), c.eval (.tmp 39), c.eval (.tmp 40), c.eval (.tmp 41), c.eval (.tmp 42), c.eval (.tmp 43), c.eval (.tmp 44), c.eval (.tmp 45), c.eval (.tmp 46), c.eval (.tmp 47), c.eval (.tmp 48), c.eval (.tmp 49), c.eval (.tmp 50), c.eval (.tmp 51), c.eval (.tmp 52), c.eval (.tmp 53), c.eval (.tmp 54), c.eval (.tmp 55), c.eval (.tmp 56), c.eval (.tmp 57), c.eval (.tmp 58), c.eval (.tmp 59), c.eval (.tmp 60), c.eval (.tmp 61), c.eval (.tmp 62), c.eval (.tmp 63), c.eval (.tmp 64)], []⟩ := (same_lay hS).trans (by kernel_rfl)
      rw [h4] at hl
      generalize c.eval (.tmp 25) = z25 at hl
      generalize c.eval (.tmp 26) = z26 at hl
      generalize c.eval (.tmp 27) = z27 at hl
      generalize c.eval (.tmp 28) = z28 at hl
      generalize c.eval (.tmp 29) = z29 at hl
      generalize c.eval (.tmp 30) = z30 at hl
      generalize c.eval (.tmp 31) = z31 at hl
      generalize c.eval (.tmp 32) = z32 at hl
      generalize c.eval (.tmp 33) = z33 at hl
      generalize c.eval (.tmp 34) = z34 at hl
      generalize c.eval (.tmp 35) = z35 at hl
      generalize c.eval (.tmp 36) = z36 at hl
      generalize c.eval (.tmp 37) = z37 at hl
      generalize c.eval (.tmp 38) = z38 at hl
      generalize c.eval (.tmp 39) = z39 at hl
      generalize c.eval (.tmp 40) = z40 at hl
      generalize c.eval (.tmp 41) = z41 at hl
      generalize c.eval (.tmp 42) = z42 at hl
      generalize c.eval (.tmp 43) = z43 at hl
      generalize c.eval (.tmp 44) = z44 at hl
      generalize c.eval (.tmp 45) = z45 at hl
      generalize c.eval (.tmp 46) = z46 at hl
      generalize c.eval (.tmp 47) = z47 at hl
      generalize c.eval (.tmp 48) = z48 at hl
      generalize c.eval (.tmp 49) = z49 at hl
      generalize c.eval (.tmp 50) = z50 at hl
      generalize c.eval (.tmp 51) = z51 at hl
      generalize c.eval (.tmp 52) = z52 at hl
      generalize c.eval (.tmp 53) = z53 at hl
      generalize c.eval (.tmp 54) = z54 at hl
      generalize c.eval (.tmp 55) = z55 at hl
      generalize c.eval (.tmp 56) = z56 at hl
      generalize c.eval (.tmp 57) = z57 at hl
      generalize c.eval (.tmp 58) = z58 at hl
      generalize c.eval (.tmp 59) = z59 at hl
      generalize c.eval (.tmp 60) = z60 at hl
      generalize c.eval (.tmp 61) = z61 at hl
      generalize c.eval (.tmp 62) = z62 at hl
      generalize c.eval (.tmp 63) = z63 at hl
      generalize c.eval (.tmp 64) = z64 at hl
      clear hS h4
      subst hl
      go_wp2_with fail
      go_ret
      exact ⟨rfl, HF.out⟩
  · have hd : decide (smalls [A, B] ≤ 2000) = false := by simp [hsm]
    rw [hd]
    clear hsm hd
    go_wp2_with fail
    refine (HWK.out w5 HB5.out.2).mono ?_
    rintro e w6 ⟨rfl, hb6⟩
    have HF : Hid (Below w.heap.size w w6) := below_on HB5.out.2 hb6
    clear hb6
    go_wp2_with fail
    go_ret
    exact ⟨rfl, HF.out⟩
end Go.Proofs.YtbpmhgcjefpigaaGreatDoor
