/- Contracts of the document's own Add, Sub, Neg, Abs, Div, Mod. -/
import Derived.Test.YtfpjggoonekooaaWdiff
namespace Go.Proofs.Ytfpjggoonekooaa
open Go.RowKit Go.WideShapes
set_option linter.unusedVariables false

theorem sg_sz (a : Int) : sg (decide (a < 0)) (sz a) = a := by
  by_cases h : a < 0 <;> simp [sg, sz, h]

/-- A slice that a call has made: its value. -/
theorem Dig.slice {w : World} {v : Value} {ds : List Int} (h : Dig w v ds) : ∃ ad cap, v = .slice ad ds.length cap := ownsRow_slice h.1

theorem negated_any (n : Bool) (v : Value) (ds : List Int) (w : World) (hd : Dig w v ds) :
    Calls Try.prog 41 #[.agg #[.bool n, v]] w fun e w' => e = .returned (.agg #[.bool (!n), v]) ∧ Below w.heap.size w w' := by
  obtain ⟨ad, cap, rfl⟩ := hd.slice
  clear hd
  go_enter Try.func41, Try.ntmps41
  go_wp2
  exact bodyPost_ret (v := .agg #[.bool (!n), .slice ad ds.length cap]) (by simp [results, Try.results41, go_sem]) rfl ⟨rfl, ((Below.refl _ _).alloc (Nat.le_refl _) _).alloc (by simp) _⟩

theorem radd_any (a b : Int) (w : World) (ha1 : -9223372036854775808 ≤ a) (ha2 : a ≤ 9223372036854775807) (hb1 : -9223372036854775808 ≤ b) (hb2 : b ≤ 9223372036854775807) :
    Calls Try.prog 23 #[.int .i64 a, .int .i64 b] w fun e w' => e = .returned (.tuple #[.int .i64 (fitN (a + b)), .int .i64 (fitE (a + b))]) ∧ Below w.heap.size w w' := by
  go_enter Try.func23, Try.ntmps23
  go_wp2_with fail
  refine (of64_any _ _ ha1 ha2).mono ?_; rintro e w1 ⟨v1, ds, rfl, k1, d1, l1, e1⟩
  have L1 := hidden l1
  have E1 := hidden e1
  clear l1 e1
  go_wp2_with fail
  refine (of64_any _ _ hb1 hb2).mono ?_; rintro e w2 ⟨v2, es, rfl, k2, d2, l2, e2⟩
  have D1 := hidden (d1.later k2)
  have D2 := hidden d2
  have L2 := hidden l2
  have E2 := hidden e2
  clear l2 e2 d1 d2
  go_wp2_with fail
  refine (wadd_any _ _ _ _ ds es _ D1.out D2.out (by have := L1.out; omega) (by have := L2.out; omega)).mono ?_
  rintro e w3 ⟨neg, v3, os, rfl, k3, d3, l3, e3⟩
  have E3 : Hid (sg neg (dv os) = a + b) := by unfold Hid; rw [e3, E1.out, E2.out, sg_sz, sg_sz]
  clear l3 e3
  go_wp2_with fail
  refine (to64_any neg v3 os _ d3).mono ?_; rintro e w4 ⟨rfl, k4⟩
  have hbel := below_on (below_on k1 k2) (below_on k3 k4)
  clear k1 k2 k3 k4 d3
  go_wp2
  go_ret2
  exact ⟨ret_ii (by rw [E3.out]) (by rw [E3.out]), hbel⟩

theorem rsub_any (a b : Int) (w : World) (ha1 : -9223372036854775808 ≤ a) (ha2 : a ≤ 9223372036854775807) (hb1 : -9223372036854775808 ≤ b) (hb2 : b ≤ 9223372036854775807) :
    Calls Try.prog 24 #[.int .i64 a, .int .i64 b] w fun e w' => e = .returned (.tuple #[.int .i64 (fitN (a - b)), .int .i64 (fitE (a - b))]) ∧ Below w.heap.size w w' := by
  go_enter Try.func24, Try.ntmps24
  go_wp2_with fail
  refine (of64_any _ _ ha1 ha2).mono ?_; rintro e w1 ⟨v1, ds, rfl, k1, d1, l1, e1⟩
  have L1 := hidden l1
  have E1 := hidden e1
  clear l1 e1
  go_wp2_with fail
  refine (of64_any _ _ hb1 hb2).mono ?_; rintro e w2 ⟨v2, es, rfl, k2, d2, l2, e2⟩
  have D1 := hidden (d1.later k2)
  have D2 := hidden d2
  have L2 := hidden l2
  have E2 := hidden e2
  clear l2 e2 d1 d2
  go_wp2_with fail
  refine (negated_any _ _ es _ D2.out).mono ?_; rintro e w2' ⟨rfl, k2'⟩
  go_wp2_with fail
  refine (wadd_any _ _ _ _ ds es _ (D1.out.later k2') (D2.out.later k2') (by have := L1.out; omega) (by have := L2.out; omega)).mono ?_
  rintro e w3 ⟨neg, v3, os, rfl, k3, d3, l3, e3⟩
  have E3 : Hid (sg neg (dv os) = a - b) := by
    have hs : sg (!decide (b < 0)) (sz b) = -b := by by_cases h : b < 0 <;> simp [sg, sz, h]
    unfold Hid; rw [e3, E1.out, E2.out, sg_sz, hs]; omega
  clear l3 e3
  go_wp2_with fail
  refine (to64_any neg v3 os _ d3).mono ?_; rintro e w4 ⟨rfl, k4⟩
  have hbel := below_on (below_on (below_on k1 k2) k2') (below_on k3 k4)
  clear k1 k2 k3 k4 d3 k2'
  go_wp2
  go_ret2
  exact ⟨ret_ii (by rw [E3.out]) (by rw [E3.out]), hbel⟩

theorem rneg_any (a : Int) (w : World) (ha1 : -9223372036854775808 ≤ a) (ha2 : a ≤ 9223372036854775807) :
    Calls Try.prog 28 #[.int .i64 a] w fun e w' => e = .returned (.tuple #[.int .i64 (fitN (-a)), .int .i64 (fitE (-a))]) ∧ Below w.heap.size w w' := by
  go_enter Try.func28, Try.ntmps28
  go_wp2_with fail
  refine (of64_any _ _ ha1 ha2).mono ?_; rintro e w1 ⟨v1, ds, rfl, k1, d1, l1, e1⟩
  have D1 := hidden d1
  have E1 := hidden e1
  clear l1 e1 d1
  go_wp2_with fail
  refine (negated_any _ _ ds _ D1.out).mono ?_; rintro e w2 ⟨rfl, k2⟩
  go_wp2_with fail
  refine (to64_any _ v1 ds _ (D1.out.later k2)).mono ?_; rintro e w4 ⟨rfl, k4⟩
  have E3 : Hid (sg (!decide (a < 0)) (dv ds) = -a) := by
    have hs : sg (!decide (a < 0)) (sz a) = -a := by by_cases h : a < 0 <;> simp [sg, sz, h]
    unfold Hid; rw [E1.out, hs]
  have hbel := below_on (below_on k1 k2) k4
  clear k1 k2 k4
  go_wp2
  go_ret2
  exact ⟨ret_ii (by rw [E3.out]) (by rw [E3.out]), hbel⟩

theorem rabs_any (a : Int) (w : World) (ha1 : -9223372036854775808 ≤ a) (ha2 : a ≤ 9223372036854775807) :
    Calls Try.prog 29 #[.int .i64 a] w fun e w' => e = .returned (.tuple #[.int .i64 (fitN (sz a)), .int .i64 (fitE (sz a))]) ∧ Below w.heap.size w w' := by
  go_enter Try.func29, Try.ntmps29
  go_wp2_with fail
  refine (of64_any _ _ ha1 ha2).mono ?_; rintro e w1 ⟨v1, ds, rfl, k1, d1, l1, e1⟩
  have D1 := hidden d1
  have E1 := hidden e1
  obtain ⟨ad, cap, hv⟩ := d1.slice
  subst hv
  clear l1 e1 d1
  go_wp2_with fail
  refine (to64_any _ _ ds _ (D1.out.later ((Below.refl _ _).alloc (Nat.le_refl _) _))).mono ?_; rintro e w4 ⟨rfl, k4⟩
  have E3 : Hid (sg false (dv ds) = sz a) := by unfold Hid; rw [E1.out]; rfl
  have hbel := below_on k1 (below_alloc k4)
  clear k1 k4
  go_wp2
  go_ret2
  exact ⟨ret_ii (by rw [E3.out]) (by rw [E3.out]), hbel⟩
end Go.Proofs.Ytfpjggoonekooaa
