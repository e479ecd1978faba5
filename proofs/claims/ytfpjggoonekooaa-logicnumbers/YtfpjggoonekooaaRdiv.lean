/- Contracts of the document's own Mul, Div and Mod. -/
import Derived.Test.YtfpjggoonekooaaWprod
namespace Go.Proofs.Ytfpjggoonekooaa
open Go.RowKit Go.WideShapes
set_option linter.unusedVariables false

theorem sg_mul (a b : Int) : sg (!decide (a < 0) == decide (b < 0)) (sz a * sz b) = a * b := by
  by_cases h1 : a < 0
  · have e1 : sz a = -a := by simp [sz, h1]
    by_cases h2 : b < 0
    · have e2 : sz b = -b := by simp [sz, h2]
      rw [e1, e2, Int.neg_mul_neg]; simp [sg, h1, h2]
    · have e2 : sz b = b := by simp [sz, h2]
      rw [e1, e2, Int.neg_mul]; simp [sg, h1, h2]
  · have e1 : sz a = a := by simp [sz, h1]
    by_cases h2 : b < 0
    · have e2 : sz b = -b := by simp [sz, h2]
      rw [e1, e2, Int.mul_neg]; simp [sg, h1, h2]
    · have e2 : sz b = b := by simp [sz, h2]
      rw [e1, e2]; simp [sg, h1, h2]

theorem rmul_any (a b : Int) (w : World) (ha1 : -9223372036854775808 ≤ a) (ha2 : a ≤ 9223372036854775807) (hb1 : -9223372036854775808 ≤ b) (hb2 : b ≤ 9223372036854775807) :
    Calls Try.prog 25 #[.int .i64 a, .int .i64 b] w fun e w' => e = .returned (.tuple #[.int .i64 (fitN (a * b)), .int .i64 (fitE (a * b))]) ∧ Below w.heap.size w w' := by
  go_enter Try.func25, Try.ntmps25
  go_wp2_with fail
  refine (of64_any _ _ ha1 ha2).mono ?_; rintro e w1 ⟨v1, ds, rfl, k1, d1, l1, e1⟩
  have L1 := hidden l1
  have E1 := hidden e1
  clear l1 e1
  go_wp2_with fail
  refine (of64_any _ _ hb1 hb2).mono ?_; rintro e w2 ⟨v2, es, rfl, k2, d2, l2, e2⟩
  have D1 := hidden (d1.later k2)
  have D2 := hidden d2
  have L2 := hidden l2
  have E2 := hidden e2
  clear l2 e2 d1 d2
  go_wp2_with fail
  refine (wmul_any _ _ _ _ ds es _ D1.out D2.out L1.out L2.out).mono ?_
  rintro e w3 ⟨neg, v3, os, rfl, k3, d3, l3, e3⟩
  have E3 : Hid (sg neg (dv os) = a * b) := by
    unfold Hid; rw [e3, E1.out, E2.out, sg_mul]
  clear l3 e3
  go_wp2_with fail
  refine (to64_any neg v3 os _ d3).mono ?_; rintro e w4 ⟨rfl, k4⟩
  have hbel := below_on (below_on k1 k2) (below_on k3 k4)
  clear k1 k2 k3 k4 d3
  go_wp2
  go_ret2
  exact ⟨ret_ii (by rw [E3.out]) (by rw [E3.out]), hbel⟩

/-- The quotient and the rest, as the document answers. -/
def quoN (a b : Int) : Int := if b = 0 then 0 else fitN (a.tdiv b)
def quoE (a b : Int) : Int := if b = 0 then 121 else fitE (a.tdiv b)
def remN (a b : Int) : Int := if b = 0 then 0 else a.tmod b
def remE (b : Int) : Int := if b = 0 then 121 else 0

theorem tdiv_m1 (a : Int) : a.tdiv (-1) = -a := by rw [Int.tdiv_neg, Int.tdiv_one]
theorem tmod_m1 (a : Int) : a.tmod (-1) = 0 := by rw [Int.tmod_neg, Int.tmod_one]

theorem quo_fits (a b : Int) (ha1 : -9223372036854775808 ≤ a) (ha2 : a ≤ 9223372036854775807) (h : -9223372036854775808 < a ∨ b < -1 ∨ -1 < b) : -9223372036854775808 ≤ a.tdiv b ∧ a.tdiv b ≤ 9223372036854775807 := by
  have hq : (a.tdiv b).natAbs ≤ a.natAbs := Int.natAbs_tdiv_le_natAbs a b
  have hq2 : (a.tdiv b).natAbs = a.natAbs / b.natAbs := Int.natAbs_tdiv a b
  by_cases e : -9223372036854775808 < a
  · omega
  · by_cases e0 : b = 0
    · subst e0; rw [Int.tdiv_zero]; omega
    · by_cases e1 : b = 1
      · subst e1; rw [Int.tdiv_one]; omega
      · have h2 : 2 ≤ b.natAbs := by omega
        have : a.natAbs / b.natAbs ≤ a.natAbs / 2 := Nat.div_le_div_left h2 (by omega)
        omega

theorem div_all (a b : Int) (w : World) (ha1 : -9223372036854775808 ≤ a) (ha2 : a ≤ 9223372036854775807) :
    Calls Try.prog 20 #[.int .i64 a, .int .i64 b] w fun e w' => e = .returned (.tuple #[.int .i64 (quoN a b), .int .i64 (quoE a b)]) ∧ w' = w := by
  by_cases h0 : b = 0
  · subst h0
    rw [show quoN a 0 = 0 from rfl, show quoE a 0 = 121 from rfl]
    exact div_zero a w
  · rw [show quoN a b = fitN (a.tdiv b) by simp [quoN, h0], show quoE a b = fitE (a.tdiv b) by simp [quoE, h0]]
    by_cases hm : -9223372036854775808 < a ∨ b < -1 ∨ -1 < b
    · obtain ⟨q1, q2⟩ := quo_fits a b ha1 ha2 hm
      rw [(fit_in q1 q2).1, (fit_in q1 q2).2]
      have h := div_ok a b w (by omega) hm
      rw [IntWalk.wrap64_in _ ⟨q1, q2⟩] at h
      exact h
    · have e1 : a = -9223372036854775808 := by omega
      have e2 : b = -1 := by omega
      subst e1; subst e2
      exact div_min w
theorem mod_all (a b : Int) (w : World) :
    Calls Try.prog 21 #[.int .i64 a, .int .i64 b] w fun e w' => e = .returned (.tuple #[.int .i64 (remN a b), .int .i64 (remE b)]) ∧ w' = w := by
  by_cases h0 : b = 0
  · subst h0
    exact mod_zero a w
  · rw [show remN a b = a.tmod b by simp [remN, h0], show remE b = 0 by simp [remE, h0]]
    exact mod_ok a b w (by omega)

theorem rdiv_all (a b : Int) (w : World) (ha1 : -9223372036854775808 ≤ a) (ha2 : a ≤ 9223372036854775807) :
    Calls Try.prog 26 #[.int .i64 a, .int .i64 b] w fun e w' => e = .returned (.tuple #[.int .i64 (quoN a b), .int .i64 (quoE a b)]) ∧ Below w.heap.size w w' := by
  by_cases h0 : b = 0
  · subst h0
    rw [show quoN a 0 = 0 from rfl, show quoE a 0 = 121 from rfl]
    go_enter Try.func26, Try.ntmps26
    go_wp2
    go_ret2
    exact ⟨rfl, Below.refl _ _⟩
  · rw [show quoN a b = fitN (a.tdiv b) by simp [quoN, h0], show quoE a b = fitE (a.tdiv b) by simp [quoE, h0]]
    by_cases h1 : b = -1
    · subst h1
      rw [tdiv_m1]
      clear h0
      go_enter Try.func26, Try.ntmps26
      go_wp2_with fail
      refine (rneg_any _ _ ha1 ha2).mono ?_; rintro e w1 ⟨rfl, k1⟩
      go_wp2
      go_ret2
      exact ⟨rfl, k1⟩
    · obtain ⟨q1, q2⟩ := quo_fits a b ha1 ha2 (by omega)
      rw [(fit_in q1 q2).1, (fit_in q1 q2).2]
      have x0 : (b == 0) = false := beq_eq_false_iff_ne.2 h0
      have x1 : (b == -1) = false := beq_eq_false_iff_ne.2 h1
      have HQ := hidden (IntWalk.wrap64_in _ ⟨q1, q2⟩)
      clear h1 q1 q2
      go_enter Try.func26, Try.ntmps26
      go_wp2
      go_ret2
      exact ⟨ret_ii (by first | exact HQ.out | rfl) rfl, Below.refl _ _⟩
theorem rmod_all (a b : Int) (w : World) :
    Calls Try.prog 27 #[.int .i64 a, .int .i64 b] w fun e w' => e = .returned (.tuple #[.int .i64 (remN a b), .int .i64 (remE b)]) ∧ w' = w := by
  by_cases h0 : b = 0
  · subst h0
    rw [show remN a 0 = 0 from rfl, show remE 0 = 121 from rfl]
    go_enter Try.func27, Try.ntmps27
    go_wp2
    go_ret2
    exact ⟨rfl, rfl⟩
  · rw [show remN a b = a.tmod b by simp [remN, h0], show remE b = 0 by simp [remE, h0]]
    by_cases h1 : b = -1
    · subst h1
      rw [tmod_m1]
      clear h0
      go_enter Try.func27, Try.ntmps27
      go_wp2
      go_ret2
      exact ⟨rfl, rfl⟩
    · have x0 : (b == 0) = false := beq_eq_false_iff_ne.2 h0
      have x1 : (b == -1) = false := beq_eq_false_iff_ne.2 h1
      clear h1
      go_enter Try.func27, Try.ntmps27
      go_wp2
      go_ret2
      exact ⟨rfl, rfl⟩
end Go.Proofs.Ytfpjggoonekooaa
