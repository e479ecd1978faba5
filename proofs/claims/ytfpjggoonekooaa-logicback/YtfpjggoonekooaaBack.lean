/- The cases of the law LogicBack, each walked by itself: the number's sign, the divisor's, whether the sum fits, whether there is a rest. -/
import Derived.Test.YtfpjggoonekooaaWorks
namespace Go.Proofs.Ytfpjggoonekooaa
open Go.RowKit
set_option linter.unusedVariables false

theorem wf_lo {a : Int} (h : (Lit.int .i64 a).wf = true) : -9223372036854775808 ≤ a := by
  have h1 : IntKind.i64.min = -9223372036854775808 := rfl
  simp only [Lit.wf, Bool.and_eq_true, decide_eq_true_eq] at h
  omega
theorem wf_hi {a : Int} (h : (Lit.int .i64 a).wf = true) : a ≤ 9223372036854775807 := by
  have h2 : IntKind.i64.max = 9223372036854775807 := rfl
  simp only [Lit.wf, Bool.and_eq_true, decide_eq_true_eq] at h
  omega

theorem neg_least (a : Int) (w : World) (h1 : -9223372036854775808 ≤ a) (h2 : a ≤ -9223372036854775808) :
    Calls Try.prog 18 #[.int .i64 a] w fun e w' => e = .returned (.tuple #[.int .i64 0, .int .i64 120]) ∧ w' = w := by
  have e : a = -9223372036854775808 := by omega
  subst e
  exact neg_min w
theorem abs_least (a : Int) (w : World) (h1 : -9223372036854775808 ≤ a) (h2 : a ≤ -9223372036854775808) :
    Calls Try.prog 19 #[.int .i64 a] w fun e w' => e = .returned (.tuple #[.int .i64 0, .int .i64 120]) ∧ w' = w := by
  have e : a = -9223372036854775808 := by omega
  subst e
  exact abs_min w
theorem div_least (a b : Int) (w : World) (h1 : -9223372036854775808 ≤ a) (h2 : a ≤ -9223372036854775808) (h3 : -1 ≤ b) (h4 : b ≤ -1) :
    Calls Try.prog 20 #[.int .i64 a, .int .i64 b] w fun e w' => e = .returned (.tuple #[.int .i64 0, .int .i64 120]) ∧ w' = w := by
  have e : a = -9223372036854775808 := by omega
  have e2 : b = -1 := by omega
  subst e; subst e2
  exact div_min w
theorem div_q (a b q : Int) (w : World) (hb : b < 0 ∨ 0 < b) (hm : -9223372036854775808 < a ∨ b < -1 ∨ -1 < b) (hq : Hid (wrap64 (a.tdiv b) = q)) :
    Calls Try.prog 20 #[.int .i64 a, .int .i64 b] w fun e w' => e = .returned (.tuple #[.int .i64 q, .int .i64 0]) ∧ w' = w := by
  rw [← hq.out]; exact div_ok a b w hb hm
theorem mod_r (a b r : Int) (w : World) (hb : b < 0 ∨ 0 < b) (hr : Hid (a.tmod b = r)) :
    Calls Try.prog 21 #[.int .i64 a, .int .i64 b] w fun e w' => e = .returned (.tuple #[.int .i64 r, .int .i64 0]) ∧ w' = w := by
  rw [← hr.out]; exact mod_ok a b w hb
theorem mul_fits (a b : Int) (w : World) (ha1 : -9223372036854775808 ≤ a) (ha2 : a ≤ 9223372036854775807) (hb1 : -9223372036854775808 ≤ b) (hb2 : b ≤ 9223372036854775807) (h1 : -9223372036854775808 ≤ a * b) (h2 : a * b ≤ 9223372036854775807) :
    Calls Try.prog 22 #[.int .i64 a, .int .i64 b] w fun e w' => e = .returned (.tuple #[.int .i64 (a * b), .int .i64 0]) ∧ w' = w := by
  have h := mul_any a b w ha1 ha2 hb1 hb2
  rw [(fit_in h1 h2).1, (fit_in h1 h2).2] at h
  exact h

/-- What a quotient and its rest are. -/
theorem quo_facts (a b : Int) (ha1 : -9223372036854775808 ≤ a) (ha2 : a ≤ 9223372036854775807) (hb : b < 0 ∨ 0 < b) :
    a.tdiv b * b + a.tmod b = a ∧ (0 ≤ a → 0 ≤ a.tmod b ∧ a.tmod b ≤ a) ∧ (a < 0 → a.tmod b ≤ 0 ∧ a ≤ a.tmod b) ∧ (0 < b → -b < a.tmod b ∧ a.tmod b < b) ∧ (b < 0 → b < a.tmod b ∧ a.tmod b < -b) ∧
    (-9223372036854775808 < a ∨ b < -1 ∨ -1 < b → -9223372036854775808 ≤ a.tdiv b ∧ a.tdiv b ≤ 9223372036854775807) := by
  have h0 := Int.mul_tdiv_add_tmod a b
  have hn : (a.tmod b).natAbs = a.natAbs % b.natAbs := Int.natAbs_tmod a b
  have hlt : a.natAbs % b.natAbs < b.natAbs := Nat.mod_lt _ (by omega)
  have hle : a.natAbs % b.natAbs ≤ a.natAbs := Nat.mod_le _ _
  have hp : 0 ≤ a → 0 ≤ a.tmod b := fun h => Int.tmod_nonneg b h
  have hm : a < 0 → a.tmod b ≤ 0 := fun h => by
    have := Int.tmod_nonneg (a := -a) b (by omega)
    rw [Int.neg_tmod] at this
    omega
  have hq : (a.tdiv b).natAbs ≤ a.natAbs := Int.natAbs_tdiv_le_natAbs a b
  have hq2 : (a.tdiv b).natAbs = a.natAbs / b.natAbs := Int.natAbs_tdiv a b
  refine ⟨by rw [Int.mul_comm]; exact h0, fun h => ?_, fun h => ?_, fun h => ?_, fun h => ?_, fun h => ?_⟩
  · have := hp h; omega
  · have := hm h; omega
  · omega
  · omega
  · by_cases e : -9223372036854775808 < a
    · omega
    · by_cases e1 : b = 1
      · subst e1; rw [Int.tdiv_one]; omega
      · have h2 : 2 ≤ b.natAbs := by omega
        have : a.natAbs / b.natAbs ≤ a.natAbs / 2 := Nat.div_le_div_left h2 (by omega)
        omega

theorem div_nought (a b : Int) (w : World) (h3 : b ≤ 0) (h4 : 0 ≤ b) :
    Calls Try.prog 20 #[.int .i64 a, .int .i64 b] w fun e w' => e = .returned (.tuple #[.int .i64 0, .int .i64 121]) ∧ w' = w := by
  have e2 : b = 0 := by omega
  subst e2
  exact div_zero a w
theorem mod_nought (a b : Int) (w : World) (h3 : b ≤ 0) (h4 : 0 ≤ b) :
    Calls Try.prog 21 #[.int .i64 a, .int .i64 b] w fun e w' => e = .returned (.tuple #[.int .i64 0, .int .i64 121]) ∧ w' = w := by
  have e2 : b = 0 := by omega
  subst e2
  exact mod_zero a w

end Go.Proofs.Ytfpjggoonekooaa
