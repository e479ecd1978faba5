/- The cases of the law LogicBack, each walked by itself: the number's sign, the divisor's, whether the sum fits, whether there is a rest. -/
import Derived.Test.YtfpjggoonekooaaBack
namespace Go.Proofs.Ytfpjggoonekooaa
open Go.RowKit
set_option linter.unusedVariables false

set_option maxHeartbeats 2000000 in
set_option maxRecDepth 100000 in
theorem bk_zero_min (a b q r : Int) (w : World) (ha1 : -9223372036854775808 ≤ a) (ha2 : a ≤ 9223372036854775807) (hb1 : -9223372036854775808 ≤ b) (hb2 : b ≤ 9223372036854775807) (s1 : -9223372036854775808 ≤ a + b) (s2 : a + b ≤ 9223372036854775807) (n1 : a ≤ -9223372036854775808) (b1 : b ≤ 0) (b2 : 0 ≤ b)  :
    Calls Try.prog 4 #[.int .i64 a, .int .i64 b] w fun e w' => e = .returned (.bool true) ∧ Below w.heap.size w w' := by
  have x1 : (a == -9223372036854775808) = true := beq_iff_eq.2 (by omega)
  have x3 : (b == 0) = true := beq_iff_eq.2 (by omega)
  go_enter Try.func4, Try.ntmps4
  go_wp2_with (go_at_call 16; refine (num_any _ _).mono ?_; rintro e w' ⟨rfl, rfl⟩)
  refine (add_fits _ _ _ s1 s2).mono ?_; rintro e w' ⟨rfl, rfl⟩
  go_wp2_with (go_at_call 16; refine (num_any _ _).mono ?_; rintro e w' ⟨rfl, rfl⟩)
  refine (sub_fits _ _ _ (by omega) (by omega)).mono ?_; rintro e w' ⟨rfl, rfl⟩
  go_wp2_with (go_at_call 16; refine (num_any _ _).mono ?_; rintro e w' ⟨rfl, rfl⟩)
  refine (neg_least _ _ ha1 n1).mono ?_; rintro e w' ⟨rfl, rfl⟩
  go_wp2_with (go_at_call 16; refine (num_any _ _).mono ?_; rintro e w' ⟨rfl, rfl⟩)
  refine (abs_least _ _ ha1 n1).mono ?_; rintro e w' ⟨rfl, rfl⟩
  go_wp2_with (go_at_call 16; refine (num_any _ _).mono ?_; rintro e w' ⟨rfl, rfl⟩)
  refine (div_nought _ _ _ b1 b2).mono ?_; rintro e w' ⟨rfl, rfl⟩
  go_wp2_with (go_at_call 16; refine (num_any _ _).mono ?_; rintro e w' ⟨rfl, rfl⟩)
  refine (mod_nought _ _ _ b1 b2).mono ?_; rintro e w' ⟨rfl, rfl⟩
  go_wp2_with (go_at_call 16; refine (num_any _ _).mono ?_; rintro e w' ⟨rfl, rfl⟩)
  refine (works_any _).mono ?_; rintro e w' ⟨rfl, hb⟩
  go_wp2
  go_ret
  exact ⟨rfl, hb⟩

set_option maxHeartbeats 2000000 in
set_option maxRecDepth 100000 in
theorem bk_zero_neg (a b q r : Int) (w : World) (ha1 : -9223372036854775808 ≤ a) (ha2 : a ≤ 9223372036854775807) (hb1 : -9223372036854775808 ≤ b) (hb2 : b ≤ 9223372036854775807) (s1 : -9223372036854775808 ≤ a + b) (s2 : a + b ≤ 9223372036854775807) (n1 : -9223372036854775808 < a) (n2 : a < 0) (b1 : b ≤ 0) (b2 : 0 ≤ b)  :
    Calls Try.prog 4 #[.int .i64 a, .int .i64 b] w fun e w' => e = .returned (.bool true) ∧ Below w.heap.size w w' := by
  have x1 : (a == -9223372036854775808) = false := beq_eq_false_iff_ne.2 (by omega)
  have x2 : (-a != a) = true := bne_iff_ne.2 (by omega)
  have x3 : (b == 0) = true := beq_iff_eq.2 (by omega)
  go_enter Try.func4, Try.ntmps4
  go_wp2_with (go_at_call 16; refine (num_any _ _).mono ?_; rintro e w' ⟨rfl, rfl⟩)
  refine (add_fits _ _ _ s1 s2).mono ?_; rintro e w' ⟨rfl, rfl⟩
  go_wp2_with (go_at_call 16; refine (num_any _ _).mono ?_; rintro e w' ⟨rfl, rfl⟩)
  refine (sub_fits _ _ _ (by omega) (by omega)).mono ?_; rintro e w' ⟨rfl, rfl⟩
  go_wp2_with (go_at_call 16; refine (num_any _ _).mono ?_; rintro e w' ⟨rfl, rfl⟩)
  refine (neg_ok _ _ n1 ha2).mono ?_; rintro e w' ⟨rfl, rfl⟩
  go_wp2_with (go_at_call 16; refine (num_any _ _).mono ?_; rintro e w' ⟨rfl, rfl⟩)
  refine (abs_neg _ _ n1 n2).mono ?_; rintro e w' ⟨rfl, rfl⟩
  go_wp2_with (go_at_call 16; refine (num_any _ _).mono ?_; rintro e w' ⟨rfl, rfl⟩)
  refine (div_nought _ _ _ b1 b2).mono ?_; rintro e w' ⟨rfl, rfl⟩
  go_wp2_with (go_at_call 16; refine (num_any _ _).mono ?_; rintro e w' ⟨rfl, rfl⟩)
  refine (mod_nought _ _ _ b1 b2).mono ?_; rintro e w' ⟨rfl, rfl⟩
  go_wp2_with (go_at_call 16; refine (num_any _ _).mono ?_; rintro e w' ⟨rfl, rfl⟩)
  refine (works_any _).mono ?_; rintro e w' ⟨rfl, hb⟩
  go_wp2
  go_ret
  exact ⟨rfl, hb⟩

set_option maxHeartbeats 2000000 in
set_option maxRecDepth 100000 in
theorem bk_zero_pos (a b q r : Int) (w : World) (ha1 : -9223372036854775808 ≤ a) (ha2 : a ≤ 9223372036854775807) (hb1 : -9223372036854775808 ≤ b) (hb2 : b ≤ 9223372036854775807) (s1 : -9223372036854775808 ≤ a + b) (s2 : a + b ≤ 9223372036854775807) (n1 : 0 ≤ a) (b1 : b ≤ 0) (b2 : 0 ≤ b)  :
    Calls Try.prog 4 #[.int .i64 a, .int .i64 b] w fun e w' => e = .returned (.bool true) ∧ Below w.heap.size w w' := by
  have x1 : (a == -9223372036854775808) = false := beq_eq_false_iff_ne.2 (by omega)
  have x3 : (b == 0) = true := beq_iff_eq.2 (by omega)
  go_enter Try.func4, Try.ntmps4
  go_wp2_with (go_at_call 16; refine (num_any _ _).mono ?_; rintro e w' ⟨rfl, rfl⟩)
  refine (add_fits _ _ _ s1 s2).mono ?_; rintro e w' ⟨rfl, rfl⟩
  go_wp2_with (go_at_call 16; refine (num_any _ _).mono ?_; rintro e w' ⟨rfl, rfl⟩)
  refine (sub_fits _ _ _ (by omega) (by omega)).mono ?_; rintro e w' ⟨rfl, rfl⟩
  go_wp2_with (go_at_call 16; refine (num_any _ _).mono ?_; rintro e w' ⟨rfl, rfl⟩)
  refine (neg_ok _ _ (by omega) ha2).mono ?_; rintro e w' ⟨rfl, rfl⟩
  go_wp2_with (go_at_call 16; refine (num_any _ _).mono ?_; rintro e w' ⟨rfl, rfl⟩)
  refine (abs_pos _ _ n1).mono ?_; rintro e w' ⟨rfl, rfl⟩
  go_wp2_with (go_at_call 16; refine (num_any _ _).mono ?_; rintro e w' ⟨rfl, rfl⟩)
  refine (div_nought _ _ _ b1 b2).mono ?_; rintro e w' ⟨rfl, rfl⟩
  go_wp2_with (go_at_call 16; refine (num_any _ _).mono ?_; rintro e w' ⟨rfl, rfl⟩)
  refine (mod_nought _ _ _ b1 b2).mono ?_; rintro e w' ⟨rfl, rfl⟩
  go_wp2_with (go_at_call 16; refine (num_any _ _).mono ?_; rintro e w' ⟨rfl, rfl⟩)
  refine (works_any _).mono ?_; rintro e w' ⟨rfl, hb⟩
  go_wp2
  go_ret
  exact ⟨rfl, hb⟩

set_option maxHeartbeats 2000000 in
set_option maxRecDepth 100000 in
theorem bk_pos_min_in_zero (a b q r : Int) (w : World) (ha1 : -9223372036854775808 ≤ a) (ha2 : a ≤ 9223372036854775807) (hb1 : -9223372036854775808 ≤ b) (hb2 : b ≤ 9223372036854775807) (s1 : -9223372036854775808 ≤ a + b) (s2 : a + b ≤ 9223372036854775807) (n1 : a ≤ -9223372036854775808) (b1 : 0 < b) (hq : Hid (wrap64 (a.tdiv b) = q)) (hr : Hid (a.tmod b = r)) (q1 : -9223372036854775808 ≤ q) (q2 : q ≤ 9223372036854775807) (m1 : -9223372036854775808 ≤ q * b) (m2 : q * b ≤ 9223372036854775807) (ht : (q * b + r == a) = true) (t1 : -9223372036854775808 ≤ q * b + r) (t2 : q * b + r ≤ 9223372036854775807) (r1 : r ≤ 0) (r2 : 0 ≤ r) (c1 : -b < r) (c2 : r < b) :
    Calls Try.prog 4 #[.int .i64 a, .int .i64 b] w fun e w' => e = .returned (.bool true) ∧ Below w.heap.size w w' := by
  have x1 : (a == -9223372036854775808) = true := beq_iff_eq.2 (by omega)
  have x3 : (b == 0) = false := beq_eq_false_iff_ne.2 (by omega)
  have x4 : (r == 0) = true := beq_iff_eq.2 (by omega)
  go_enter Try.func4, Try.ntmps4
  go_wp2_with (go_at_call 16; refine (num_any _ _).mono ?_; rintro e w' ⟨rfl, rfl⟩)
  refine (add_fits _ _ _ s1 s2).mono ?_; rintro e w' ⟨rfl, rfl⟩
  go_wp2_with (go_at_call 16; refine (num_any _ _).mono ?_; rintro e w' ⟨rfl, rfl⟩)
  refine (sub_fits _ _ _ (by omega) (by omega)).mono ?_; rintro e w' ⟨rfl, rfl⟩
  go_wp2_with (go_at_call 16; refine (num_any _ _).mono ?_; rintro e w' ⟨rfl, rfl⟩)
  refine (neg_least _ _ ha1 n1).mono ?_; rintro e w' ⟨rfl, rfl⟩
  go_wp2_with (go_at_call 16; refine (num_any _ _).mono ?_; rintro e w' ⟨rfl, rfl⟩)
  refine (abs_least _ _ ha1 n1).mono ?_; rintro e w' ⟨rfl, rfl⟩
  go_wp2_with (go_at_call 16; refine (num_any _ _).mono ?_; rintro e w' ⟨rfl, rfl⟩)
  refine (div_q _ _ q _ (by omega) (by omega) hq).mono ?_; rintro e w' ⟨rfl, rfl⟩
  go_wp2_with (go_at_call 16; refine (num_any _ _).mono ?_; rintro e w' ⟨rfl, rfl⟩)
  refine (mod_r _ _ r _ (by omega) hr).mono ?_; rintro e w' ⟨rfl, rfl⟩
  go_wp2_with (go_at_call 16; refine (num_any _ _).mono ?_; rintro e w' ⟨rfl, rfl⟩)
  refine (mul_fits _ _ _ q1 q2 hb1 hb2 m1 m2).mono ?_; rintro e w' ⟨rfl, rfl⟩
  go_wp2_with (go_at_call 16; refine (num_any _ _).mono ?_; rintro e w' ⟨rfl, rfl⟩)
  refine (add_fits _ _ _ t1 t2).mono ?_; rintro e w' ⟨rfl, rfl⟩
  go_wp2_with (go_at_call 16; refine (num_any _ _).mono ?_; rintro e w' ⟨rfl, rfl⟩)
  refine (works_any _).mono ?_; rintro e w' ⟨rfl, hb⟩
  go_wp2
  go_ret
  exact ⟨rfl, hb⟩

set_option maxHeartbeats 2000000 in
set_option maxRecDepth 100000 in
theorem bk_pos_min_in_sign (a b q r : Int) (w : World) (ha1 : -9223372036854775808 ≤ a) (ha2 : a ≤ 9223372036854775807) (hb1 : -9223372036854775808 ≤ b) (hb2 : b ≤ 9223372036854775807) (s1 : -9223372036854775808 ≤ a + b) (s2 : a + b ≤ 9223372036854775807) (n1 : a ≤ -9223372036854775808) (b1 : 0 < b) (hq : Hid (wrap64 (a.tdiv b) = q)) (hr : Hid (a.tmod b = r)) (q1 : -9223372036854775808 ≤ q) (q2 : q ≤ 9223372036854775807) (m1 : -9223372036854775808 ≤ q * b) (m2 : q * b ≤ 9223372036854775807) (ht : (q * b + r == a) = true) (t1 : -9223372036854775808 ≤ q * b + r) (t2 : q * b + r ≤ 9223372036854775807) (r1 : r < 0) (c1 : -b < r) (c2 : r < b) :
    Calls Try.prog 4 #[.int .i64 a, .int .i64 b] w fun e w' => e = .returned (.bool true) ∧ Below w.heap.size w w' := by
  have x1 : (a == -9223372036854775808) = true := beq_iff_eq.2 (by omega)
  have x3 : (b == 0) = false := beq_eq_false_iff_ne.2 (by omega)
  have x4 : (r == 0) = false := beq_eq_false_iff_ne.2 (by omega)
  go_enter Try.func4, Try.ntmps4
  go_wp2_with (go_at_call 16; refine (num_any _ _).mono ?_; rintro e w' ⟨rfl, rfl⟩)
  refine (add_fits _ _ _ s1 s2).mono ?_; rintro e w' ⟨rfl, rfl⟩
  go_wp2_with (go_at_call 16; refine (num_any _ _).mono ?_; rintro e w' ⟨rfl, rfl⟩)
  refine (sub_fits _ _ _ (by omega) (by omega)).mono ?_; rintro e w' ⟨rfl, rfl⟩
  go_wp2_with (go_at_call 16; refine (num_any _ _).mono ?_; rintro e w' ⟨rfl, rfl⟩)
  refine (neg_least _ _ ha1 n1).mono ?_; rintro e w' ⟨rfl, rfl⟩
  go_wp2_with (go_at_call 16; refine (num_any _ _).mono ?_; rintro e w' ⟨rfl, rfl⟩)
  refine (abs_least _ _ ha1 n1).mono ?_; rintro e w' ⟨rfl, rfl⟩
  go_wp2_with (go_at_call 16; refine (num_any _ _).mono ?_; rintro e w' ⟨rfl, rfl⟩)
  refine (div_q _ _ q _ (by omega) (by omega) hq).mono ?_; rintro e w' ⟨rfl, rfl⟩
  go_wp2_with (go_at_call 16; refine (num_any _ _).mono ?_; rintro e w' ⟨rfl, rfl⟩)
  refine (mod_r _ _ r _ (by omega) hr).mono ?_; rintro e w' ⟨rfl, rfl⟩
  go_wp2_with (go_at_call 16; refine (num_any _ _).mono ?_; rintro e w' ⟨rfl, rfl⟩)
  refine (mul_fits _ _ _ q1 q2 hb1 hb2 m1 m2).mono ?_; rintro e w' ⟨rfl, rfl⟩
  go_wp2_with (go_at_call 16; refine (num_any _ _).mono ?_; rintro e w' ⟨rfl, rfl⟩)
  refine (add_fits _ _ _ t1 t2).mono ?_; rintro e w' ⟨rfl, rfl⟩
  go_wp2_with (go_at_call 16; refine (num_any _ _).mono ?_; rintro e w' ⟨rfl, rfl⟩)
  refine (works_any _).mono ?_; rintro e w' ⟨rfl, hb⟩
  go_wp2
  go_ret
  exact ⟨rfl, hb⟩

end Go.Proofs.Ytfpjggoonekooaa
