/- Contracts of the functions that only reckon: known, num, Add, Sub, Neg, Abs, Div, Mod: for every world and all numbers of 64 bits. -/
import Derived.Test.YtbpmhgcjefpigaaDoorRows
import Derived.WalkKit
import Derived.WalkSpells
import Derived.WalkLawsBesides
import Derived.Laws.MathBits
namespace Go.Proofs.YtbpmhgcjefpigaaDoor
open Go.RowKit
set_option linter.unusedVariables false

theorem ret_ii {k1 k2 : IntKind} {a b c d : Int} (h : a = b) (h2 : c = d) : Ending.returned (.tuple #[.int k1 a, .int k2 c]) = .returned (.tuple #[.int k1 b, .int k2 d]) := by rw [h, h2]
theorem ret_ib {k1 : IntKind} {a b : Int} {c d : Bool} (h : a = b) (h2 : c = d) : Ending.returned (.tuple #[.int k1 a, .bool c]) = .returned (.tuple #[.int k1 b, .bool d]) := by rw [h, h2]
theorem ret_int {k : IntKind} {a b : Int} (h : a = b) : Ending.returned (.int k a) = .returned (.int k b) := by rw [h]

def kn (t : Int) : Int := if 0 ≤ t ∧ t ≤ 2 then t else 1
theorem kn_lo (t : Int) : 0 ≤ kn t := by unfold kn; split <;> omega
theorem kn_hi (t : Int) : kn t ≤ 2 := by unfold kn; split <;> omega

theorem known_any (t : Int) (w : World) : Calls Tryd.prog 32 #[.int .i64 t] w fun e w' => e = .returned (.int .i64 (kn t)) ∧ w' = w := by
  by_cases h : 0 ≤ t
  · by_cases h2 : t ≤ 2
    · have hk : kn t = t := by simp [kn, h, h2]
      rw [hk]; clear hk
      go_enter Tryd.func32, Tryd.ntmps32
      go_wp2
      go_ret
      exact ⟨rfl, rfl⟩
    · have hk : kn t = 1 := by simp [kn, h2]
      rw [hk]; clear hk
      go_enter Tryd.func32, Tryd.ntmps32
      go_wp2
      go_ret
      exact ⟨rfl, rfl⟩
  · have hk : kn t = 1 := by simp [kn, h]
    rw [hk]; clear hk
    go_enter Tryd.func32, Tryd.ntmps32
    go_wp2
    go_ret
    exact ⟨rfl, rfl⟩

theorem num_any (t : Int) (w : World) : Calls Tryd.prog 21 #[.int .i64 t] w fun e w' => e = .returned (.int .i64 t) ∧ w' = w := by
  go_enter Tryd.func21, Tryd.ntmps21
  go_wp2
  go_ret
  exact ⟨rfl, rfl⟩

theorem add_fits (a b : Int) (w : World) (h1 : -9223372036854775808 ≤ a + b) (h2 : a + b ≤ 9223372036854775807) :
    Calls Tryd.prog 24 #[.int .i64 a, .int .i64 b] w fun e w' => e = .returned (.tuple #[.int .i64 (a + b), .int .i64 0]) ∧ w' = w := by
  by_cases hb : b < 0
  · have hlt : a + b < a := by omega
    go_enter Tryd.func24, Tryd.ntmps24
    go_wp2
    go_ret2
    exact ⟨rfl, rfl⟩
  · have hlt : ¬ a + b < a := by omega
    go_enter Tryd.func24, Tryd.ntmps24
    go_wp2
    go_ret2
    exact ⟨rfl, rfl⟩

theorem add_over (a b : Int) (w : World) (ha : a ≤ 9223372036854775807) (hb : b ≤ 9223372036854775807) (h : 9223372036854775807 < a + b) :
    Calls Tryd.prog 24 #[.int .i64 a, .int .i64 b] w fun e w' => e = .returned (.tuple #[.int .i64 0, .int .i64 120]) ∧ w' = w := by
  have hb0 : ¬ b < 0 := by omega
  have hw : wrap64 (a + b) < a := by unfold wrap64; omega
  go_enter Tryd.func24, Tryd.ntmps24
  go_wp2
  go_ret2
  exact ⟨rfl, rfl⟩

theorem add_under (a b : Int) (w : World) (ha : -9223372036854775808 ≤ a) (hb : -9223372036854775808 ≤ b) (h : a + b < -9223372036854775808) :
    Calls Tryd.prog 24 #[.int .i64 a, .int .i64 b] w fun e w' => e = .returned (.tuple #[.int .i64 0, .int .i64 120]) ∧ w' = w := by
  have hb0 : b < 0 := by omega
  have hw : a ≤ wrap64 (a + b) := by unfold wrap64; omega
  go_enter Tryd.func24, Tryd.ntmps24
  go_wp2
  go_ret2
  exact ⟨rfl, rfl⟩

theorem sub_fits (a b : Int) (w : World) (h1 : -9223372036854775808 ≤ a - b) (h2 : a - b ≤ 9223372036854775807) :
    Calls Tryd.prog 22 #[.int .i64 a, .int .i64 b] w fun e w' => e = .returned (.tuple #[.int .i64 (a - b), .int .i64 0]) ∧ w' = w := by
  by_cases hb : b < 0
  · have hlt : a < a - b := by omega
    go_enter Tryd.func22, Tryd.ntmps22
    go_wp2
    go_ret2
    exact ⟨rfl, rfl⟩
  · have hlt : ¬ a < a - b := by omega
    go_enter Tryd.func22, Tryd.ntmps22
    go_wp2
    go_ret2
    exact ⟨rfl, rfl⟩

theorem sub_over (a b : Int) (w : World) (ha : a ≤ 9223372036854775807) (hb : -9223372036854775808 ≤ b) (h : 9223372036854775807 < a - b) :
    Calls Tryd.prog 22 #[.int .i64 a, .int .i64 b] w fun e w' => e = .returned (.tuple #[.int .i64 0, .int .i64 120]) ∧ w' = w := by
  have hb0 : b < 0 := by omega
  have hw : wrap64 (a - b) ≤ a := by unfold wrap64; omega
  go_enter Tryd.func22, Tryd.ntmps22
  go_wp2
  go_ret2
  exact ⟨rfl, rfl⟩

theorem sub_under (a b : Int) (w : World) (ha : -9223372036854775808 ≤ a) (hb : b ≤ 9223372036854775807) (h : a - b < -9223372036854775808) :
    Calls Tryd.prog 22 #[.int .i64 a, .int .i64 b] w fun e w' => e = .returned (.tuple #[.int .i64 0, .int .i64 120]) ∧ w' = w := by
  have hb0 : ¬ b < 0 := by omega
  have hw : a < wrap64 (a - b) := by unfold wrap64; omega
  go_enter Tryd.func22, Tryd.ntmps22
  go_wp2
  go_ret2
  exact ⟨rfl, rfl⟩

theorem size_pos (a : Int) (w : World) (h1 : 0 ≤ a) (h2 : a ≤ 9223372036854775807) :
    Calls Tryd.prog 43 #[.int .i64 a] w fun e w' => e = .returned (.int .u64 a) ∧ w' = w := by
  go_enter Tryd.func43, Tryd.ntmps43
  go_wp2
  go_ret
  exact ⟨rfl, rfl⟩

theorem size_neg (a : Int) (w : World) (h1 : a < 0) (h2 : -9223372036854775808 ≤ a) :
    Calls Tryd.prog 43 #[.int .i64 a] w fun e w' => e = .returned (.int .u64 (-a)) ∧ w' = w := by
  have hw : IntKind.u64.wrap (-IntKind.u64.wrap a) = -a := by rw [IntKind.wrap_u64, IntKind.wrap_u64]; omega
  go_enter Tryd.func43, Tryd.ntmps43
  go_wp2
  go_ret
  exact ⟨rfl, rfl⟩

def sz (a : Int) : Int := if a < 0 then -a else a
theorem size_any (a : Int) (w : World) (h1 : -9223372036854775808 ≤ a) (h2 : a ≤ 9223372036854775807) :
    Calls Tryd.prog 43 #[.int .i64 a] w fun e w' => e = .returned (.int .u64 (sz a)) ∧ w' = w := by
  by_cases h : a < 0
  · rw [show sz a = -a by simp [sz, h]]; exact size_neg a w h h1
  · rw [show sz a = a by simp [sz, h]]; exact size_pos a w (by omega) h2

/- The product by halves. -/
theorem tm_both (a b x y : Int) (w : World) (ha : 0 ≤ a) (hb : 0 ≤ b) (hx : a / 4294967296 = x) (hy : b / 4294967296 = y) (h1 : (x != 0) = true) (h2 : (y != 0) = true) :
    Calls Tryd.prog 42 #[.int .u64 a, .int .u64 b] w fun e w' => e = .returned (.tuple #[.int .u64 0, .bool true]) ∧ w' = w := by
  go_enter Tryd.func42, Tryd.ntmps42
  go_wp2
  go_ret2
  exact ⟨rfl, rfl⟩

theorem tm_left_wide (a b y p q : Int) (w : World) (ha : 0 ≤ a) (hb : 0 ≤ b) (hx : a / 4294967296 = 0) (hy : b / 4294967296 = y) (hp : bits .and .u64 a 4294967295 = p) (hq : bits .and .u64 b 4294967295 = q)
    (h1 : 4294967295 < y * p) (h2 : y * p ≤ 18446744073709551615) :
    Calls Tryd.prog 42 #[.int .u64 a, .int .u64 b] w fun e w' => e = .returned (.tuple #[.int .u64 0, .bool true]) ∧ w' = w := by
  go_enter Tryd.func42, Tryd.ntmps42
  go_wp2
  go_ret2
  exact ⟨rfl, rfl⟩

theorem tm_left_fits (a b y p q : Int) (w : World) (ha : 0 ≤ a) (hb : 0 ≤ b) (hx : a / 4294967296 = 0) (hy : b / 4294967296 = y) (hp : bits .and .u64 a 4294967295 = p) (hq : bits .and .u64 b 4294967295 = q)
    (h1 : 0 ≤ y * p) (h2 : y * p ≤ 4294967295) (h3 : 0 ≤ p * q) (h4 : y * p * 4294967296 + p * q ≤ 18446744073709551615) :
    Calls Tryd.prog 42 #[.int .u64 a, .int .u64 b] w fun e w' => e = .returned (.tuple #[.int .u64 (y * p * 4294967296 + p * q), .bool false]) ∧ w' = w := by
  go_enter Tryd.func42, Tryd.ntmps42
  go_wp2
  go_ret2
  exact ⟨ret_ib rfl (decide_eq_false (by omega)), rfl⟩

theorem tm_left_over (a b y p q : Int) (w : World) (ha : 0 ≤ a) (hb : 0 ≤ b) (hx : a / 4294967296 = 0) (hy : b / 4294967296 = y) (hp : bits .and .u64 a 4294967295 = p) (hq : bits .and .u64 b 4294967295 = q)
    (h1 : 0 ≤ y * p) (h2 : y * p ≤ 4294967295) (h3 : 0 ≤ p * q) (h4 : p * q ≤ 18446744073709551615) (h5 : IntKind.u64.wrap (y * p * 4294967296 + p * q) < y * p * 4294967296) :
    Calls Tryd.prog 42 #[.int .u64 a, .int .u64 b] w fun e w' => e = .returned (.tuple #[.int .u64 (IntKind.u64.wrap (y * p * 4294967296 + p * q)), .bool true]) ∧ w' = w := by
  go_enter Tryd.func42, Tryd.ntmps42
  go_wp2
  go_ret2
  exact ⟨rfl, rfl⟩

theorem tm_right_wide (a b x p q : Int) (w : World) (ha : 0 ≤ a) (hb : 0 ≤ b) (hx : a / 4294967296 = x) (hx0 : (x != 0) = true) (hy : b / 4294967296 = 0) (hp : bits .and .u64 a 4294967295 = p) (hq : bits .and .u64 b 4294967295 = q)
    (h1 : 4294967295 < x * q) (h2 : x * q ≤ 18446744073709551615) :
    Calls Tryd.prog 42 #[.int .u64 a, .int .u64 b] w fun e w' => e = .returned (.tuple #[.int .u64 0, .bool true]) ∧ w' = w := by
  go_enter Tryd.func42, Tryd.ntmps42
  go_wp2
  go_ret2
  exact ⟨rfl, rfl⟩

theorem tm_right_fits (a b x p q : Int) (w : World) (ha : 0 ≤ a) (hb : 0 ≤ b) (hx : a / 4294967296 = x) (hx0 : (x != 0) = true) (hy : b / 4294967296 = 0) (hp : bits .and .u64 a 4294967295 = p) (hq : bits .and .u64 b 4294967295 = q)
    (h1 : 0 ≤ x * q) (h2 : x * q ≤ 4294967295) (h3 : 0 ≤ p * q) (h4 : x * q * 4294967296 + p * q ≤ 18446744073709551615) :
    Calls Tryd.prog 42 #[.int .u64 a, .int .u64 b] w fun e w' => e = .returned (.tuple #[.int .u64 (x * q * 4294967296 + p * q), .bool false]) ∧ w' = w := by
  go_enter Tryd.func42, Tryd.ntmps42
  go_wp2
  go_ret2
  exact ⟨ret_ib rfl (decide_eq_false (by omega)), rfl⟩

theorem tm_right_over (a b x p q : Int) (w : World) (ha : 0 ≤ a) (hb : 0 ≤ b) (hx : a / 4294967296 = x) (hx0 : (x != 0) = true) (hy : b / 4294967296 = 0) (hp : bits .and .u64 a 4294967295 = p) (hq : bits .and .u64 b 4294967295 = q)
    (h1 : 0 ≤ x * q) (h2 : x * q ≤ 4294967295) (h3 : 0 ≤ p * q) (h4 : p * q ≤ 18446744073709551615) (h5 : IntKind.u64.wrap (x * q * 4294967296 + p * q) < x * q * 4294967296) :
    Calls Tryd.prog 42 #[.int .u64 a, .int .u64 b] w fun e w' => e = .returned (.tuple #[.int .u64 (IntKind.u64.wrap (x * q * 4294967296 + p * q)), .bool true]) ∧ w' = w := by
  go_enter Tryd.func42, Tryd.ntmps42
  go_wp2
  go_ret2
  exact ⟨rfl, rfl⟩

theorem mul_le' {a b c d : Int} (h1 : 0 ≤ a) (h2 : a ≤ c) (h3 : 0 ≤ b) (h4 : b ≤ d) : 0 ≤ a * b ∧ a * b ≤ c * d :=
  ⟨Int.mul_nonneg h1 h3, Int.mul_le_mul h2 h4 h3 (Int.le_trans h1 h2)⟩

/-- times: the product where 64 bits are enough; else only the word that they are not. -/
theorem times_any (a b : Int) (w : World) (ha : 0 ≤ a) (hb : 0 ≤ b) (ha2 : a ≤ 18446744073709551615) (hb2 : b ≤ 18446744073709551615) :
    Calls Tryd.prog 42 #[.int .u64 a, .int .u64 b] w fun e w' => ∃ n t, e = .returned (.tuple #[.int .u64 n, .bool t]) ∧ w' = w ∧ ((a * b ≤ 18446744073709551615 ∧ n = a * b ∧ t = false) ∨ (18446744073709551615 < a * b ∧ t = true)) := by
  have hp := and_low32 a ha (by omega)
  have hq := and_low32 b hb (by omega)
  obtain ⟨x, hx⟩ : ∃ x, a / 4294967296 = x := ⟨_, rfl⟩
  obtain ⟨y, hy⟩ : ∃ y, b / 4294967296 = y := ⟨_, rfl⟩
  obtain ⟨p, ep⟩ : ∃ p, a % 4294967296 = p := ⟨_, rfl⟩
  obtain ⟨q, eq⟩ : ∃ q, b % 4294967296 = q := ⟨_, rfl⟩
  rw [ep] at hp
  rw [eq] at hq
  have ea : a = x * 4294967296 + p := by omega
  have eb : b = y * 4294967296 + q := by omega
  have bx : 0 ≤ x ∧ x ≤ 4294967295 := by omega
  have by' : 0 ≤ y ∧ y ≤ 4294967295 := by omega
  have bp : 0 ≤ p ∧ p ≤ 4294967295 := by omega
  have bq : 0 ≤ q ∧ q ≤ 4294967295 := by omega
  have hpq := mul_le' bp.1 bp.2 bq.1 bq.2
  have hyp := mul_le' by'.1 by'.2 bp.1 bp.2
  have hxq := mul_le' bx.1 bx.2 bq.1 bq.2
  have hxy := mul_le' bx.1 bx.2 by'.1 by'.2
  have hab : a * b = x * y * 18446744073709551616 + (x * q + y * p) * 4294967296 + p * q := by rw [ea, eb, Int.mul_comm y p]; exact split_mul x p y q
  have wr : ∀ n : Int, IntKind.u64.wrap n = n % 18446744073709551616 := IntKind.wrap_u64
  by_cases hx0 : x = 0
  · subst hx0
    have e1 : a * b = y * p * 4294967296 + p * q := by rw [hab]; simp
    rw [e1]
    by_cases hw : y * p ≤ 4294967295
    · by_cases hf : y * p * 4294967296 + p * q ≤ 18446744073709551615
      · refine (tm_left_fits a b y p q w ha hb hx hy hp hq hyp.1 hw hpq.1 hf).mono ?_
        rintro e w' ⟨rfl, rfl⟩
        exact ⟨_, _, rfl, rfl, Or.inl ⟨hf, rfl, rfl⟩⟩
      · refine (tm_left_over a b y p q w ha hb hx hy hp hq hyp.1 hw hpq.1 (by omega) (by rw [wr]; omega)).mono ?_
        rintro e w' ⟨rfl, rfl⟩
        exact ⟨_, _, rfl, rfl, Or.inr ⟨by omega, rfl⟩⟩
    · refine (tm_left_wide a b y p q w ha hb hx hy hp hq (by omega) (by omega)).mono ?_
      rintro e w' ⟨rfl, rfl⟩
      exact ⟨_, _, rfl, rfl, Or.inr ⟨by omega, rfl⟩⟩
  · have hx1 : (x != 0) = true := bne_iff_ne.2 hx0
    by_cases hy0 : y = 0
    · subst hy0
      have e1 : a * b = x * q * 4294967296 + p * q := by rw [hab]; simp
      rw [e1]
      by_cases hw : x * q ≤ 4294967295
      · by_cases hf : x * q * 4294967296 + p * q ≤ 18446744073709551615
        · refine (tm_right_fits a b x p q w ha hb hx hx1 hy hp hq hxq.1 hw hpq.1 hf).mono ?_
          rintro e w' ⟨rfl, rfl⟩
          exact ⟨_, _, rfl, rfl, Or.inl ⟨hf, rfl, rfl⟩⟩
        · refine (tm_right_over a b x p q w ha hb hx hx1 hy hp hq hxq.1 hw hpq.1 (by omega) (by rw [wr]; omega)).mono ?_
          rintro e w' ⟨rfl, rfl⟩
          exact ⟨_, _, rfl, rfl, Or.inr ⟨by omega, rfl⟩⟩
      · refine (tm_right_wide a b x p q w ha hb hx hx1 hy hp hq (by omega) (by omega)).mono ?_
        rintro e w' ⟨rfl, rfl⟩
        exact ⟨_, _, rfl, rfl, Or.inr ⟨by omega, rfl⟩⟩
    · have hy1 : (y != 0) = true := bne_iff_ne.2 hy0
      have h1 : 1 ≤ x * y := by have := Int.mul_le_mul (a := 1) (b := 1) (c := x) (d := y) (by omega) (by omega) (by omega) (by omega); omega
      refine (tm_both a b x y w ha hb hx hy hx1 hy1).mono ?_
      rintro e w' ⟨rfl, rfl⟩
      exact ⟨_, _, rfl, rfl, Or.inr ⟨by omega, rfl⟩⟩

/-- A number that fits 64 bits, and no error; else nought, and the error ErrWide. -/
def fitN (n : Int) : Int := if -9223372036854775808 ≤ n ∧ n ≤ 9223372036854775807 then n else 0
def fitE (n : Int) : Int := if -9223372036854775808 ≤ n ∧ n ≤ 9223372036854775807 then 0 else 120

theorem fit_in {n : Int} (h1 : -9223372036854775808 ≤ n) (h2 : n ≤ 9223372036854775807) : fitN n = n ∧ fitE n = 0 := by simp [fitN, fitE, h1, h2]
theorem fit_out {n : Int} (h : n < -9223372036854775808 ∨ 9223372036854775807 < n) : fitN n = 0 ∧ fitE n = 120 := by
  have : ¬ (-9223372036854775808 ≤ n ∧ n ≤ 9223372036854775807) := by omega
  simp [fitN, fitE, this]

theorem add_any (a b : Int) (w : World) (ha1 : -9223372036854775808 ≤ a) (ha2 : a ≤ 9223372036854775807) (hb1 : -9223372036854775808 ≤ b) (hb2 : b ≤ 9223372036854775807) :
    Calls Tryd.prog 24 #[.int .i64 a, .int .i64 b] w fun e w' => e = .returned (.tuple #[.int .i64 (fitN (a + b)), .int .i64 (fitE (a + b))]) ∧ w' = w := by
  by_cases h1 : a + b < -9223372036854775808
  · rw [(fit_out (Or.inl h1)).1, (fit_out (Or.inl h1)).2]; exact add_under a b w ha1 hb1 h1
  · by_cases h2 : 9223372036854775807 < a + b
    · rw [(fit_out (Or.inr h2)).1, (fit_out (Or.inr h2)).2]; exact add_over a b w ha2 hb2 h2
    · rw [(fit_in (by omega) (by omega)).1, (fit_in (by omega) (by omega)).2]; exact add_fits a b w (by omega) (by omega)

theorem sub_any (a b : Int) (w : World) (ha1 : -9223372036854775808 ≤ a) (ha2 : a ≤ 9223372036854775807) (hb1 : -9223372036854775808 ≤ b) (hb2 : b ≤ 9223372036854775807) :
    Calls Tryd.prog 22 #[.int .i64 a, .int .i64 b] w fun e w' => e = .returned (.tuple #[.int .i64 (fitN (a - b)), .int .i64 (fitE (a - b))]) ∧ w' = w := by
  by_cases h1 : a - b < -9223372036854775808
  · rw [(fit_out (Or.inl h1)).1, (fit_out (Or.inl h1)).2]; exact sub_under a b w ha1 hb2 h1
  · by_cases h2 : 9223372036854775807 < a - b
    · rw [(fit_out (Or.inr h2)).1, (fit_out (Or.inr h2)).2]; exact sub_over a b w ha2 hb1 h2
    · rw [(fit_in (by omega) (by omega)).1, (fit_in (by omega) (by omega)).2]; exact sub_fits a b w (by omega) (by omega)

theorem sz_nn (a : Int) : 0 ≤ sz a := by unfold sz; split <;> omega
theorem sz_le (a : Int) (h1 : -9223372036854775808 ≤ a) (h2 : a ≤ 9223372036854775807) : sz a ≤ 9223372036854775808 := by unfold sz; split <;> omega

theorem mul_same (a b : Int) (w : World) (ha1 : -9223372036854775808 ≤ a) (ha2 : a ≤ 9223372036854775807) (hb1 : -9223372036854775808 ≤ b) (hb2 : b ≤ 9223372036854775807)
    (hs : decide (a < 0) = decide (b < 0)) (hn : sz a * sz b ≤ 9223372036854775807) :
    Calls Tryd.prog 29 #[.int .i64 a, .int .i64 b] w fun e w' => e = .returned (.tuple #[.int .i64 (sz a * sz b), .int .i64 0]) ∧ w' = w := by
  have na := sz_nn a
  have nb := sz_nn b
  have la := sz_le a ha1 ha2
  have lb := sz_le b hb1 hb2
  have np := Int.mul_nonneg na nb
  by_cases hb : b < 0
  · have ha : a < 0 := by simpa [hb] using hs
    clear hs
    go_enter Tryd.func29, Tryd.ntmps29
    go_wp2_with fail
    refine (size_any _ _ (by omega) (by omega)).mono ?_; rintro e w' ⟨rfl, rfl⟩
    go_wp2_with fail
    refine (size_any _ _ (by omega) (by omega)).mono ?_; rintro e w' ⟨rfl, rfl⟩
    go_wp2_with fail
    refine (times_any _ _ _ na nb (by omega) (by omega)).mono ?_
    rintro e w' ⟨n, t, rfl, rfl, ⟨_, rfl, rfl⟩ | ⟨h, rfl⟩⟩
    · go_wp2
      go_ret2
      exact ⟨rfl, rfl⟩
    · omega
  · have ha : ¬ a < 0 := by simpa [hb] using hs
    clear hs
    go_enter Tryd.func29, Tryd.ntmps29
    go_wp2_with fail
    refine (size_any _ _ (by omega) (by omega)).mono ?_; rintro e w' ⟨rfl, rfl⟩
    go_wp2_with fail
    refine (size_any _ _ (by omega) (by omega)).mono ?_; rintro e w' ⟨rfl, rfl⟩
    go_wp2_with fail
    refine (times_any _ _ _ na nb (by omega) (by omega)).mono ?_
    rintro e w' ⟨n, t, rfl, rfl, ⟨_, rfl, rfl⟩ | ⟨h, rfl⟩⟩
    · go_wp2
      go_ret2
      exact ⟨rfl, rfl⟩
    · omega

theorem mul_diff (a b : Int) (w : World) (ha1 : -9223372036854775808 ≤ a) (ha2 : a ≤ 9223372036854775807) (hb1 : -9223372036854775808 ≤ b) (hb2 : b ≤ 9223372036854775807)
    (hs : (a < 0 ∧ ¬ b < 0) ∨ (¬ a < 0 ∧ b < 0)) (hn : sz a * sz b ≤ 9223372036854775808) :
    Calls Tryd.prog 29 #[.int .i64 a, .int .i64 b] w fun e w' => e = .returned (.tuple #[.int .i64 (-(sz a * sz b)), .int .i64 0]) ∧ w' = w := by
  have na := sz_nn a
  have nb := sz_nn b
  have la := sz_le a ha1 ha2
  have lb := sz_le b hb1 hb2
  have np := Int.mul_nonneg na nb
  rcases hs with ⟨ha, hb⟩ | ⟨ha, hb⟩
  all_goals
    go_enter Tryd.func29, Tryd.ntmps29
    go_wp2_with fail
    refine (size_any _ _ (by omega) (by omega)).mono ?_; rintro e w' ⟨rfl, rfl⟩
    go_wp2_with fail
    refine (size_any _ _ (by omega) (by omega)).mono ?_; rintro e w' ⟨rfl, rfl⟩
    go_wp2_with fail
    refine (times_any _ _ _ na nb (by omega) (by omega)).mono ?_
    rintro e w' ⟨n, t, rfl, rfl, ⟨_, rfl, rfl⟩ | ⟨h, rfl⟩⟩
    · go_wp2
      go_ret2
      refine ⟨ret_ii ?_ rfl, rfl⟩
      simp only [wrap64]; omega
    · omega

theorem mul_wide (a b : Int) (w : World) (ha1 : -9223372036854775808 ≤ a) (ha2 : a ≤ 9223372036854775807) (hb1 : -9223372036854775808 ≤ b) (hb2 : b ≤ 9223372036854775807)
    (hs : (a < 0 ∧ b < 0 ∧ 9223372036854775807 < sz a * sz b) ∨ (¬ a < 0 ∧ ¬ b < 0 ∧ 9223372036854775807 < sz a * sz b) ∨ (a < 0 ∧ ¬ b < 0 ∧ 9223372036854775808 < sz a * sz b) ∨ (¬ a < 0 ∧ b < 0 ∧ 9223372036854775808 < sz a * sz b)) :
    Calls Tryd.prog 29 #[.int .i64 a, .int .i64 b] w fun e w' => e = .returned (.tuple #[.int .i64 0, .int .i64 120]) ∧ w' = w := by
  have na := sz_nn a
  have nb := sz_nn b
  have la := sz_le a ha1 ha2
  have lb := sz_le b hb1 hb2
  have np := Int.mul_nonneg na nb
  rcases hs with ⟨ha, hb, hn⟩ | ⟨ha, hb, hn⟩ | ⟨ha, hb, hn⟩ | ⟨ha, hb, hn⟩
  all_goals
    go_enter Tryd.func29, Tryd.ntmps29
    go_wp2_with fail
    refine (size_any _ _ (by omega) (by omega)).mono ?_; rintro e w' ⟨rfl, rfl⟩
    go_wp2_with fail
    refine (size_any _ _ (by omega) (by omega)).mono ?_; rintro e w' ⟨rfl, rfl⟩
    go_wp2_with fail
    refine (times_any _ _ _ na nb (by omega) (by omega)).mono ?_
    rintro e w' ⟨n, t, rfl, rfl, ⟨_, rfl, rfl⟩ | ⟨h, rfl⟩⟩
    all_goals
      go_wp2
      go_ret2
      exact ⟨rfl, rfl⟩

theorem mul_any (a b : Int) (w : World) (ha1 : -9223372036854775808 ≤ a) (ha2 : a ≤ 9223372036854775807) (hb1 : -9223372036854775808 ≤ b) (hb2 : b ≤ 9223372036854775807) :
    Calls Tryd.prog 29 #[.int .i64 a, .int .i64 b] w fun e w' => e = .returned (.tuple #[.int .i64 (fitN (a * b)), .int .i64 (fitE (a * b))]) ∧ w' = w := by
  have np := Int.mul_nonneg (sz_nn a) (sz_nn b)
  by_cases ha : a < 0
  · have ea : sz a = -a := by simp [sz, ha]
    by_cases hb : b < 0
    · have eb : sz b = -b := by simp [sz, hb]
      have e : sz a * sz b = a * b := by rw [ea, eb, Int.neg_mul_neg]
      by_cases hn : sz a * sz b ≤ 9223372036854775807
      · rw [(fit_in (n := a * b) (by omega) (by omega)).1, (fit_in (n := a * b) (by omega) (by omega)).2, ← e]
        exact mul_same a b w ha1 ha2 hb1 hb2 (by simp [ha, hb]) hn
      · rw [(fit_out (n := a * b) (by omega)).1, (fit_out (n := a * b) (by omega)).2]
        exact mul_wide a b w ha1 ha2 hb1 hb2 (Or.inl ⟨ha, hb, by omega⟩)
    · have eb : sz b = b := by simp [sz, hb]
      have e : -(sz a * sz b) = a * b := by rw [ea, eb, Int.neg_mul, Int.neg_neg]
      by_cases hn : sz a * sz b ≤ 9223372036854775808
      · rw [(fit_in (n := a * b) (by omega) (by omega)).1, (fit_in (n := a * b) (by omega) (by omega)).2, ← e]
        exact mul_diff a b w ha1 ha2 hb1 hb2 (Or.inl ⟨ha, hb⟩) hn
      · rw [(fit_out (n := a * b) (by omega)).1, (fit_out (n := a * b) (by omega)).2]
        exact mul_wide a b w ha1 ha2 hb1 hb2 (Or.inr (Or.inr (Or.inl ⟨ha, hb, by omega⟩)))
  · have ea : sz a = a := by simp [sz, ha]
    by_cases hb : b < 0
    · have eb : sz b = -b := by simp [sz, hb]
      have e : -(sz a * sz b) = a * b := by rw [ea, eb, Int.mul_neg, Int.neg_neg]
      by_cases hn : sz a * sz b ≤ 9223372036854775808
      · rw [(fit_in (n := a * b) (by omega) (by omega)).1, (fit_in (n := a * b) (by omega) (by omega)).2, ← e]
        exact mul_diff a b w ha1 ha2 hb1 hb2 (Or.inr ⟨ha, hb⟩) hn
      · rw [(fit_out (n := a * b) (by omega)).1, (fit_out (n := a * b) (by omega)).2]
        exact mul_wide a b w ha1 ha2 hb1 hb2 (Or.inr (Or.inr (Or.inr ⟨ha, hb, by omega⟩)))
    · have eb : sz b = b := by simp [sz, hb]
      have e : sz a * sz b = a * b := by rw [ea, eb]
      by_cases hn : sz a * sz b ≤ 9223372036854775807
      · rw [(fit_in (n := a * b) (by omega) (by omega)).1, (fit_in (n := a * b) (by omega) (by omega)).2, ← e]
        exact mul_same a b w ha1 ha2 hb1 hb2 (by simp [ha, hb]) hn
      · rw [(fit_out (n := a * b) (by omega)).1, (fit_out (n := a * b) (by omega)).2]
        exact mul_wide a b w ha1 ha2 hb1 hb2 (Or.inr (Or.inl ⟨ha, hb, by omega⟩))
end Go.Proofs.YtbpmhgcjefpigaaDoor
