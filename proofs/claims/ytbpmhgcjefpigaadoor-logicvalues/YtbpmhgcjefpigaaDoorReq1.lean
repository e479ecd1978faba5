/- The document's equality of values, where no list is looked into; the truth of a value. -/
import Derived.Test.YtbpmhgcjefpigaaDoorRcmp
namespace Go.Proofs.YtbpmhgcjefpigaaDoor
open Go.RowKit Go.Shelf
set_option linter.unusedVariables false

set_option maxRecDepth 100000 in
set_option maxHeartbeats 2000000 in
theorem refeq_null1 (k : Int) (x : Bool) (n : Int) (s : ByteArray) (ka : Option Addr) (kl kc : Nat) (la : Option Addr) (ll lc : Nat) (k' : Int) (x' : Bool) (n' : Int) (s' : ByteArray) (ka' : Option Addr) (kl' kc' : Nat) (la' : Option Addr) (ll' lc' : Nat) (w : World) (h : k = 0) :
    Calls Tryd.prog 27 #[.agg #[.int .i64 k, .bool x, .int .i64 n, .string s, .slice ka kl kc, .slice la ll lc], .agg #[.int .i64 k', .bool x', .int .i64 n', .string s', .slice ka' kl' kc', .slice la' ll' lc']] w fun e w' => e = .returned (.int .i64 (1)) ∧ Below w.heap.size w w' := by
  have HX : Hid (∀ w1, Below ((w.alloc (.cells #[.int .i64 k, .bool x, .int .i64 n, .string s, .slice ka kl kc, .slice la ll lc] 30)).alloc (.cells #[.int .i64 k', .bool x', .int .i64 n', .string s', .slice ka' kl' kc', .slice la' ll' lc'] 30)).heap.size ((w.alloc (.cells #[.int .i64 k, .bool x, .int .i64 n, .string s, .slice ka kl kc, .slice la ll lc] 30)).alloc (.cells #[.int .i64 k', .bool x', .int .i64 n', .string s', .slice ka' kl' kc', .slice la' ll' lc'] 30)) w1 → _) := fun w1 hb => two_boxes (w := w) (w1 := w1) (A := #[.int .i64 k, .bool x, .int .i64 n, .string s, .slice ka kl kc, .slice la ll lc]) (A' := #[.int .i64 k', .bool x', .int .i64 n', .string s', .slice ka' kl' kc', .slice la' ll' lc']) hb
  have HB := hidE (HX.out _ (Below.refl _ _)).1
  have e0 : (k == 0) = true := eq_bool h
  clear h
  go_enter Tryd.func27, Tryd.ntmps27
  go_wp2_with fail
  go_ret
  exact ⟨rfl, HB.out⟩

set_option maxRecDepth 100000 in
set_option maxHeartbeats 2000000 in
theorem refeq_null2 (k : Int) (x : Bool) (n : Int) (s : ByteArray) (ka : Option Addr) (kl kc : Nat) (la : Option Addr) (ll lc : Nat) (k' : Int) (x' : Bool) (n' : Int) (s' : ByteArray) (ka' : Option Addr) (kl' kc' : Nat) (la' : Option Addr) (ll' lc' : Nat) (w : World) (h : k ≠ 0) (h' : k' = 0) :
    Calls Tryd.prog 27 #[.agg #[.int .i64 k, .bool x, .int .i64 n, .string s, .slice ka kl kc, .slice la ll lc], .agg #[.int .i64 k', .bool x', .int .i64 n', .string s', .slice ka' kl' kc', .slice la' ll' lc']] w fun e w' => e = .returned (.int .i64 (1)) ∧ Below w.heap.size w w' := by
  have HX : Hid (∀ w1, Below ((w.alloc (.cells #[.int .i64 k, .bool x, .int .i64 n, .string s, .slice ka kl kc, .slice la ll lc] 30)).alloc (.cells #[.int .i64 k', .bool x', .int .i64 n', .string s', .slice ka' kl' kc', .slice la' ll' lc'] 30)).heap.size ((w.alloc (.cells #[.int .i64 k, .bool x, .int .i64 n, .string s, .slice ka kl kc, .slice la ll lc] 30)).alloc (.cells #[.int .i64 k', .bool x', .int .i64 n', .string s', .slice ka' kl' kc', .slice la' ll' lc'] 30)) w1 → _) := fun w1 hb => two_boxes (w := w) (w1 := w1) (A := #[.int .i64 k, .bool x, .int .i64 n, .string s, .slice ka kl kc, .slice la ll lc]) (A' := #[.int .i64 k', .bool x', .int .i64 n', .string s', .slice ka' kl' kc', .slice la' ll' lc']) hb
  have HB := hidE (HX.out _ (Below.refl _ _)).1
  have e0 : (k == 0) = false := ne_bool h
  have f0 : (k' == 0) = true := eq_bool h'
  clear h h'
  go_enter Tryd.func27, Tryd.ntmps27
  go_wp2_with fail
  go_ret
  exact ⟨rfl, HB.out⟩

set_option maxRecDepth 100000 in
set_option maxHeartbeats 2000000 in
theorem refeq_ne (k : Int) (x : Bool) (n : Int) (s : ByteArray) (ka : Option Addr) (kl kc : Nat) (la : Option Addr) (ll lc : Nat) (k' : Int) (x' : Bool) (n' : Int) (s' : ByteArray) (ka' : Option Addr) (kl' kc' : Nat) (la' : Option Addr) (ll' lc' : Nat) (w : World) (h : k ≠ 0) (h' : k' ≠ 0) (hne : k ≠ k') :
    Calls Tryd.prog 27 #[.agg #[.int .i64 k, .bool x, .int .i64 n, .string s, .slice ka kl kc, .slice la ll lc], .agg #[.int .i64 k', .bool x', .int .i64 n', .string s', .slice ka' kl' kc', .slice la' ll' lc']] w fun e w' => e = .returned (.int .i64 (0)) ∧ Below w.heap.size w w' := by
  have HX : Hid (∀ w1, Below ((w.alloc (.cells #[.int .i64 k, .bool x, .int .i64 n, .string s, .slice ka kl kc, .slice la ll lc] 30)).alloc (.cells #[.int .i64 k', .bool x', .int .i64 n', .string s', .slice ka' kl' kc', .slice la' ll' lc'] 30)).heap.size ((w.alloc (.cells #[.int .i64 k, .bool x, .int .i64 n, .string s, .slice ka kl kc, .slice la ll lc] 30)).alloc (.cells #[.int .i64 k', .bool x', .int .i64 n', .string s', .slice ka' kl' kc', .slice la' ll' lc'] 30)) w1 → _) := fun w1 hb => two_boxes (w := w) (w1 := w1) (A := #[.int .i64 k, .bool x, .int .i64 n, .string s, .slice ka kl kc, .slice la ll lc]) (A' := #[.int .i64 k', .bool x', .int .i64 n', .string s', .slice ka' kl' kc', .slice la' ll' lc']) hb
  have HB := hidE (HX.out _ (Below.refl _ _)).1
  have e0 : (k == 0) = false := ne_bool h
  have f0 : (k' == 0) = false := ne_bool h'
  have e1 : (k == k') = false := ne_bool hne
  clear h h' hne
  go_enter Tryd.func27, Tryd.ntmps27
  go_wp2_with fail
  go_ret
  exact ⟨rfl, HB.out⟩

set_option maxRecDepth 100000 in
set_option maxHeartbeats 2000000 in
theorem refeq_plain (k : Int) (x : Bool) (n : Int) (s : ByteArray) (ka : Option Addr) (kl kc : Nat) (la : Option Addr) (ll lc : Nat) (k' : Int) (x' : Bool) (n' : Int) (s' : ByteArray) (ka' : Option Addr) (kl' kc' : Nat) (la' : Option Addr) (ll' lc' : Nat) (w : World) (h : k ≠ 0) (h' : k' ≠ 0) (he : k = k') (h4 : k ≠ 4) (h5 : k ≠ 5) (res : Int) (HR : Hid (∀ W, Below w.heap.size w W → Calls Tryd.prog 41 #[.agg #[.int .i64 k, .bool x, .int .i64 n, .string s, .slice ka kl kc, .slice la ll lc], .agg #[.int .i64 k', .bool x', .int .i64 n', .string s', .slice ka' kl' kc', .slice la' ll' lc']] W fun e w' => e = .returned (.int .i64 res) ∧ Below W.heap.size W w')) :
    Calls Tryd.prog 27 #[.agg #[.int .i64 k, .bool x, .int .i64 n, .string s, .slice ka kl kc, .slice la ll lc], .agg #[.int .i64 k', .bool x', .int .i64 n', .string s', .slice ka' kl' kc', .slice la' ll' lc']] w fun e w' => e = .returned (.int .i64 (truthI (res == 0))) ∧ Below w.heap.size w w' := by
  have HX : Hid (∀ w1, Below ((w.alloc (.cells #[.int .i64 k, .bool x, .int .i64 n, .string s, .slice ka kl kc, .slice la ll lc] 30)).alloc (.cells #[.int .i64 k', .bool x', .int .i64 n', .string s', .slice ka' kl' kc', .slice la' ll' lc'] 30)).heap.size ((w.alloc (.cells #[.int .i64 k, .bool x, .int .i64 n, .string s, .slice ka kl kc, .slice la ll lc] 30)).alloc (.cells #[.int .i64 k', .bool x', .int .i64 n', .string s', .slice ka' kl' kc', .slice la' ll' lc'] 30)) w1 → _) := fun w1 hb => two_boxes (w := w) (w1 := w1) (A := #[.int .i64 k, .bool x, .int .i64 n, .string s, .slice ka kl kc, .slice la ll lc]) (A' := #[.int .i64 k', .bool x', .int .i64 n', .string s', .slice ka' kl' kc', .slice la' ll' lc']) hb
  have HB := hidE (HX.out _ (Below.refl _ _)).1
  have HC := hidE (HR.out _ HB.out)
  have e0 : (k == 0) = false := ne_bool h
  have f0 : (k' == 0) = false := ne_bool h'
  have e1 : (k == k') = true := eq_bool he
  have e4 : (k != 4) = true := bne_iff_ne.2 h4
  have e5 : (k != 5) = true := bne_iff_ne.2 h5
  clear h h' he h4 h5
  generalize hr : (res == 0) = b0
  go_enter Tryd.func27, Tryd.ntmps27
  go_wp2_with fail
  refine HC.out.mono ?_
  rintro e w2 ⟨rfl, hb2⟩
  have HF := hidE (below_on HB.out hb2)
  clear hb2
  go_wp2_with fail
  refine (reftruth_any _ _).mono ?_
  rintro e w3 ⟨rfl, rfl⟩
  go_wp2_with fail
  go_ret
  exact ⟨rfl, HF.out⟩

def ofT (k : Int) (x : Bool) : Int := if k = 0 then 1 else if k ≠ 1 then 1 else truthI x
def ofB (k : Int) : Bool := decide (k = 0 ∨ k = 1)
set_option maxHeartbeats 1000000 in
theorem refof_any (k : Int) (x : Bool) (n : Int) (s : ByteArray) (ka : Option Addr) (kl kc : Nat) (la : Option Addr) (ll lc : Nat) (w : World) :
    Calls Tryd.prog 28 #[.agg #[.int .i64 k, .bool x, .int .i64 n, .string s, .slice ka kl kc, .slice la ll lc]] w fun e w' => e = .returned (.tuple #[.int .i64 (ofT k x), .bool (ofB k)]) ∧ Below w.heap.size w w' := by
  have HB := hidE ((Below.refl w.heap.size w).alloc (Nat.le_refl _) (.cells #[.int .i64 k, .bool x, .int .i64 n, .string s, .slice ka kl kc, .slice la ll lc] 30))
  by_cases h0 : k = 0
  · have e0 := eq_bool h0
    have HR : Hid (ofT k x = 1 ∧ ofB k = true) := by subst h0; exact ⟨rfl, rfl⟩
    clear h0
    go_enter Tryd.func28, Tryd.ntmps28
    go_wp2_with fail
    go_ret2
    exact ⟨by rw [HR.out.1, HR.out.2]; rfl, HB.out⟩
  · have e0 := ne_bool h0
    by_cases h1 : k = 1
    · have e1 := eq_bool h1
      have HR : Hid (ofT k x = truthI x ∧ ofB k = true) := by subst h1; exact ⟨rfl, rfl⟩
      clear h0 h1
      cases x with
      | true =>
        go_enter Tryd.func28, Tryd.ntmps28
        go_wp2_with fail
        go_ret2
        exact ⟨by rw [HR.out.1, HR.out.2]; rfl, HB.out⟩
      | false =>
        go_enter Tryd.func28, Tryd.ntmps28
        go_wp2_with fail
        go_ret2
        exact ⟨by rw [HR.out.1, HR.out.2]; rfl, HB.out⟩
    · have e1 := ne_bool h1
      have HR : Hid (ofT k x = 1 ∧ ofB k = false) := ⟨by simp [ofT, h0, h1], by simp [ofB, h0, h1]⟩
      clear h0 h1
      go_enter Tryd.func28, Tryd.ntmps28
      go_wp2_with fail
      go_ret2
      exact ⟨by rw [HR.out.1, HR.out.2]; rfl, HB.out⟩
end Go.Proofs.YtbpmhgcjefpigaaDoor
