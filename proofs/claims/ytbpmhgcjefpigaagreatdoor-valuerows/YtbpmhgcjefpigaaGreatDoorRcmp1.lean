/- The document's order of two values, kind by kind. -/
import Derived.Test.YtbpmhgcjefpigaaGreatDoorJoin7
namespace Go.Proofs.YtbpmhgcjefpigaaGreatDoor
open Go.RowKit Go.Shelf
set_option linter.unusedVariables false

theorem rank_ne (k k' : Int) (h : k ≠ k') (h0 : 0 ≤ k) (h7 : k ≤ 7) (g0 : 0 ≤ k') (g7 : k' ≤ 7) : cmpI (rankN k) (rankN k') ≠ 0 := by
  have a : k = 0 ∨ k = 1 ∨ k = 2 ∨ k = 3 ∨ k = 4 ∨ k = 5 ∨ k = 6 ∨ k = 7 := by omega
  have b : k' = 0 ∨ k' = 1 ∨ k' = 2 ∨ k' = 3 ∨ k' = 4 ∨ k' = 5 ∨ k' = 6 ∨ k' = 7 := by omega
  rcases a with rfl | rfl | rfl | rfl | rfl | rfl | rfl | rfl <;> rcases b with rfl | rfl | rfl | rfl | rfl | rfl | rfl | rfl <;> first | exact absurd rfl h | decide

set_option maxRecDepth 100000 in
set_option maxHeartbeats 2000000 in
theorem refcmp_ne (k : Int) (x : Bool) (n : Int) (s : ByteArray) (ka : Option Addr) (kl kc : Nat) (la : Option Addr) (ll lc : Nat) (k' : Int) (x' : Bool) (n' : Int) (s' : ByteArray) (ka' : Option Addr) (kl' kc' : Nat) (la' : Option Addr) (ll' lc' : Nat) (w : World) (hne : k ≠ k') (h0 : 0 ≤ k) (h7 : k ≤ 7) (g0 : 0 ≤ k') (g7 : k' ≤ 7) :
    Calls Tryz.prog 30 #[.agg #[.int .i64 k, .bool x, .int .i64 n, .string s, .slice ka kl kc, .slice la ll lc], .agg #[.int .i64 k', .bool x', .int .i64 n', .string s', .slice ka' kl' kc', .slice la' ll' lc']] w fun e w' => e = .returned (.int .i64 (cmpI (rankN k) (rankN k'))) ∧ Below w.heap.size w w' := by
  have HX : Hid (∀ w1, Below ((w.alloc (.cells #[.int .i64 k, .bool x, .int .i64 n, .string s, .slice ka kl kc, .slice la ll lc] 26)).alloc (.cells #[.int .i64 k', .bool x', .int .i64 n', .string s', .slice ka' kl' kc', .slice la' ll' lc'] 26)).heap.size ((w.alloc (.cells #[.int .i64 k, .bool x, .int .i64 n, .string s, .slice ka kl kc, .slice la ll lc] 26)).alloc (.cells #[.int .i64 k', .bool x', .int .i64 n', .string s', .slice ka' kl' kc', .slice la' ll' lc'] 26)) w1 → _) := fun w1 hb => two_boxes (w := w) (w1 := w1) (A := #[.int .i64 k, .bool x, .int .i64 n, .string s, .slice ka kl kc, .slice la ll lc]) (A' := #[.int .i64 k', .bool x', .int .i64 n', .string s', .slice ka' kl' kc', .slice la' ll' lc']) hb
  have e1 : (k == k') = false := ne_bool hne
  have HH := hidE (And.intro (And.intro h0 h7) (And.intro g0 g7))
  clear hne h0 h7 g0 g7
  have HS : Hid (∀ w1, Below ((w.alloc (.cells #[.int .i64 k, .bool x, .int .i64 n, .string s, .slice ka kl kc, .slice la ll lc] 26)).alloc (.cells #[.int .i64 k', .bool x', .int .i64 n', .string s', .slice ka' kl' kc', .slice la' ll' lc'] 26)).heap.size ((w.alloc (.cells #[.int .i64 k, .bool x, .int .i64 n, .string s, .slice ka kl kc, .slice la ll lc] 26)).alloc (.cells #[.int .i64 k', .bool x', .int .i64 n', .string s', .slice ka' kl' kc', .slice la' ll' lc'] 26)) w1 → ∀ r, Calls Tryz.prog 68 #[.int .i64 r] w1 (fun e w2 => e = .returned (.int .i64 (rankN r)) ∧ Below w1.heap.size w1 w2) → Calls Tryz.prog 68 #[.int .i64 r] w1 fun e w2 => e = .returned (.int .i64 (rankN r)) ∧ w2.cell? ⟨w.heap.size, 0, none⟩ = some (.int .i64 k) ∧ w2.cell? ⟨w.heap.size + 1, 0, none⟩ = some (.int .i64 k') ∧ Hid (Below ((w.alloc (.cells #[.int .i64 k, .bool x, .int .i64 n, .string s, .slice ka kl kc, .slice la ll lc] 26)).alloc (.cells #[.int .i64 k', .bool x', .int .i64 n', .string s', .slice ka' kl' kc', .slice la' ll' lc'] 26)).heap.size ((w.alloc (.cells #[.int .i64 k, .bool x, .int .i64 n, .string s, .slice ka kl kc, .slice la ll lc] 26)).alloc (.cells #[.int .i64 k', .bool x', .int .i64 n', .string s', .slice ka' kl' kc', .slice la' ll' lc'] 26)) w2)) := by
    intro w1 hb r hc
    refine hc.mono ?_
    rintro e w2 ⟨he, hb2⟩
    have hb3 := below_on hb hb2
    obtain ⟨_, f, g⟩ := HX.out w2 hb3
    exact ⟨he, f 0 _ rfl, g 0 _ rfl, hb3⟩
  have HC1 : Hid (Calls Tryz.prog 68 #[.int .i64 k] ((w.alloc (.cells #[.int .i64 k, .bool x, .int .i64 n, .string s, .slice ka kl kc, .slice la ll lc] 26)).alloc (.cells #[.int .i64 k', .bool x', .int .i64 n', .string s', .slice ka' kl' kc', .slice la' ll' lc'] 26)).drew fun e w2 => e = .returned (.int .i64 (rankN k)) ∧ w2.cell? ⟨w.heap.size, 0, none⟩ = some (.int .i64 k) ∧ w2.cell? ⟨w.heap.size + 1, 0, none⟩ = some (.int .i64 k') ∧ Hid (Below ((w.alloc (.cells #[.int .i64 k, .bool x, .int .i64 n, .string s, .slice ka kl kc, .slice la ll lc] 26)).alloc (.cells #[.int .i64 k', .bool x', .int .i64 n', .string s', .slice ka' kl' kc', .slice la' ll' lc'] 26)).heap.size ((w.alloc (.cells #[.int .i64 k, .bool x, .int .i64 n, .string s, .slice ka kl kc, .slice la ll lc] 26)).alloc (.cells #[.int .i64 k', .bool x', .int .i64 n', .string s', .slice ka' kl' kc', .slice la' ll' lc'] 26)) w2)) := HS.out _ (Below.refl _ _).drew _ (refrank_any k _ HH.out.1.1 HH.out.1.2)
  have HC2 : Hid (Calls Tryz.prog 68 #[.int .i64 k'] ((w.alloc (.cells #[.int .i64 k, .bool x, .int .i64 n, .string s, .slice ka kl kc, .slice la ll lc] 26)).alloc (.cells #[.int .i64 k', .bool x', .int .i64 n', .string s', .slice ka' kl' kc', .slice la' ll' lc'] 26)).drew fun e w2 => e = .returned (.int .i64 (rankN k')) ∧ w2.cell? ⟨w.heap.size, 0, none⟩ = some (.int .i64 k) ∧ w2.cell? ⟨w.heap.size + 1, 0, none⟩ = some (.int .i64 k') ∧ Hid (Below ((w.alloc (.cells #[.int .i64 k, .bool x, .int .i64 n, .string s, .slice ka kl kc, .slice la ll lc] 26)).alloc (.cells #[.int .i64 k', .bool x', .int .i64 n', .string s', .slice ka' kl' kc', .slice la' ll' lc'] 26)).heap.size ((w.alloc (.cells #[.int .i64 k, .bool x, .int .i64 n, .string s, .slice ka kl kc, .slice la ll lc] 26)).alloc (.cells #[.int .i64 k', .bool x', .int .i64 n', .string s', .slice ka' kl' kc', .slice la' ll' lc'] 26)) w2)) := HS.out _ (Below.refl _ _).drew _ (refrank_any k' _ HH.out.2.1 HH.out.2.2)
  have HC3 : Hid (∀ w1, Hid (Below ((w.alloc (.cells #[.int .i64 k, .bool x, .int .i64 n, .string s, .slice ka kl kc, .slice la ll lc] 26)).alloc (.cells #[.int .i64 k', .bool x', .int .i64 n', .string s', .slice ka' kl' kc', .slice la' ll' lc'] 26)).heap.size ((w.alloc (.cells #[.int .i64 k, .bool x, .int .i64 n, .string s, .slice ka kl kc, .slice la ll lc] 26)).alloc (.cells #[.int .i64 k', .bool x', .int .i64 n', .string s', .slice ka' kl' kc', .slice la' ll' lc'] 26)) w1) → Calls Tryz.prog 68 #[.int .i64 k'] w1 fun e w2 => e = .returned (.int .i64 (rankN k')) ∧ w2.cell? ⟨w.heap.size, 0, none⟩ = some (.int .i64 k) ∧ w2.cell? ⟨w.heap.size + 1, 0, none⟩ = some (.int .i64 k') ∧ Hid (Below ((w.alloc (.cells #[.int .i64 k, .bool x, .int .i64 n, .string s, .slice ka kl kc, .slice la ll lc] 26)).alloc (.cells #[.int .i64 k', .bool x', .int .i64 n', .string s', .slice ka' kl' kc', .slice la' ll' lc'] 26)).heap.size ((w.alloc (.cells #[.int .i64 k, .bool x, .int .i64 n, .string s, .slice ka kl kc, .slice la ll lc] 26)).alloc (.cells #[.int .i64 k', .bool x', .int .i64 n', .string s', .slice ka' kl' kc', .slice la' ll' lc'] 26)) w2)) := fun w1 hb => HS.out _ hb.out _ (refrank_any k' _ HH.out.2.1 HH.out.2.2)
  have HC4 : Hid (∀ w1, Hid (Below ((w.alloc (.cells #[.int .i64 k, .bool x, .int .i64 n, .string s, .slice ka kl kc, .slice la ll lc] 26)).alloc (.cells #[.int .i64 k', .bool x', .int .i64 n', .string s', .slice ka' kl' kc', .slice la' ll' lc'] 26)).heap.size ((w.alloc (.cells #[.int .i64 k, .bool x, .int .i64 n, .string s, .slice ka kl kc, .slice la ll lc] 26)).alloc (.cells #[.int .i64 k', .bool x', .int .i64 n', .string s', .slice ka' kl' kc', .slice la' ll' lc'] 26)) w1) → Calls Tryz.prog 68 #[.int .i64 k] w1 fun e w2 => e = .returned (.int .i64 (rankN k)) ∧ w2.cell? ⟨w.heap.size, 0, none⟩ = some (.int .i64 k) ∧ w2.cell? ⟨w.heap.size + 1, 0, none⟩ = some (.int .i64 k') ∧ Hid (Below ((w.alloc (.cells #[.int .i64 k, .bool x, .int .i64 n, .string s, .slice ka kl kc, .slice la ll lc] 26)).alloc (.cells #[.int .i64 k', .bool x', .int .i64 n', .string s', .slice ka' kl' kc', .slice la' ll' lc'] 26)).heap.size ((w.alloc (.cells #[.int .i64 k, .bool x, .int .i64 n, .string s, .slice ka kl kc, .slice la ll lc] 26)).alloc (.cells #[.int .i64 k', .bool x', .int .i64 n', .string s', .slice ka' kl' kc', .slice la' ll' lc'] 26)) w2)) := fun w1 hb => HS.out _ hb.out _ (refrank_any k _ HH.out.1.1 HH.out.1.2)
  have HF : Hid (∀ w1, Hid (Below ((w.alloc (.cells #[.int .i64 k, .bool x, .int .i64 n, .string s, .slice ka kl kc, .slice la ll lc] 26)).alloc (.cells #[.int .i64 k', .bool x', .int .i64 n', .string s', .slice ka' kl' kc', .slice la' ll' lc'] 26)).heap.size ((w.alloc (.cells #[.int .i64 k, .bool x, .int .i64 n, .string s, .slice ka kl kc, .slice la ll lc] 26)).alloc (.cells #[.int .i64 k', .bool x', .int .i64 n', .string s', .slice ka' kl' kc', .slice la' ll' lc'] 26)) w1) → Below w.heap.size w w1) := fun w1 hb => (HX.out w1 hb.out).1
  clear HS HX HH
  generalize rankN k = rk at *
  generalize rankN k' = rk' at *
  go_enter Tryz.func30, Tryz.ntmps30
  go_wp2_with fail
  go_region_with (first
    | (go_at_call 67; refine (ints_any _ _ _).mono ?_; rintro e w9 ⟨rfl, rfl⟩)
    | (go_at_call 68; refine (HC3.out _ HB1).mono ?_; rintro e w2 ⟨rfl, x2, y2, HB2⟩)
    | (go_at_call 68; refine (HC4.out _ HB1).mono ?_; rintro e w2 ⟨rfl, x2, y2, HB2⟩)
    | (go_at_call 68; refine HC1.out.mono ?_; rintro e w1 ⟨rfl, x1, y1, HB1⟩)
    | (go_at_call 68; refine HC2.out.mono ?_; rintro e w1 ⟨rfl, x1, y1, HB1⟩))
  all_goals
    go_wp2_with fail
    go_ret
    exact ⟨rfl, HF.out _ HB2⟩

end Go.Proofs.YtbpmhgcjefpigaaGreatDoor
