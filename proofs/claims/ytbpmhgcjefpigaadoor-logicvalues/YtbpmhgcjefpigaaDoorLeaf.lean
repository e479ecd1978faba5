/- Contracts of the functions that make the value of a truth, and of blank and shaped at values that have no text, no keys and no list. -/
import Derived.Test.YtbpmhgcjefpigaaDoorRtruth
namespace Go.Proofs.YtbpmhgcjefpigaaDoor
open Go.RowKit
set_option linter.unusedVariables false

/-- A value of which only the kind, the truth and the number are used. -/
abbrev leaf (k : Int) (b : Bool) (n : Int) : Value := .agg #[.int .i64 k, .bool b, .int .i64 n, .string ⟨#[]⟩, .slice none 0 0, .slice none 0 0]

theorem holds_any (t : Int) (w : World) : Calls Tryd.prog 19 #[.int .i64 t] w fun e w' => e = .returned (.bool (t == 2)) ∧ w' = w := by
  go_enter Tryd.func19, Tryd.ntmps19
  go_wp2
  go_ret
  exact ⟨rfl, rfl⟩

theorem null_any (w : World) : Calls Tryd.prog 33 #[] w fun e w' => e = .returned (leaf 0 false 0) ∧ Below w.heap.size w w' := by
  go_enter Tryd.func33, Tryd.ntmps33
  go_wp2
  exact bodyPost_ret (v := leaf 0 false 0) (by simp [results, Tryd.results33, go_sem]) rfl ⟨rfl, (Below.refl _ _).alloc (Nat.le_refl _) _⟩

theorem bool_any (b : Bool) (w : World) : Calls Tryd.prog 34 #[.bool b] w fun e w' => e = .returned (leaf 1 b 0) ∧ Below w.heap.size w w' := by
  go_enter Tryd.func34, Tryd.ntmps34
  go_wp2
  exact bodyPost_ret (v := leaf 1 b 0) (by simp [results, Tryd.results34, go_sem]) rfl ⟨rfl, (Below.refl _ _).alloc (Nat.le_refl _) _⟩

theorem blank_leaf (k : Int) (w : World) : Calls Tryd.prog 60 #[leaf k false 0] w fun e w' => e = .returned (.bool true) ∧ Below w.heap.size w w' := by
  go_enter Tryd.func60, Tryd.ntmps60
  go_wp2
  go_ret
  exact ⟨rfl, (Below.refl _ _).alloc (Nat.le_refl _) _⟩

theorem below_six {w w1 : World} (h : Below w.heap.size w w1) (a b c d e f : Value) :
    Below w.heap.size w ((((((w1.setCell ⟨w.heap.size, 0, none⟩ a).setCell ⟨w.heap.size, 1, none⟩ b).setCell ⟨w.heap.size, 2, none⟩ c).setCell ⟨w.heap.size, 3, none⟩ d).setCell ⟨w.heap.size, 4, none⟩ e).setCell ⟨w.heap.size, 5, none⟩ f) :=
  (((((h.setCell (p := ⟨w.heap.size, 0, none⟩) (Nat.le_refl _) a).setCell (p := ⟨w.heap.size, 1, none⟩) (Nat.le_refl _) b).setCell (p := ⟨w.heap.size, 2, none⟩) (Nat.le_refl _) c).setCell (p := ⟨w.heap.size, 3, none⟩) (Nat.le_refl _) d).setCell (p := ⟨w.heap.size, 4, none⟩) (Nat.le_refl _) e).setCell (p := ⟨w.heap.size, 5, none⟩) (Nat.le_refl _) f

/-- The value of a truth. -/
def valOf (t : Int) : Value := if kn t = 1 then leaf 0 false 0 else leaf 1 (t == 2) 0

set_option maxHeartbeats 800000 in
theorem value_any (t : Int) (w : World) : Calls Tryd.prog 9 #[.int .i64 t] w fun e w' => e = .returned (valOf t) ∧ Below w.heap.size w w' := by
  by_cases h : kn t = 1
  · have hv : valOf t = leaf 0 false 0 := by simp [valOf, h]
    rw [hv]
    have x1 : (kn t == 1) = true := beq_iff_eq.2 h
    clear hv h
    go_enter Tryd.func9, Tryd.ntmps9
    go_wp2_with (go_at_call 32; refine (known_any _ _).mono ?_; rintro e w' ⟨rfl, rfl⟩)
    refine (null_any _).mono ?_; rintro e w1 ⟨rfl, k1⟩
    have hbel := below_alloc k1
    obtain ⟨hc, hf⟩ := bcell k1
    have hz : w.heap.size < (w.alloc (.cells #[.int .i64 0, .bool false, .int .i64 0, .string ⟨#[]⟩, .slice none 0 0, .slice none 0 0] 30)).heap.size := by simp
    clear k1
    go_wp2
    exact bodyPost_ret (v := leaf 0 false 0) (by simp [results, Tryd.results9, go_sem, hc]) rfl ⟨rfl, below_six hbel _ _ _ _ _ _⟩
  · have hv : valOf t = leaf 1 (t == 2) 0 := by simp [valOf, h]
    rw [hv]
    have x1 : (kn t == 1) = false := beq_eq_false_iff_ne.2 h
    clear hv h
    go_enter Tryd.func9, Tryd.ntmps9
    go_wp2_with (go_at_call 32; refine (known_any _ _).mono ?_; rintro e w' ⟨rfl, rfl⟩)
    refine (holds_any _ _).mono ?_; rintro e w1 ⟨rfl, rfl⟩
    go_wp2_with fail
    refine (bool_any _ _).mono ?_; rintro e w1 ⟨rfl, k1⟩
    have hbel := below_alloc k1
    obtain ⟨hc, hf⟩ := bcell k1
    have hz : w.heap.size < (w.alloc (.cells #[.int .i64 0, .bool false, .int .i64 0, .string ⟨#[]⟩, .slice none 0 0, .slice none 0 0] 30)).heap.size := by simp
    clear k1
    go_wp2
    exact bodyPost_ret (v := leaf 1 (t == 2) 0) (by simp [results, Tryd.results9, go_sem, hc]) rfl ⟨rfl, below_six hbel _ _ _ _ _ _⟩
end Go.Proofs.YtbpmhgcjefpigaaDoor
