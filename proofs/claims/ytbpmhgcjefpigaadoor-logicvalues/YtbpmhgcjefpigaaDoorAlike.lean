/- Contracts of the document's own Value, and of Alike at values that have no text, no keys and no list. -/
import Derived.Test.YtbpmhgcjefpigaaDoorLeaf
namespace Go.Proofs.YtbpmhgcjefpigaaDoor
open Go.RowKit
set_option linter.unusedVariables false

set_option maxHeartbeats 800000 in
theorem rvalue_any (t : Int) (w : World) : Calls Tryd.prog 18 #[.int .i64 t] w fun e w' => e = .returned (valOf t) ∧ Below w.heap.size w w' := by
  by_cases h : kn t = 1
  · have hv : valOf t = leaf 0 false 0 := by simp [valOf, h]
    rw [hv]
    have x1 : (kn t == 1) = true := beq_iff_eq.2 h
    clear hv h
    go_enter Tryd.func18, Tryd.ntmps18
    go_wp2_with (go_at_call 36; refine (rknown_any _ _).mono ?_; rintro e w' ⟨rfl, rfl⟩)
    exact bodyPost_ret (v := leaf 0 false 0) (by simp [results, Tryd.results18, go_sem]) rfl ⟨rfl, (Below.refl _ _).alloc (Nat.le_refl _) _⟩
  · have hv : valOf t = leaf 1 (t == 2) 0 := by simp [valOf, h]
    rw [hv]
    have x1 : (kn t == 1) = false := beq_eq_false_iff_ne.2 h
    clear hv h
    go_enter Tryd.func18, Tryd.ntmps18
    go_wp2_with (go_at_call 36; refine (rknown_any _ _).mono ?_; rintro e w' ⟨rfl, rfl⟩)
    exact bodyPost_ret (v := leaf 1 (t == 2) 0) (by simp [results, Tryd.results18, go_sem]) rfl ⟨rfl, (Below.refl _ _).alloc (Nat.le_refl _) _⟩

set_option maxHeartbeats 1600000 in
set_option maxRecDepth 100000 in
theorem alike_leaf (k : Int) (b : Bool) (n : Int) (w : World) : Calls Tryd.prog 17 #[leaf k b n, leaf k b n] w fun e w' => e = .returned (.bool true) ∧ Below w.heap.size w w' := by
  go_enter Tryd.func17, Tryd.ntmps17
  go_wp2
  refine wp_loop_rounds 1 ?_
  rw [rounds_succ]
  go_wp2
  refine wp_loop_rounds 1 ?_
  rw [rounds_succ]
  go_wp2
  go_ret
  exact ⟨rfl, ((Below.refl _ _).alloc (Nat.le_refl _) _).alloc (by simp) _⟩
end Go.Proofs.YtbpmhgcjefpigaaDoor
