/- The functions that make values. -/
import Derived.Test.YtbpmhgcjefpigaaGreatDoorTree
import Derived.Below
namespace Go.Proofs.YtbpmhgcjefpigaaGreatDoor
open Go.RowKit
set_option linter.unusedVariables false

/-- A value of which only the kind, the truth, the number and the text are used. -/
abbrev leaf (k : Int) (b : Bool) (n : Int) (s : ByteArray) : Value := .agg #[.int .i64 k, .bool b, .int .i64 n, .string s, .slice none 0 0, .slice none 0 0]
theorem null_any (w : World) : Calls Tryz.prog 53 #[] w fun e w' => e = .returned (leaf 0 false 0 ⟨#[]⟩) ∧ Below w.heap.size w w' := by
  go_enter Tryz.func53, Tryz.ntmps53
  go_wp2
  exact bodyPost_ret (v := leaf 0 false 0 ⟨#[]⟩) (by simp [results, Tryz.results53, go_sem]) rfl ⟨rfl, (Below.refl _ _).alloc (Nat.le_refl _) _⟩
theorem bool_any (b : Bool) (w : World) : Calls Tryz.prog 54 #[.bool b] w fun e w' => e = .returned (leaf 1 b 0 ⟨#[]⟩) ∧ Below w.heap.size w w' := by
  go_enter Tryz.func54, Tryz.ntmps54
  go_wp2
  exact bodyPost_ret (v := leaf 1 b 0 ⟨#[]⟩) (by simp [results, Tryz.results54, go_sem]) rfl ⟨rfl, (Below.refl _ _).alloc (Nat.le_refl _) _⟩
theorem int_any (n : Int) (w : World) : Calls Tryz.prog 55 #[.int .i64 n] w fun e w' => e = .returned (leaf 2 false n ⟨#[]⟩) ∧ Below w.heap.size w w' := by
  go_enter Tryz.func55, Tryz.ntmps55
  go_wp2
  exact bodyPost_ret (v := leaf 2 false n ⟨#[]⟩) (by simp [results, Tryz.results55, go_sem]) rfl ⟨rfl, (Below.refl _ _).alloc (Nat.le_refl _) _⟩
theorem string_any (s : ByteArray) (w : World) : Calls Tryz.prog 56 #[.string s] w fun e w' => e = .returned (leaf 3 false 0 s) ∧ Below w.heap.size w w' := by
  go_enter Tryz.func56, Tryz.ntmps56
  go_wp2
  exact bodyPost_ret (v := leaf 3 false 0 s) (by simp [results, Tryz.results56, go_sem]) rfl ⟨rfl, (Below.refl _ _).alloc (Nat.le_refl _) _⟩
end Go.Proofs.YtbpmhgcjefpigaaGreatDoor
