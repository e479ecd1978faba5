/- Of at truths, and the walk of the law LogicTruths. -/
import Derived.Test.YtbpmhgcjefpigaaDoorCheck
import Derived.Laws.AppendOwnNone
import Derived.Maps.AppendAt
namespace Go.Proofs.YtbpmhgcjefpigaaDoor
open Go.RowKit Go.WideShapes
set_option linter.unusedVariables false

theorem hidden {p : Prop} (h : p) : Hid p := h

/-- A value without text, keys and list. -/
abbrev leafT (k : Int) (b : Bool) (n : Int) : Tree := .mk k b n ⟨#[]⟩ [] []

theorem empty_size : (⟨#[]⟩ : ByteArray).size = 0 := rfl
theorem empty_list : (⟨#[]⟩ : ByteArray).toList.isEmpty = true := by
  rw [show (⟨#[]⟩ : ByteArray) = ByteArray.empty from rfl]; simp


theorem leaf_lies (B : Nat) (w : World) (k : Int) (b : Bool) (n : Int) : Lies B w (leaf k b n) (leafT k b n) := by
  simp only [Lies]
  exact ⟨none, 0, none, 0, rfl, ⟨by rw [empty_size]; exact Nat.zero_le _, Nat.le_refl _, Nat.zero_le _, Nat.le_refl _, Nat.zero_le _⟩, .inl rfl, .inl trivial⟩

theorem leaf_pre (d k : Int) (b : Bool) (n : Int) : (leafT k b n).pre d = [(d, leafT k b n)] := by simp [Tree.pre, Tree.preL]
theorem leaf_bytes (d k : Int) (b : Bool) (n : Int) : bytesOf ((leafT k b n).pre d) = 0 := by rw [leaf_pre, bytesOf_one, empty_size]; rfl
theorem leaf_height (k : Int) (b : Bool) (n : Int) : (leafT k b n).height = 1 := by simp [Tree.height, Tree.heightL]
theorem leaf_heavy (k : Int) (b : Bool) (n : Int) : heavy 0 ((leafT k b n).pre 1) = false := by
  rw [leaf_pre]; simp only [heavy, Tree.kids, Tree.bytes, Tree.text, Tree.keys, keyBytes, empty_size]; simp
theorem leaf_check (k : Int) (b : Bool) (n : Int) (h : shapedB (leafT k b n) = true) : checkN (leafT k b n) = 0 := by
  unfold checkN; rw [leaf_heavy, leaf_pre]; simp [h]
theorem shaped_nothing : shapedB (leafT 0 false 0) = true := by simp only [shapedB, blankB, empty_list]; simp; rfl
theorem shaped_truth (b : Bool) : shapedB (leafT 1 b 0) = true := by simp only [shapedB, blankB, empty_list]; simp; rfl
theorem shaped_number (n : Int) : shapedB (leafT 2 false n) = true := by simp only [shapedB, blankB, empty_list]; simp; rfl

theorem check_leaf (k : Int) (b : Bool) (n : Int) (w : World) (hT : Tabs w) (h : shapedB (leafT k b n) = true) :
    Calls Tryd.prog 35 #[leaf k b n] w fun e w' => e = .returned (.int .i64 0) ∧ Below w.heap.size w w' := by
  have := check_any _ _ w (leaf_lies w.heap.size w k b n) hT (by rw [leaf_height]; omega) (by rw [leaf_bytes]; omega)
  rwa [leaf_check k b n h] at this

theorem alloc_cell (w w1 : World) (cs : Array Value) (ty : TypeId) (i : Nat) (v : Value) (h : cs[i]? = some v) (hb : Below (w.alloc (.cells cs ty)).heap.size (w.alloc (.cells cs ty)) w1) : w1.cell? ⟨w.heap.size, i, none⟩ = some v :=
  (hb.cell (p := ⟨w.heap.size, i, none⟩) (by simp)).trans (cell_new _ _ _ _ _ h)

set_option maxHeartbeats 400000 in
theorem of_nothing (w : World) (hT : Tabs w) : Calls Tryd.prog 10 #[leaf 0 false 0] w fun e w' => e = .returned (.tuple #[.int .i64 1, .bool true]) ∧ Below w.heap.size w w' := by
  go_enter Tryd.func10, Tryd.ntmps10
  go_wp2_with fail
  refine (check_leaf 0 false 0 _ (hT.below ((Below.refl _ _).alloc (Nat.le_refl _) _)) shaped_nothing).mono ?_
  rintro e w1 ⟨rfl, hb⟩
  have c0 := alloc_cell _ _ _ _ 0 _ rfl hb
  have hB := below_alloc hb
  clear hb
  go_wp2_with fail
  go_ret2
  exact ⟨rfl, hB⟩

set_option maxHeartbeats 400000 in
theorem of_truth (b : Bool) (w : World) (hT : Tabs w) : Calls Tryd.prog 10 #[leaf 1 b 0] w fun e w' => e = .returned (.tuple #[.int .i64 (if b then 2 else 0), .bool true]) ∧ Below w.heap.size w w' := by
  cases b
  all_goals
    go_enter Tryd.func10, Tryd.ntmps10
    go_wp2_with fail
    refine (check_leaf 1 _ 0 _ (hT.below ((Below.refl _ _).alloc (Nat.le_refl _) _)) (shaped_truth _)).mono ?_
    rintro e w1 ⟨rfl, hb⟩
    have c0 := alloc_cell _ _ _ _ 0 _ rfl hb
    have c1 := alloc_cell _ _ _ _ 1 _ rfl hb
    have hB := below_alloc hb
    clear hb
    go_wp2_with fail
    go_ret2
    exact ⟨rfl, hB⟩

theorem of_value (t : Int) (w : World) (hT : Tabs w) : Calls Tryd.prog 10 #[valOf t] w fun e w' => e = .returned (.tuple #[.int .i64 (kn t), .bool true]) ∧ Below w.heap.size w w' := by
  by_cases h : kn t = 1
  · rw [show valOf t = leaf 0 false 0 by simp [valOf, h], h]
    exact of_nothing w hT
  · rw [show valOf t = leaf 1 (t == 2) 0 by simp [valOf, h]]
    have e : kn t = if (t == 2) = true then 2 else 0 := by
      unfold kn at h ⊢
      by_cases h2 : t = 2
      · subst h2; rfl
      · have : (t == 2) = false := beq_eq_false_iff_ne.2 h2
        rw [this]
        split at h <;> split <;> simp <;> omega
    rw [e]
    exact of_truth _ w hT

theorem value_alike (t : Int) (w : World) : Calls Tryd.prog 17 #[valOf t, valOf t] w fun e w' => e = .returned (.bool true) ∧ Below w.heap.size w w' := by
  unfold valOf
  split
  · exact alike_leaf 0 false 0 w
  · exact alike_leaf 1 (t == 2) 0 w

theorem value_cells (t : Int) : ∃ k b, valOf t = leaf k b 0 := by
  unfold valOf
  split
  · exact ⟨0, false, rfl⟩
  · exact ⟨1, _, rfl⟩

theorem rand_zero (ad : Option Addr) (cap : Nat) (w : World) : Calls Tryd.prog 11 #[.slice ad 0 cap] w fun e w' => e = .returned (.int .i64 (andL [])) ∧ w' = w := by
  go_enter Tryd.func11, Tryd.ntmps11
  go_wp2
  refine wp_loop_rounds 1 ?_
  rw [rounds_succ]
  go_wp2
  go_ret
  exact ⟨rfl, rfl⟩
theorem ror_zero (ad : Option Addr) (cap : Nat) (w : World) : Calls Tryd.prog 12 #[.slice ad 0 cap] w fun e w' => e = .returned (.int .i64 (orL [])) ∧ w' = w := by
  go_enter Tryd.func12, Tryd.ntmps12
  go_wp2
  refine wp_loop_rounds 1 ?_
  rw [rounds_succ]
  go_wp2
  go_ret
  exact ⟨rfl, rfl⟩
end Go.Proofs.YtbpmhgcjefpigaaDoor
