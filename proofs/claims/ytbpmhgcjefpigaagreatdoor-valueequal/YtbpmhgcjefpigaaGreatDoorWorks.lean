/- works: a map is made, told, and held against another one. -/
import Derived.Test.YtbpmhgcjefpigaaGreatDoorText
namespace Go.Proofs.YtbpmhgcjefpigaaGreatDoor
open Go.RowKit Go.Shelf Go.Lib
set_option linter.unusedVariables false

def leafT (k : Int) (b : Bool) (n : Int) : Tree := .mk k b n ⟨#[]⟩ [] []
def listT : Tree := .mk 4 false 0 ⟨#[]⟩ [] [leafT 0 false 0, leafT 1 true 0]
def mapT : Tree := .mk 5 false 0 ⟨#[]⟩ [⟨#[97, 32, 98]⟩, ⟨#[98]⟩] [listT, leafT 2 false 2]
theorem leaf_lies (k : Int) (b : Bool) (n : Int) (B : Nat) (w : World) : Lies B w (leaf k b n ⟨#[]⟩) (leafT k b n) := by
  unfold leafT leaf
  simp only [Lies]
  exact ⟨none, 0, none, 0, rfl, ⟨by show 0 ≤ _; omega, by simp, by unfold maxLen; omega, by simp, by unfold maxLen; omega⟩, .inl rfl, .inl trivial⟩
theorem keyOk_ab : KeyOk ⟨#[97, 32, 98]⟩ := ⟨by decide, by decide, by decide⟩
theorem keyOk_b : KeyOk ⟨#[98]⟩ := ⟨by decide, by decide, by decide⟩
theorem easy_leaf (k : Int) (b : Bool) (n : Int) (h2 : k = 2 → IntOk n) (h3 : k ≠ 3) (h5 : k ≠ 5) (h6 : k ≠ 6) (h7 : k ≠ 7) : Easy (leafT k b n) :=
  .mk h2 h3 h6 h7 (fun h => absurd h h5) (by simp)
theorem easy_map : Easy mapT := by
  refine .mk (fun h => absurd h (by decide)) (by decide) (by decide) (by decide) (fun _ => ⟨rfl, ?_⟩) ?_
  · intro x hx
    simp only [List.mem_cons, List.not_mem_nil, or_false] at hx
    rcases hx with rfl | rfl
    · exact keyOk_ab
    · exact keyOk_b
  · intro t ht
    simp only [List.mem_cons, List.not_mem_nil, or_false] at ht
    rcases ht with rfl | rfl
    · refine .mk (fun h => absurd h (by decide)) (by decide) (by decide) (by decide) (fun h => absurd h (by decide)) ?_
      intro t ht
      simp only [List.mem_cons, List.not_mem_nil, or_false] at ht
      rcases ht with rfl | rfl
      · exact easy_leaf _ _ _ (fun h => absurd h (by decide)) (by decide) (by decide) (by decide) (by decide)
      · exact easy_leaf _ _ _ (fun h => absurd h (by decide)) (by decide) (by decide) (by decide) (by decide)
    · exact easy_leaf _ _ _ (fun _ => intOk_two) (by decide) (by decide) (by decide) (by decide)
theorem tell_map : tellB mapT = [123, 96, 97, 32, 98, 96, 58, 32, 91, 110, 117, 108, 108, 44, 32, 116, 114, 117, 101, 93, 44, 32, 98, 58, 32, 50, 125] := by
  simp only [mapT, listT, leafT, tellB, tellAllB, itoa_two]
  decide
theorem check_map : checkN mapT = 0 := by kernel_rfl
theorem modest_map : Modest mapT := by
  constructor <;> decide
end Go.Proofs.YtbpmhgcjefpigaaGreatDoor
