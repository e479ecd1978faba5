/- A graph of nothing: it may be, and is made. -/
import Derived.Test.YthfilnflgahcjaaGreatDoorJoin1
import Derived.Deep.Cut
namespace Go.Proofs.YthfilnflgahcjaaGreatDoor
open Go.RowKit Go.Shelf
set_option linter.unusedVariables false
set_option linter.unusedSimpArgs false
attribute [local go_sem] Oper.semAt_some
def ruL : List Value := [.func (.func 100) #[] #[], .func (.func 101) #[] #[], .func (.func 102) #[] #[], .func (.func 103) #[] #[], .func (.func 104) #[] #[], .func (.func 105) #[] #[]]
set_option maxRecDepth 100000 in
theorem rules_any (w : World) : Calls Tryz.prog 47 #[] w fun e w' => e = .returned (.slice (some ⟨w.heap.size, 0, none⟩) 6 6) ∧ Below w.heap.size w w' ∧ ∀ q v, ruL[q]? = some v → w'.cell? ⟨w.heap.size, q, none⟩ = some v := by
  go_enter Tryz.func47, Tryz.ntmps47
  go_wp2_with fail
  generalize hW1 : World.alloc _ _ = W1
  have HB1 : Hid (Below w.heap.size w W1) := by rw [← hW1]; exact (Below.refl _ _).alloc (Nat.le_refl _) _
  have HT : Hid (∀ q v, ruL[q]? = some v → W1.cell? ⟨w.heap.size, q, none⟩ = some v) := by
    intro q v hq
    rw [← hW1]
    refine cell_new _ _ _ _ _ ?_
    have : ruL.toArray[q]? = some v := by rw [List.getElem?_toArray, hq]
    exact this
  clear hW1
  go_ret
  exact ⟨rfl, HB1.out, HT.out⟩
end Go.Proofs.YthfilnflgahcjaaGreatDoor
