/- What is left of a function's body from a region on. -/
import Derived.Test.YthfilnflgahcjaaGreatDoorSfW
namespace Go.Proofs.YthfilnflgahcjaaGreatDoor
open Go.RowKit Go.Shelf Go.Maps
set_option linter.unusedVariables false
set_option linter.unusedSimpArgs false
attribute [local go_sem] Oper.semAt_some
def headIs (id : Nat) : Code → Bool
  | .region i _ _ => i == id
  | .block _ c => headIs id c
  | .loop c => headIs id c
  | .scope c => headIs id c
  | .seq a _ => headIs id a
  | _ => false
def tailFrom (id : Nat) : Code → Code
  | .seq a b => if headIs id a = true then .seq a b else tailFrom id b
  | c => c
def elemAt (id : Nat) (c : Code) : Code := match tailFrom id c with
  | .seq a _ => a
  | c => c
def spareS : ByteArray := { data := #[115, 112, 97, 114, 101] }
end Go.Proofs.YthfilnflgahcjaaGreatDoor
