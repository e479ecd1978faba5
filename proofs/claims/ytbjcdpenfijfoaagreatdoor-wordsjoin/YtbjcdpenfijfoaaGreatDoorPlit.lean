/- The words of the two texts that every law asks for. -/
import Derived.Test.YtbjcdpenfijfoaaGreatDoorPprt
namespace Go.Proofs.YtbjcdpenfijfoaaGreatDoor
open Go.RowKit Go.Shelf Go.Lexed
open Go.Lib (byteCells byteCells_length)
set_option linter.unusedVariables false
set_option linter.unusedSimpArgs false
theorem lex_step (U : List UInt8 → Bool) {l r l' : List UInt8} {d : Wd} {n : Nat} {t : List (Wd × Nat)} {o : Option Nat} (hs : skipB l = (r, true)) (hr : r ≠ []) (hw : wordB U r = some (d, l')) (hn : r.length = n) (ht : lexB U l' = (t, o)) : lexB U l = ((d, n) :: t, o) := by
  rw [lex_of U hs hr hw, ht, hn]
def lit1 : List UInt8 := [77, 65, 84, 67, 72, 32, 40, 97, 58, 96, 98, 32, 99, 96, 41, 32, 47, 42, 32, 42, 47, 32, 60, 62, 49, 32, 47, 47, 32, 120]
def lit2 : List UInt8 := [97, 32, 48, 49]
set_option maxRecDepth 10000 in
theorem lit1_lex : lexB Lib.validD lit1 = ([(⟨1, [77, 65, 84, 67, 72], 0⟩, 30), (⟨5, [40], 0⟩, 24), (⟨1, [97], 0⟩, 23), (⟨5, [58], 0⟩, 22), (⟨2, [98, 32, 99], 0⟩, 21), (⟨5, [41], 0⟩, 16), (⟨5, [60, 62], 0⟩, 8), (⟨4, [], 1⟩, 6)], none) := by
  unfold lit1
  refine lex_step _ (l' := [32, 40, 97, 58, 96, 98, 32, 99, 96, 41, 32, 47, 42, 32, 42, 47, 32, 60, 62, 49, 32, 47, 47, 32, 120]) (skip_stay (by decide) (by decide)) (by decide) (by decide) (by decide) ?_
  refine lex_step _ (l' := [97, 58, 96, 98, 32, 99, 96, 41, 32, 47, 42, 32, 42, 47, 32, 60, 62, 49, 32, 47, 47, 32, 120]) ((skip_blank (by decide) _).trans (skip_stay (by decide) (by decide))) (by decide) (by decide) (by decide) ?_
  refine lex_step _ (l' := [58, 96, 98, 32, 99, 96, 41, 32, 47, 42, 32, 42, 47, 32, 60, 62, 49, 32, 47, 47, 32, 120]) (skip_stay (by decide) (by decide)) (by decide) (by decide) (by decide) ?_
  refine lex_step _ (l' := [96, 98, 32, 99, 96, 41, 32, 47, 42, 32, 42, 47, 32, 60, 62, 49, 32, 47, 47, 32, 120]) (skip_stay (by decide) (by decide)) (by decide) (by decide) (by decide) ?_
  refine lex_step _ (l' := [41, 32, 47, 42, 32, 42, 47, 32, 60, 62, 49, 32, 47, 47, 32, 120]) (skip_stay (by decide) (by decide)) (by decide) (by decide) (by decide) ?_
  refine lex_step _ (l' := [32, 47, 42, 32, 42, 47, 32, 60, 62, 49, 32, 47, 47, 32, 120]) (skip_stay (by decide) (by decide)) (by decide) (by decide) (by decide) ?_
  refine lex_step _ (l' := [49, 32, 47, 47, 32, 120]) ((skip_blank (by decide) _).trans ((skip_star (r := [32, 60, 62, 49, 32, 47, 47, 32, 120]) (by decide)).trans ((skip_blank (by decide) _).trans (skip_stay (by decide) (by decide))))) (by decide) (by decide) (by decide) ?_
  refine lex_step _ (l' := [32, 47, 47, 32, 120]) (skip_stay (by decide) (by decide)) (by decide) (by decide) (by decide) ?_
  refine lex_end _ ((skip_blank (by decide) _).trans ((skip_line _).trans ?_))
  rw [show lineB [32, 120] = [] by decide, skipB.eq_def]
set_option maxRecDepth 10000 in
theorem lit2_lex : lexB Lib.validD lit2 = ([(⟨1, [97], 0⟩, 4)], some 2) := by
  unfold lit2
  refine lex_step _ (l' := [32, 48, 49]) (skip_stay (by decide) (by decide)) (by decide) (by decide) (by decide) ?_
  exact lex_none _ ((skip_blank (by decide) _).trans (skip_stay (by decide) (by decide))) (by decide) (by decide)
end Go.Proofs.YtbjcdpenfijfoaaGreatDoor
