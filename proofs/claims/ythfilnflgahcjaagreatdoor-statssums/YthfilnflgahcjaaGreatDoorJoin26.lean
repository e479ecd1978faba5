/- StatsFit's own walk. Counts, and what is asked of them, handed in: where they lie. Counts handed in: how long their names may be, too. What is left of a function's body from a region on. -/
import Derived.Test.YthfilnflgahcjaaGreatDoorJoin25
import Derived.Shelf.Bits.Mul64
import Derived.Test.YthfilnflgahcjaaGreatDoorJoin4
import Derived.Test.YthfilnflgahcjaaGreatDoorJoin3
import Derived.OpenShut
import Derived.SizedLaws
import Derived.ProofKit
import Derived.SliceStrings
import Derived.Deep.Slices
namespace Go.Proofs.YthfilnflgahcjaaGreatDoor
open Go.RowKit Go.Shelf Go.Maps
set_option linter.unusedVariables false
set_option linter.unusedSimpArgs false
attribute [local go_sem] Oper.semAt_some
/-- Counts that lie somewhere, however many. -/
structure StatO (B : Nat) (w : World) (vl vt ve vk : Value) (s : StatP) : Prop where
  hl : SRow 2 labC B w vl s.labels
  ht : SRow 2 labC B w vt s.types
  he : SRow 4 endC B w ve s.ends
  hk : SRow 4 keyC B w vk s.keys
  ol : ∀ x ∈ s.labels, okS x.1
  ot : ∀ x ∈ s.types, okS x.1
  oe : ∀ x ∈ s.ends, okE x
  ok : ∀ x ∈ s.keys, okK x
  nl : s.labels.length ≤ 1000000000000000000
  nt : s.types.length ≤ 1000000000000000000
  ne : s.ends.length ≤ 1000000000000000000
  nk : s.keys.length ≤ 1000000000000000000
theorem StatL.mono {B B' : Nat} {w : World} {vl vt ve vk : Value} {s : StatP} (h : StatL B w vl vt ve vk s) (hB : B ≤ B') : StatL B' w vl vt ve vk s := ⟨h.hl.mono hB, h.ht.mono hB, h.he.mono hB, h.hk.mono hB, h.ol, h.ot, h.oe, h.ok, h.nl, h.nt, h.ne, h.nk⟩
theorem StatO.lies {B : Nat} {w : World} {vl vt ve vk : Value} {s : StatP} (h : StatO B w vl vt ve vk s) (hf : fewB s = true) : StatL B w vl vt ve vk s := by
  have hf := of_decide_eq_true hf
  exact ⟨h.hl, h.ht, h.he, h.hk, h.ol, h.ot, h.oe, h.ok, by omega, by omega, by omega, by omega⟩
end Go.Proofs.YthfilnflgahcjaaGreatDoor

namespace Go.Proofs.YthfilnflgahcjaaGreatDoor
open Go.ChangeShapes Go.WideShapes Go.ChangeAt Go.RowKit Go.Shelf Go.Deep
set_option linter.unusedVariables false
set_option linter.unusedSimpArgs false
theorem cells43 : Tryz.prog.cellsOf 43 = 1 := by kernel_rfl
section
variable {H : Type} {enc : TypeId × Value → H} {W : World}
theorem weightsAll_mem {e : TypeId} {d : DataW H} : ∀ {l : List (DataW H)}, d ∈ l → ∀ {x : Nat}, x ∈ d.weights Tryz.prog e → x ∈ DataW.weightsAll Tryz.prog e l
  | a :: r, h, x, hx => by
    rw [DataW.weightsAll, List.mem_append]
    rcases List.mem_cons.1 h with rfl | h
    · exact .inl hx
    · exact .inr (weightsAll_mem h hx)
theorem open_int {fuel : Nat} {cs : List Value} {y : DataW H × List MemPlace} (h : DataW.trod enc Tryz.prog W 0 (fun _ => true) true fuel 2 cs = some y) : ∃ x : Int, cs = intE x ∧ W64 x := by
  obtain ⟨z, e, _, wf⟩ := DataW.trod_int Tryz.underlying2 h
  exact ⟨z, e, wf⟩
end
end Go.Proofs.YthfilnflgahcjaaGreatDoor

namespace Go.Proofs.YthfilnflgahcjaaGreatDoor
open Go.ChangeShapes Go.WideShapes Go.ChangeAt Go.RowKit Go.Shelf Go.Deep
set_option linter.unusedVariables false
set_option linter.unusedSimpArgs false
section
variable {H : Type} {enc : TypeId × Value → H} {W : World}
theorem open_str2 {fuel : Nat} {cs : List Value} {y : DataW H × List MemPlace} (h : DataW.trod enc Tryz.prog W 0 (fun _ => true) true fuel 9 cs = some y) : ∃ x : ByteArray, cs = strE x ∧ okS x ∧ x.size ∈ y.1.weights Tryz.prog 9 := by
  obtain ⟨s, e2, hy, h2⟩ := DataW.trod_string Tryz.underlying9 h
  refine ⟨s, e2, h2, ?_⟩
  rw [hy]
  simp [DataW.weights]
end
end Go.Proofs.YthfilnflgahcjaaGreatDoor

namespace Go.Proofs.YthfilnflgahcjaaGreatDoor
open Go.RowKit Go.Shelf Go.Maps
set_option linter.unusedVariables false
set_option linter.unusedSimpArgs false
attribute [local go_sem] Oper.semAt_some
def headIs (id : Nat) : Code → Bool
  | .region i _ _ => i == id
  | .block _ c => headIs id c
  | .loop c => headIs id c
  | .scope c => headIs id c
  | .seq a _ => headIs id a
  | _ => false
def tailFrom (id : Nat) : Code → Code
  | .seq a b => if headIs id a = true then .seq a b else tailFrom id b
  | c => c
def elemAt (id : Nat) (c : Code) : Code := match tailFrom id c with
  | .seq a _ => a
  | c => c
end Go.Proofs.YthfilnflgahcjaaGreatDoor

