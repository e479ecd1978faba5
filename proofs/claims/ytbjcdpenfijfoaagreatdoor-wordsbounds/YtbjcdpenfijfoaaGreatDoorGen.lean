/- Small things of worlds and cells. -/
import Derived.Test.YtbjcdpenfijfoaaGreatDoorJoin1
import Derived.Test.YtbjcdpenfijfoaaGreatDoorWrites
import Derived.Below
import Derived.BigQuiet
import Derived.RangeFuncRecord
import Derived.Deep.RegionWith
namespace Go.Proofs.YtbjcdpenfijfoaaGreatDoor
open Go.RowKit Go.Shelf
set_option linter.unusedVariables false

theorem hidE {p : Prop} (h : p) : Hid p := h
theorem lt_of_cell {w : World} {p : Addr} {v : Value} (h : w.cell? p = some v) : p.block < w.heap.size := by
  obtain ⟨o, ho, _⟩ := cells_of_cell h
  exact (Array.getElem?_eq_some_iff.1 ho).1
theorem cell_below {B : Nat} {w w' : World} (h : Below B w w') (hB : w.heap.size ≤ B) {p : Addr} {v : Value} (hc : w.cell? p = some v) : w'.cell? p = some v :=
  (h.cell (p := p) (Nat.lt_of_lt_of_le (lt_of_cell hc) hB)).trans hc
theorem cell_new (W : World) (cs : Array Value) (ty : TypeId) (i : Nat) (v : Value) (h : cs[i]? = some v) : (W.alloc (.cells cs ty)).cell? ⟨W.heap.size, i, none⟩ = some v := by
  have e := World.alloc_heap_new W (.cells cs ty)
  unfold World.cell?
  simp only [e, h]
  rfl
theorem below_drewN' {B : Nat} {w w1 : World} (h : Below B w w1) (n : Nat) : Below B w (w1.drewN n) := ⟨h.os, h.tape, h.output, h.size, h.block⟩
theorem ne_bool {a b : Int} (h : a ≠ b) : (a == b) = false := beq_eq_false_iff_ne.2 h
theorem eq_bool {a b : Int} (h : a = b) : (a == b) = true := beq_iff_eq.2 h
end Go.Proofs.YtbjcdpenfijfoaaGreatDoor
