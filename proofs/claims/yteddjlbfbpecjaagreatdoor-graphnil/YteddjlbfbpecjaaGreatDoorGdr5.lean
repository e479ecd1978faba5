/- A statement that reads, calls and lays rows of its own: operation by operation, in whatever order. -/
import Derived.Test.YteddjlbfbpecjaaGreatDoorFacts
import Derived.Test.YteddjlbfbpecjaaGreatDoorGed18
namespace Go.Proofs.YteddjlbfbpecjaaGreatDoor
open Go.RowKit Go.WideShapes Go.Shelf
set_option linter.unusedVariables false
set_option linter.unusedSimpArgs false

noncomputable def RDR5 : Array Oper := regionAt Tryz.f33 5
def ancDR5 (i : Nat) : List Nat := ([[], [0], [1], [2], [2, 3], [2, 4], [2, 5], [2], [2, 6, 7], [2, 8], [2], [2, 10], [2, 11], [2, 12], [2], [2, 13, 14], [2, 15], [2, 9, 16], [2, 17], [2, 18], [19]] : List (List Nat)).getD i []
def factsDR5 (p : GP) (id : Int) (fa ta : Option Addr) (fl fc tl tc : Nat) (b : Bool) : List (Value → World → Prop) :=
  [eqv (.bool false), eqv (.bool true), eqv (.bool true), eqv (.pointer (some ⟨p.g, 0, none⟩)), eqv (.pointer (some ⟨p.g, 0, none⟩)), eqv (.pointer (some ⟨p.g, 4, none⟩)), eqv (.map (some p.f)), eqv (.int .i64 id), eqv (.slice fa fl fc), eqv (.int .i64 (fl : Int)), eqv (.pointer (some ⟨p.g, 0, none⟩)), eqv (.pointer (some ⟨p.g, 0, none⟩)), eqv (.pointer (some ⟨p.g, 5, none⟩)), eqv (.map (some p.t)), eqv (.int .i64 id), eqv (.slice ta tl tc), eqv (.int .i64 (tl : Int)), eqv (.int .i64 ((fl : Int) + (tl : Int))), eqv (.bool b), eqv (.bool b), eqv (.bool b)]
structure BaseDR5 (p : GP) (id : Int) (fa ta : Option Addr) (fl fc tl tc : Nat) (b : Bool) (c : Act) : Prop where
  t0 : c.eval (.tmp 0) = .pointer (some ⟨p.g, 0, none⟩)
  t1 : c.eval (.tmp 1) = .bool false
  t2 : c.eval (.tmp 2) = .int .i64 id
structure WorldDR5 (p : GP) (id : Int) (fa ta : Option Addr) (fl fc tl tc : Nat) (b : Bool) (w : World) : Prop where
  c4 : w.cell? ⟨p.g, 4, none⟩ = some (.map (some p.f))
  c5 : w.cell? ⟨p.g, 5, none⟩ = some (.map (some p.t))
  l4 : (Instr.lookup 72 (.map (some p.f)) (.int .i64 id) false).run Tryz.prog w = .ok (.slice fa fl fc) w
  l5 : (Instr.lookup 72 (.map (some p.t)) (.int .i64 id) false).run Tryz.prog w = .ok (.slice ta tl tc) w
  kw : IntKind.i64.wrap ((fl : Int) + (tl : Int)) = (fl : Int) + (tl : Int)
  kg : decide ((0 : Int) < (fl : Int) + (tl : Int)) = b

set_option maxRecDepth 10000 in
theorem oDR5_0 (p : GP) (id : Int) (fa ta : Option Addr) (fl fc tl tc : Nat) (b : Bool) (Q : Exit → Act → World → Prop) (c : Act) (w : World) (hb : BaseDR5 p id fa ta fl fc tl tc b c) (hW : WorldDR5 p id fa ta fl fc tl tc b w) (hF : ∀ q0 ∈ ancDR5 0, factsAt (factsDR5 p id fa ta fl fc tl tc b) q0 (val RDR5 c q0) w) :
    Does Tryz.prog RDR5 Q (factsAt (factsDR5 p id fa ta fl fc tl tc b)) 0 c w := by
  have ho : RDR5[0]? = some ({ dst := some 18, op := Op.move (Operand.tmp 1), type := 4, pos := "edit.go:101", after := #[], guard := none } : Oper) := by kernel_rfl
  have e1 := hb.t1
  have hw : Region.wanted ({ dst := some 18, op := Op.move (Operand.tmp 1), type := 4, pos := "edit.go:101", after := #[], guard := none } : Oper) (yielded RDR5 c.tmps) = true := want_none rfl
  have ec : ∀ v, c.eval (.const v) = v := fun _ => rfl
  have ef : ∀ f, c.eval (.func f) = .func (.func f) #[] #[] := fun _ => rfl
  refine does_value ho hw (v := .bool false) ?_ rfl (Below.refl _ _)
  generalize c.eval = ρ at *
  clear hF hb hW hw ho
  go_simp

set_option maxRecDepth 10000 in
theorem oDR5_1 (p : GP) (id : Int) (fa ta : Option Addr) (fl fc tl tc : Nat) (b : Bool) (Q : Exit → Act → World → Prop) (c : Act) (w : World) (hb : BaseDR5 p id fa ta fl fc tl tc b c) (hW : WorldDR5 p id fa ta fl fc tl tc b w) (hF : ∀ q0 ∈ ancDR5 1, factsAt (factsDR5 p id fa ta fl fc tl tc b) q0 (val RDR5 c q0) w) :
    Does Tryz.prog RDR5 Q (factsAt (factsDR5 p id fa ta fl fc tl tc b)) 1 c w := by
  have ho : RDR5[1]? = some ({ dst := some 19, op := Op.unOp UnOp.not 4 (Operand.tmp 18), type := 4, pos := "edit.go:101", after := #[{ on := 0, ground := Ground.data }], guard := none } : Oper) := by kernel_rfl
  have e18 : c.eval (.tmp 18) = .bool false := fact_at (p := eqv (.bool false)) (by kernel_rfl) rfl (hF 0 (by decide))
  have hw : Region.wanted ({ dst := some 19, op := Op.unOp UnOp.not 4 (Operand.tmp 18), type := 4, pos := "edit.go:101", after := #[{ on := 0, ground := Ground.data }], guard := none } : Oper) (yielded RDR5 c.tmps) = true := want_none rfl
  have ec : ∀ v, c.eval (.const v) = v := fun _ => rfl
  have ef : ∀ f, c.eval (.func f) = .func (.func f) #[] #[] := fun _ => rfl
  refine does_value ho hw (v := .bool true) ?_ rfl (Below.refl _ _)
  generalize c.eval = ρ at *
  clear hF hb hW hw ho
  go_simp

set_option maxRecDepth 10000 in
theorem oDR5_2 (p : GP) (id : Int) (fa ta : Option Addr) (fl fc tl tc : Nat) (b : Bool) (Q : Exit → Act → World → Prop) (c : Act) (w : World) (hb : BaseDR5 p id fa ta fl fc tl tc b c) (hW : WorldDR5 p id fa ta fl fc tl tc b w) (hF : ∀ q0 ∈ ancDR5 2, factsAt (factsDR5 p id fa ta fl fc tl tc b) q0 (val RDR5 c q0) w) :
    Does Tryz.prog RDR5 Q (factsAt (factsDR5 p id fa ta fl fc tl tc b)) 2 c w := by
  have ho : RDR5[2]? = some ({ dst := some 20, op := Op.move (Operand.tmp 19), type := 4, pos := "edit.go:101", after := #[{ on := 1, ground := Ground.data }], guard := none } : Oper) := by kernel_rfl
  have e19 : c.eval (.tmp 19) = .bool true := fact_at (p := eqv (.bool true)) (by kernel_rfl) rfl (hF 1 (by decide))
  have hw : Region.wanted ({ dst := some 20, op := Op.move (Operand.tmp 19), type := 4, pos := "edit.go:101", after := #[{ on := 1, ground := Ground.data }], guard := none } : Oper) (yielded RDR5 c.tmps) = true := want_none rfl
  have ec : ∀ v, c.eval (.const v) = v := fun _ => rfl
  have ef : ∀ f, c.eval (.func f) = .func (.func f) #[] #[] := fun _ => rfl
  refine does_value ho hw (v := .bool true) ?_ rfl (Below.refl _ _)
  generalize c.eval = ρ at *
  clear hF hb hW hw ho
  go_simp

set_option maxRecDepth 10000 in
theorem oDR5_3 (p : GP) (id : Int) (fa ta : Option Addr) (fl fc tl tc : Nat) (b : Bool) (Q : Exit → Act → World → Prop) (c : Act) (w : World) (hb : BaseDR5 p id fa ta fl fc tl tc b c) (hW : WorldDR5 p id fa ta fl fc tl tc b w) (hF : ∀ q0 ∈ ancDR5 3, factsAt (factsDR5 p id fa ta fl fc tl tc b) q0 (val RDR5 c q0) w) :
    Does Tryz.prog RDR5 Q (factsAt (factsDR5 p id fa ta fl fc tl tc b)) 3 c w := by
  have ho : RDR5[3]? = some ({ dst := some 21, op := Op.move (Operand.tmp 0), type := 31, pos := "edit.go:101", after := #[{ on := 2, ground := Ground.guard }], guard := some (2, true) } : Oper) := by kernel_rfl
  have e0 := hb.t0
  have hg : val RDR5 c 2 = .bool true := hF 2 (by decide)
  have hw : Region.wanted ({ dst := some 21, op := Op.move (Operand.tmp 0), type := 31, pos := "edit.go:101", after := #[{ on := 2, ground := Ground.guard }], guard := some (2, true) } : Oper) (yielded RDR5 c.tmps) = true := want_eq rfl hg
  have ec : ∀ v, c.eval (.const v) = v := fun _ => rfl
  have ef : ∀ f, c.eval (.func f) = .func (.func f) #[] #[] := fun _ => rfl
  refine does_value ho hw (v := .pointer (some ⟨p.g, 0, none⟩)) ?_ rfl (Below.refl _ _)
  generalize c.eval = ρ at *
  clear hF hb hW hw ho hg
  go_simp

set_option maxRecDepth 10000 in
theorem oDR5_4 (p : GP) (id : Int) (fa ta : Option Addr) (fl fc tl tc : Nat) (b : Bool) (Q : Exit → Act → World → Prop) (c : Act) (w : World) (hb : BaseDR5 p id fa ta fl fc tl tc b c) (hW : WorldDR5 p id fa ta fl fc tl tc b w) (hF : ∀ q0 ∈ ancDR5 4, factsAt (factsDR5 p id fa ta fl fc tl tc b) q0 (val RDR5 c q0) w) :
    Does Tryz.prog RDR5 Q (factsAt (factsDR5 p id fa ta fl fc tl tc b)) 4 c w := by
  have ho : RDR5[4]? = some ({ dst := some 22, op := Op.nilCheck (Operand.tmp 21), type := 0, pos := "edit.go:101", after := #[{ on := 3, ground := Ground.data }, { on := 2, ground := Ground.guard }], guard := some (2, true) } : Oper) := by kernel_rfl
  have e21 : c.eval (.tmp 21) = .pointer (some ⟨p.g, 0, none⟩) := fact_at (p := eqv (.pointer (some ⟨p.g, 0, none⟩))) (by kernel_rfl) rfl (hF 3 (by decide))
  have hg : val RDR5 c 2 = .bool true := hF 2 (by decide)
  have hw : Region.wanted ({ dst := some 22, op := Op.nilCheck (Operand.tmp 21), type := 0, pos := "edit.go:101", after := #[{ on := 3, ground := Ground.data }, { on := 2, ground := Ground.guard }], guard := some (2, true) } : Oper) (yielded RDR5 c.tmps) = true := want_eq rfl hg
  have ec : ∀ v, c.eval (.const v) = v := fun _ => rfl
  have ef : ∀ f, c.eval (.func f) = .func (.func f) #[] #[] := fun _ => rfl
  refine does_value ho hw (v := .pointer (some ⟨p.g, 0, none⟩)) ?_ rfl (Below.refl _ _)
  generalize c.eval = ρ at *
  clear hF hb hW hw ho hg
  go_simp

set_option maxRecDepth 10000 in
theorem oDR5_5 (p : GP) (id : Int) (fa ta : Option Addr) (fl fc tl tc : Nat) (b : Bool) (Q : Exit → Act → World → Prop) (c : Act) (w : World) (hb : BaseDR5 p id fa ta fl fc tl tc b c) (hW : WorldDR5 p id fa ta fl fc tl tc b w) (hF : ∀ q0 ∈ ancDR5 5, factsAt (factsDR5 p id fa ta fl fc tl tc b) q0 (val RDR5 c q0) w) :
    Does Tryz.prog RDR5 Q (factsAt (factsDR5 p id fa ta fl fc tl tc b)) 5 c w := by
  have ho : RDR5[5]? = some ({ dst := some 23, op := Op.fieldAddr 74 (Operand.tmp 22) 1, type := 0, pos := "edit.go:101", after := #[{ on := 4, ground := Ground.data }, { on := 2, ground := Ground.guard }], guard := some (2, true) } : Oper) := by kernel_rfl
  have e22 : c.eval (.tmp 22) = .pointer (some ⟨p.g, 0, none⟩) := fact_at (p := eqv (.pointer (some ⟨p.g, 0, none⟩))) (by kernel_rfl) rfl (hF 4 (by decide))
  have hg : val RDR5 c 2 = .bool true := hF 2 (by decide)
  have hw : Region.wanted ({ dst := some 23, op := Op.fieldAddr 74 (Operand.tmp 22) 1, type := 0, pos := "edit.go:101", after := #[{ on := 4, ground := Ground.data }, { on := 2, ground := Ground.guard }], guard := some (2, true) } : Oper) (yielded RDR5 c.tmps) = true := want_eq rfl hg
  have ec : ∀ v, c.eval (.const v) = v := fun _ => rfl
  have ef : ∀ f, c.eval (.func f) = .func (.func f) #[] #[] := fun _ => rfl
  refine does_value ho hw (v := .pointer (some ⟨p.g, 4, none⟩)) ?_ rfl (Below.refl _ _)
  generalize c.eval = ρ at *
  clear hF hb hW hw ho hg
  go_simp

set_option maxRecDepth 10000 in
theorem oDR5_6 (p : GP) (id : Int) (fa ta : Option Addr) (fl fc tl tc : Nat) (b : Bool) (Q : Exit → Act → World → Prop) (c : Act) (w : World) (hb : BaseDR5 p id fa ta fl fc tl tc b c) (hW : WorldDR5 p id fa ta fl fc tl tc b w) (hF : ∀ q0 ∈ ancDR5 6, factsAt (factsDR5 p id fa ta fl fc tl tc b) q0 (val RDR5 c q0) w) :
    Does Tryz.prog RDR5 Q (factsAt (factsDR5 p id fa ta fl fc tl tc b)) 6 c w := by
  have ho : RDR5[6]? = some ({ dst := some 24, op := Op.load 72 (Operand.tmp 23), type := 72, pos := "edit.go:101", after := #[{ on := 5, ground := Ground.data }, { on := 2, ground := Ground.guard }], guard := some (2, true) } : Oper) := by kernel_rfl
  have e23 : c.eval (.tmp 23) = .pointer (some ⟨p.g, 4, none⟩) := fact_at (p := eqv (.pointer (some ⟨p.g, 4, none⟩))) (by kernel_rfl) rfl (hF 5 (by decide))
  have hg : val RDR5 c 2 = .bool true := hF 2 (by decide)
  have hw : Region.wanted ({ dst := some 24, op := Op.load 72 (Operand.tmp 23), type := 72, pos := "edit.go:101", after := #[{ on := 5, ground := Ground.data }, { on := 2, ground := Ground.guard }], guard := some (2, true) } : Oper) (yielded RDR5 c.tmps) = true := want_eq rfl hg
  have ec : ∀ v, c.eval (.const v) = v := fun _ => rfl
  have ef : ∀ f, c.eval (.func f) = .func (.func f) #[] #[] := fun _ => rfl
  have c4 := hW.c4
  refine does_value ho hw (v := .map (some p.f)) ?_ rfl (Below.refl _ _)
  generalize c.eval = ρ at *
  clear hF hb hW hw ho hg
  go_simp

set_option maxRecDepth 10000 in
theorem oDR5_7 (p : GP) (id : Int) (fa ta : Option Addr) (fl fc tl tc : Nat) (b : Bool) (Q : Exit → Act → World → Prop) (c : Act) (w : World) (hb : BaseDR5 p id fa ta fl fc tl tc b c) (hW : WorldDR5 p id fa ta fl fc tl tc b w) (hF : ∀ q0 ∈ ancDR5 7, factsAt (factsDR5 p id fa ta fl fc tl tc b) q0 (val RDR5 c q0) w) :
    Does Tryz.prog RDR5 Q (factsAt (factsDR5 p id fa ta fl fc tl tc b)) 7 c w := by
  have ho : RDR5[7]? = some ({ dst := some 25, op := Op.move (Operand.tmp 2), type := 2, pos := "edit.go:101", after := #[{ on := 2, ground := Ground.guard }], guard := some (2, true) } : Oper) := by kernel_rfl
  have e2 := hb.t2
  have hg : val RDR5 c 2 = .bool true := hF 2 (by decide)
  have hw : Region.wanted ({ dst := some 25, op := Op.move (Operand.tmp 2), type := 2, pos := "edit.go:101", after := #[{ on := 2, ground := Ground.guard }], guard := some (2, true) } : Oper) (yielded RDR5 c.tmps) = true := want_eq rfl hg
  have ec : ∀ v, c.eval (.const v) = v := fun _ => rfl
  have ef : ∀ f, c.eval (.func f) = .func (.func f) #[] #[] := fun _ => rfl
  refine does_value ho hw (v := .int .i64 id) ?_ rfl (Below.refl _ _)
  generalize c.eval = ρ at *
  clear hF hb hW hw ho hg
  go_simp

set_option maxRecDepth 10000 in
theorem oDR5_8 (p : GP) (id : Int) (fa ta : Option Addr) (fl fc tl tc : Nat) (b : Bool) (Q : Exit → Act → World → Prop) (c : Act) (w : World) (hb : BaseDR5 p id fa ta fl fc tl tc b c) (hW : WorldDR5 p id fa ta fl fc tl tc b w) (hF : ∀ q0 ∈ ancDR5 8, factsAt (factsDR5 p id fa ta fl fc tl tc b) q0 (val RDR5 c q0) w) :
    Does Tryz.prog RDR5 Q (factsAt (factsDR5 p id fa ta fl fc tl tc b)) 8 c w := by
  have ho : RDR5[8]? = some ({ dst := some 26, op := Op.lookup 72 (Operand.tmp 24) (Operand.tmp 25) false, type := 100, pos := "edit.go:101", after := #[{ on := 6, ground := Ground.data }, { on := 7, ground := Ground.data }, { on := 2, ground := Ground.guard }], guard := some (2, true) } : Oper) := by kernel_rfl
  have e24 : c.eval (.tmp 24) = .map (some p.f) := fact_at (p := eqv (.map (some p.f))) (by kernel_rfl) rfl (hF 6 (by decide))
  have e25 : c.eval (.tmp 25) = .int .i64 id := fact_at (p := eqv (.int .i64 id)) (by kernel_rfl) rfl (hF 7 (by decide))
  have hg : val RDR5 c 2 = .bool true := hF 2 (by decide)
  have hw : Region.wanted ({ dst := some 26, op := Op.lookup 72 (Operand.tmp 24) (Operand.tmp 25) false, type := 100, pos := "edit.go:101", after := #[{ on := 6, ground := Ground.data }, { on := 7, ground := Ground.data }, { on := 2, ground := Ground.guard }], guard := some (2, true) } : Oper) (yielded RDR5 c.tmps) = true := want_eq rfl hg
  have ec : ∀ v, c.eval (.const v) = v := fun _ => rfl
  have ef : ∀ f, c.eval (.func f) = .func (.func f) #[] #[] := fun _ => rfl
  have l4 := hW.l4
  refine does_value ho hw (v := .slice fa fl fc) ?_ rfl (Below.refl _ _)
  generalize c.eval = ρ at *
  clear hF hb hW hw ho hg
  go_simp

set_option maxRecDepth 10000 in
theorem oDR5_9 (p : GP) (id : Int) (fa ta : Option Addr) (fl fc tl tc : Nat) (b : Bool) (Q : Exit → Act → World → Prop) (c : Act) (w : World) (hb : BaseDR5 p id fa ta fl fc tl tc b c) (hW : WorldDR5 p id fa ta fl fc tl tc b w) (hF : ∀ q0 ∈ ancDR5 9, factsAt (factsDR5 p id fa ta fl fc tl tc b) q0 (val RDR5 c q0) w) :
    Does Tryz.prog RDR5 Q (factsAt (factsDR5 p id fa ta fl fc tl tc b)) 9 c w := by
  have ho : RDR5[9]? = some ({ dst := some 27, op := Op.call { callee := Callee.builtin Builtin.len, args := #[Operand.tmp 26], argTypes := #[100] }, type := 3, pos := "edit.go:101", after := #[{ on := 8, ground := Ground.data }, { on := 2, ground := Ground.guard }], guard := some (2, true) } : Oper) := by kernel_rfl
  have e26 : c.eval (.tmp 26) = .slice fa fl fc := fact_at (p := eqv (.slice fa fl fc)) (by kernel_rfl) rfl (hF 8 (by decide))
  have hg : val RDR5 c 2 = .bool true := hF 2 (by decide)
  have hw : Region.wanted ({ dst := some 27, op := Op.call { callee := Callee.builtin Builtin.len, args := #[Operand.tmp 26], argTypes := #[100] }, type := 3, pos := "edit.go:101", after := #[{ on := 8, ground := Ground.data }, { on := 2, ground := Ground.guard }], guard := some (2, true) } : Oper) (yielded RDR5 c.tmps) = true := want_eq rfl hg
  have ec : ∀ v, c.eval (.const v) = v := fun _ => rfl
  have ef : ∀ f, c.eval (.func f) = .func (.func f) #[] #[] := fun _ => rfl
  refine does_value ho hw (v := .int .i64 (fl : Int)) ?_ rfl (Below.refl _ _)
  generalize c.eval = ρ at *
  clear hF hb hW hw ho hg
  go_simp

set_option maxRecDepth 10000 in
theorem oDR5_10 (p : GP) (id : Int) (fa ta : Option Addr) (fl fc tl tc : Nat) (b : Bool) (Q : Exit → Act → World → Prop) (c : Act) (w : World) (hb : BaseDR5 p id fa ta fl fc tl tc b c) (hW : WorldDR5 p id fa ta fl fc tl tc b w) (hF : ∀ q0 ∈ ancDR5 10, factsAt (factsDR5 p id fa ta fl fc tl tc b) q0 (val RDR5 c q0) w) :
    Does Tryz.prog RDR5 Q (factsAt (factsDR5 p id fa ta fl fc tl tc b)) 10 c w := by
  have ho : RDR5[10]? = some ({ dst := some 28, op := Op.move (Operand.tmp 0), type := 31, pos := "edit.go:101", after := #[{ on := 2, ground := Ground.guard }], guard := some (2, true) } : Oper) := by kernel_rfl
  have e0 := hb.t0
  have hg : val RDR5 c 2 = .bool true := hF 2 (by decide)
  have hw : Region.wanted ({ dst := some 28, op := Op.move (Operand.tmp 0), type := 31, pos := "edit.go:101", after := #[{ on := 2, ground := Ground.guard }], guard := some (2, true) } : Oper) (yielded RDR5 c.tmps) = true := want_eq rfl hg
  have ec : ∀ v, c.eval (.const v) = v := fun _ => rfl
  have ef : ∀ f, c.eval (.func f) = .func (.func f) #[] #[] := fun _ => rfl
  refine does_value ho hw (v := .pointer (some ⟨p.g, 0, none⟩)) ?_ rfl (Below.refl _ _)
  generalize c.eval = ρ at *
  clear hF hb hW hw ho hg
  go_simp

set_option maxRecDepth 10000 in
theorem oDR5_11 (p : GP) (id : Int) (fa ta : Option Addr) (fl fc tl tc : Nat) (b : Bool) (Q : Exit → Act → World → Prop) (c : Act) (w : World) (hb : BaseDR5 p id fa ta fl fc tl tc b c) (hW : WorldDR5 p id fa ta fl fc tl tc b w) (hF : ∀ q0 ∈ ancDR5 11, factsAt (factsDR5 p id fa ta fl fc tl tc b) q0 (val RDR5 c q0) w) :
    Does Tryz.prog RDR5 Q (factsAt (factsDR5 p id fa ta fl fc tl tc b)) 11 c w := by
  have ho : RDR5[11]? = some ({ dst := some 29, op := Op.nilCheck (Operand.tmp 28), type := 0, pos := "edit.go:101", after := #[{ on := 10, ground := Ground.data }, { on := 2, ground := Ground.guard }], guard := some (2, true) } : Oper) := by kernel_rfl
  have e28 : c.eval (.tmp 28) = .pointer (some ⟨p.g, 0, none⟩) := fact_at (p := eqv (.pointer (some ⟨p.g, 0, none⟩))) (by kernel_rfl) rfl (hF 10 (by decide))
  have hg : val RDR5 c 2 = .bool true := hF 2 (by decide)
  have hw : Region.wanted ({ dst := some 29, op := Op.nilCheck (Operand.tmp 28), type := 0, pos := "edit.go:101", after := #[{ on := 10, ground := Ground.data }, { on := 2, ground := Ground.guard }], guard := some (2, true) } : Oper) (yielded RDR5 c.tmps) = true := want_eq rfl hg
  have ec : ∀ v, c.eval (.const v) = v := fun _ => rfl
  have ef : ∀ f, c.eval (.func f) = .func (.func f) #[] #[] := fun _ => rfl
  refine does_value ho hw (v := .pointer (some ⟨p.g, 0, none⟩)) ?_ rfl (Below.refl _ _)
  generalize c.eval = ρ at *
  clear hF hb hW hw ho hg
  go_simp

set_option maxRecDepth 10000 in
theorem oDR5_12 (p : GP) (id : Int) (fa ta : Option Addr) (fl fc tl tc : Nat) (b : Bool) (Q : Exit → Act → World → Prop) (c : Act) (w : World) (hb : BaseDR5 p id fa ta fl fc tl tc b c) (hW : WorldDR5 p id fa ta fl fc tl tc b w) (hF : ∀ q0 ∈ ancDR5 12, factsAt (factsDR5 p id fa ta fl fc tl tc b) q0 (val RDR5 c q0) w) :
    Does Tryz.prog RDR5 Q (factsAt (factsDR5 p id fa ta fl fc tl tc b)) 12 c w := by
  have ho : RDR5[12]? = some ({ dst := some 30, op := Op.fieldAddr 74 (Operand.tmp 29) 2, type := 0, pos := "edit.go:101", after := #[{ on := 11, ground := Ground.data }, { on := 2, ground := Ground.guard }], guard := some (2, true) } : Oper) := by kernel_rfl
  have e29 : c.eval (.tmp 29) = .pointer (some ⟨p.g, 0, none⟩) := fact_at (p := eqv (.pointer (some ⟨p.g, 0, none⟩))) (by kernel_rfl) rfl (hF 11 (by decide))
  have hg : val RDR5 c 2 = .bool true := hF 2 (by decide)
  have hw : Region.wanted ({ dst := some 30, op := Op.fieldAddr 74 (Operand.tmp 29) 2, type := 0, pos := "edit.go:101", after := #[{ on := 11, ground := Ground.data }, { on := 2, ground := Ground.guard }], guard := some (2, true) } : Oper) (yielded RDR5 c.tmps) = true := want_eq rfl hg
  have ec : ∀ v, c.eval (.const v) = v := fun _ => rfl
  have ef : ∀ f, c.eval (.func f) = .func (.func f) #[] #[] := fun _ => rfl
  refine does_value ho hw (v := .pointer (some ⟨p.g, 5, none⟩)) ?_ rfl (Below.refl _ _)
  generalize c.eval = ρ at *
  clear hF hb hW hw ho hg
  go_simp

set_option maxRecDepth 10000 in
theorem oDR5_13 (p : GP) (id : Int) (fa ta : Option Addr) (fl fc tl tc : Nat) (b : Bool) (Q : Exit → Act → World → Prop) (c : Act) (w : World) (hb : BaseDR5 p id fa ta fl fc tl tc b c) (hW : WorldDR5 p id fa ta fl fc tl tc b w) (hF : ∀ q0 ∈ ancDR5 13, factsAt (factsDR5 p id fa ta fl fc tl tc b) q0 (val RDR5 c q0) w) :
    Does Tryz.prog RDR5 Q (factsAt (factsDR5 p id fa ta fl fc tl tc b)) 13 c w := by
  have ho : RDR5[13]? = some ({ dst := some 31, op := Op.load 72 (Operand.tmp 30), type := 72, pos := "edit.go:101", after := #[{ on := 12, ground := Ground.data }, { on := 2, ground := Ground.guard }], guard := some (2, true) } : Oper) := by kernel_rfl
  have e30 : c.eval (.tmp 30) = .pointer (some ⟨p.g, 5, none⟩) := fact_at (p := eqv (.pointer (some ⟨p.g, 5, none⟩))) (by kernel_rfl) rfl (hF 12 (by decide))
  have hg : val RDR5 c 2 = .bool true := hF 2 (by decide)
  have hw : Region.wanted ({ dst := some 31, op := Op.load 72 (Operand.tmp 30), type := 72, pos := "edit.go:101", after := #[{ on := 12, ground := Ground.data }, { on := 2, ground := Ground.guard }], guard := some (2, true) } : Oper) (yielded RDR5 c.tmps) = true := want_eq rfl hg
  have ec : ∀ v, c.eval (.const v) = v := fun _ => rfl
  have ef : ∀ f, c.eval (.func f) = .func (.func f) #[] #[] := fun _ => rfl
  have c5 := hW.c5
  refine does_value ho hw (v := .map (some p.t)) ?_ rfl (Below.refl _ _)
  generalize c.eval = ρ at *
  clear hF hb hW hw ho hg
  go_simp

set_option maxRecDepth 10000 in
theorem oDR5_14 (p : GP) (id : Int) (fa ta : Option Addr) (fl fc tl tc : Nat) (b : Bool) (Q : Exit → Act → World → Prop) (c : Act) (w : World) (hb : BaseDR5 p id fa ta fl fc tl tc b c) (hW : WorldDR5 p id fa ta fl fc tl tc b w) (hF : ∀ q0 ∈ ancDR5 14, factsAt (factsDR5 p id fa ta fl fc tl tc b) q0 (val RDR5 c q0) w) :
    Does Tryz.prog RDR5 Q (factsAt (factsDR5 p id fa ta fl fc tl tc b)) 14 c w := by
  have ho : RDR5[14]? = some ({ dst := some 32, op := Op.move (Operand.tmp 2), type := 2, pos := "edit.go:101", after := #[{ on := 2, ground := Ground.guard }], guard := some (2, true) } : Oper) := by kernel_rfl
  have e2 := hb.t2
  have hg : val RDR5 c 2 = .bool true := hF 2 (by decide)
  have hw : Region.wanted ({ dst := some 32, op := Op.move (Operand.tmp 2), type := 2, pos := "edit.go:101", after := #[{ on := 2, ground := Ground.guard }], guard := some (2, true) } : Oper) (yielded RDR5 c.tmps) = true := want_eq rfl hg
  have ec : ∀ v, c.eval (.const v) = v := fun _ => rfl
  have ef : ∀ f, c.eval (.func f) = .func (.func f) #[] #[] := fun _ => rfl
  refine does_value ho hw (v := .int .i64 id) ?_ rfl (Below.refl _ _)
  generalize c.eval = ρ at *
  clear hF hb hW hw ho hg
  go_simp

set_option maxRecDepth 10000 in
theorem oDR5_15 (p : GP) (id : Int) (fa ta : Option Addr) (fl fc tl tc : Nat) (b : Bool) (Q : Exit → Act → World → Prop) (c : Act) (w : World) (hb : BaseDR5 p id fa ta fl fc tl tc b c) (hW : WorldDR5 p id fa ta fl fc tl tc b w) (hF : ∀ q0 ∈ ancDR5 15, factsAt (factsDR5 p id fa ta fl fc tl tc b) q0 (val RDR5 c q0) w) :
    Does Tryz.prog RDR5 Q (factsAt (factsDR5 p id fa ta fl fc tl tc b)) 15 c w := by
  have ho : RDR5[15]? = some ({ dst := some 33, op := Op.lookup 72 (Operand.tmp 31) (Operand.tmp 32) false, type := 100, pos := "edit.go:101", after := #[{ on := 13, ground := Ground.data }, { on := 14, ground := Ground.data }, { on := 2, ground := Ground.guard }], guard := some (2, true) } : Oper) := by kernel_rfl
  have e31 : c.eval (.tmp 31) = .map (some p.t) := fact_at (p := eqv (.map (some p.t))) (by kernel_rfl) rfl (hF 13 (by decide))
  have e32 : c.eval (.tmp 32) = .int .i64 id := fact_at (p := eqv (.int .i64 id)) (by kernel_rfl) rfl (hF 14 (by decide))
  have hg : val RDR5 c 2 = .bool true := hF 2 (by decide)
  have hw : Region.wanted ({ dst := some 33, op := Op.lookup 72 (Operand.tmp 31) (Operand.tmp 32) false, type := 100, pos := "edit.go:101", after := #[{ on := 13, ground := Ground.data }, { on := 14, ground := Ground.data }, { on := 2, ground := Ground.guard }], guard := some (2, true) } : Oper) (yielded RDR5 c.tmps) = true := want_eq rfl hg
  have ec : ∀ v, c.eval (.const v) = v := fun _ => rfl
  have ef : ∀ f, c.eval (.func f) = .func (.func f) #[] #[] := fun _ => rfl
  have l5 := hW.l5
  refine does_value ho hw (v := .slice ta tl tc) ?_ rfl (Below.refl _ _)
  generalize c.eval = ρ at *
  clear hF hb hW hw ho hg
  go_simp

set_option maxRecDepth 10000 in
theorem oDR5_16 (p : GP) (id : Int) (fa ta : Option Addr) (fl fc tl tc : Nat) (b : Bool) (Q : Exit → Act → World → Prop) (c : Act) (w : World) (hb : BaseDR5 p id fa ta fl fc tl tc b c) (hW : WorldDR5 p id fa ta fl fc tl tc b w) (hF : ∀ q0 ∈ ancDR5 16, factsAt (factsDR5 p id fa ta fl fc tl tc b) q0 (val RDR5 c q0) w) :
    Does Tryz.prog RDR5 Q (factsAt (factsDR5 p id fa ta fl fc tl tc b)) 16 c w := by
  have ho : RDR5[16]? = some ({ dst := some 34, op := Op.call { callee := Callee.builtin Builtin.len, args := #[Operand.tmp 33], argTypes := #[100] }, type := 3, pos := "edit.go:101", after := #[{ on := 15, ground := Ground.data }, { on := 2, ground := Ground.guard }], guard := some (2, true) } : Oper) := by kernel_rfl
  have e33 : c.eval (.tmp 33) = .slice ta tl tc := fact_at (p := eqv (.slice ta tl tc)) (by kernel_rfl) rfl (hF 15 (by decide))
  have hg : val RDR5 c 2 = .bool true := hF 2 (by decide)
  have hw : Region.wanted ({ dst := some 34, op := Op.call { callee := Callee.builtin Builtin.len, args := #[Operand.tmp 33], argTypes := #[100] }, type := 3, pos := "edit.go:101", after := #[{ on := 15, ground := Ground.data }, { on := 2, ground := Ground.guard }], guard := some (2, true) } : Oper) (yielded RDR5 c.tmps) = true := want_eq rfl hg
  have ec : ∀ v, c.eval (.const v) = v := fun _ => rfl
  have ef : ∀ f, c.eval (.func f) = .func (.func f) #[] #[] := fun _ => rfl
  refine does_value ho hw (v := .int .i64 (tl : Int)) ?_ rfl (Below.refl _ _)
  generalize c.eval = ρ at *
  clear hF hb hW hw ho hg
  go_simp

set_option maxRecDepth 10000 in
theorem oDR5_17 (p : GP) (id : Int) (fa ta : Option Addr) (fl fc tl tc : Nat) (b : Bool) (Q : Exit → Act → World → Prop) (c : Act) (w : World) (hb : BaseDR5 p id fa ta fl fc tl tc b c) (hW : WorldDR5 p id fa ta fl fc tl tc b w) (hF : ∀ q0 ∈ ancDR5 17, factsAt (factsDR5 p id fa ta fl fc tl tc b) q0 (val RDR5 c q0) w) :
    Does Tryz.prog RDR5 Q (factsAt (factsDR5 p id fa ta fl fc tl tc b)) 17 c w := by
  have ho : RDR5[17]? = some ({ dst := some 35, op := Op.binOp BinOp.add 3 (Operand.tmp 27) (Operand.tmp 34) 3, type := 3, pos := "edit.go:101", after := #[{ on := 9, ground := Ground.data }, { on := 16, ground := Ground.data }, { on := 2, ground := Ground.guard }], guard := some (2, true) } : Oper) := by kernel_rfl
  have e27 : c.eval (.tmp 27) = .int .i64 (fl : Int) := fact_at (p := eqv (.int .i64 (fl : Int))) (by kernel_rfl) rfl (hF 9 (by decide))
  have e34 : c.eval (.tmp 34) = .int .i64 (tl : Int) := fact_at (p := eqv (.int .i64 (tl : Int))) (by kernel_rfl) rfl (hF 16 (by decide))
  have hg : val RDR5 c 2 = .bool true := hF 2 (by decide)
  have hw : Region.wanted ({ dst := some 35, op := Op.binOp BinOp.add 3 (Operand.tmp 27) (Operand.tmp 34) 3, type := 3, pos := "edit.go:101", after := #[{ on := 9, ground := Ground.data }, { on := 16, ground := Ground.data }, { on := 2, ground := Ground.guard }], guard := some (2, true) } : Oper) (yielded RDR5 c.tmps) = true := want_eq rfl hg
  have ec : ∀ v, c.eval (.const v) = v := fun _ => rfl
  have ef : ∀ f, c.eval (.func f) = .func (.func f) #[] #[] := fun _ => rfl
  have kw := hW.kw
  refine does_value ho hw (v := .int .i64 ((fl : Int) + (tl : Int))) ?_ rfl (Below.refl _ _)
  generalize c.eval = ρ at *
  clear hF hb hW hw ho hg
  go_simp

set_option maxRecDepth 10000 in
theorem oDR5_18 (p : GP) (id : Int) (fa ta : Option Addr) (fl fc tl tc : Nat) (b : Bool) (Q : Exit → Act → World → Prop) (c : Act) (w : World) (hb : BaseDR5 p id fa ta fl fc tl tc b c) (hW : WorldDR5 p id fa ta fl fc tl tc b w) (hF : ∀ q0 ∈ ancDR5 18, factsAt (factsDR5 p id fa ta fl fc tl tc b) q0 (val RDR5 c q0) w) :
    Does Tryz.prog RDR5 Q (factsAt (factsDR5 p id fa ta fl fc tl tc b)) 18 c w := by
  have ho : RDR5[18]? = some ({ dst := some 36, op := Op.binOp BinOp.gtr 3 (Operand.tmp 35) (Operand.const (Value.int IntKind.i64 0)) 3, type := 4, pos := "edit.go:101", after := #[{ on := 17, ground := Ground.data }, { on := 2, ground := Ground.guard }], guard := some (2, true) } : Oper) := by kernel_rfl
  have e35 : c.eval (.tmp 35) = .int .i64 ((fl : Int) + (tl : Int)) := fact_at (p := eqv (.int .i64 ((fl : Int) + (tl : Int)))) (by kernel_rfl) rfl (hF 17 (by decide))
  have hg : val RDR5 c 2 = .bool true := hF 2 (by decide)
  have hw : Region.wanted ({ dst := some 36, op := Op.binOp BinOp.gtr 3 (Operand.tmp 35) (Operand.const (Value.int IntKind.i64 0)) 3, type := 4, pos := "edit.go:101", after := #[{ on := 17, ground := Ground.data }, { on := 2, ground := Ground.guard }], guard := some (2, true) } : Oper) (yielded RDR5 c.tmps) = true := want_eq rfl hg
  have ec : ∀ v, c.eval (.const v) = v := fun _ => rfl
  have ef : ∀ f, c.eval (.func f) = .func (.func f) #[] #[] := fun _ => rfl
  have kg := hW.kg
  refine does_value ho hw (v := .bool b) ?_ rfl (Below.refl _ _)
  generalize c.eval = ρ at *
  clear hF hb hW hw ho hg
  go_simp

set_option maxRecDepth 10000 in
theorem oDR5_19 (p : GP) (id : Int) (fa ta : Option Addr) (fl fc tl tc : Nat) (b : Bool) (Q : Exit → Act → World → Prop) (c : Act) (w : World) (hb : BaseDR5 p id fa ta fl fc tl tc b c) (hW : WorldDR5 p id fa ta fl fc tl tc b w) (hF : ∀ q0 ∈ ancDR5 19, factsAt (factsDR5 p id fa ta fl fc tl tc b) q0 (val RDR5 c q0) w) :
    Does Tryz.prog RDR5 Q (factsAt (factsDR5 p id fa ta fl fc tl tc b)) 19 c w := by
  have ho : RDR5[19]? = some ({ dst := some 37, op := Op.pick (Operand.tmp 20) (Operand.tmp 36) (Operand.const (Value.bool false)), type := 4, pos := "edit.go:101", after := #[{ on := 2, ground := Ground.data }, { on := 18, ground := Ground.data }], guard := none } : Oper) := by kernel_rfl
  have e20 : c.eval (.tmp 20) = .bool true := fact_at (p := eqv (.bool true)) (by kernel_rfl) rfl (hF 2 (by decide))
  have e36 : c.eval (.tmp 36) = .bool b := fact_at (p := eqv (.bool b)) (by kernel_rfl) rfl (hF 18 (by decide))
  have hw : Region.wanted ({ dst := some 37, op := Op.pick (Operand.tmp 20) (Operand.tmp 36) (Operand.const (Value.bool false)), type := 4, pos := "edit.go:101", after := #[{ on := 2, ground := Ground.data }, { on := 18, ground := Ground.data }], guard := none } : Oper) (yielded RDR5 c.tmps) = true := want_none rfl
  have ec : ∀ v, c.eval (.const v) = v := fun _ => rfl
  have ef : ∀ f, c.eval (.func f) = .func (.func f) #[] #[] := fun _ => rfl
  refine does_value ho hw (v := .bool b) ?_ rfl (Below.refl _ _)
  generalize c.eval = ρ at *
  clear hF hb hW hw ho
  go_simp

set_option maxRecDepth 10000 in
theorem oDR5_20 (p : GP) (id : Int) (fa ta : Option Addr) (fl fc tl tc : Nat) (b : Bool) (Q : Exit → Act → World → Prop) (c : Act) (w : World) (hb : BaseDR5 p id fa ta fl fc tl tc b c) (hW : WorldDR5 p id fa ta fl fc tl tc b w) (hF : ∀ q0 ∈ ancDR5 20, factsAt (factsDR5 p id fa ta fl fc tl tc b) q0 (val RDR5 c q0) w) :
    Does Tryz.prog RDR5 Q (factsAt (factsDR5 p id fa ta fl fc tl tc b)) 20 c w := by
  have ho : RDR5[20]? = some ({ dst := some 17, op := Op.assign (Operand.tmp 37), type := 4, pos := "edit.go:101", after := #[{ on := 19, ground := Ground.data }, { on := 2, ground := Ground.chain }], guard := none } : Oper) := by kernel_rfl
  have e37 : c.eval (.tmp 37) = .bool b := fact_at (p := eqv (.bool b)) (by kernel_rfl) rfl (hF 19 (by decide))
  have hw : Region.wanted ({ dst := some 17, op := Op.assign (Operand.tmp 37), type := 4, pos := "edit.go:101", after := #[{ on := 19, ground := Ground.data }, { on := 2, ground := Ground.chain }], guard := none } : Oper) (yielded RDR5 c.tmps) = true := want_none rfl
  have ec : ∀ v, c.eval (.const v) = v := fun _ => rfl
  have ef : ∀ f, c.eval (.func f) = .func (.func f) #[] #[] := fun _ => rfl
  refine does_value ho hw (v := .bool b) ?_ rfl (Below.refl _ _)
  generalize c.eval = ρ at *
  clear hF hb hW hw ho
  go_simp

theorem stableDR5 (p : GP) (id : Int) (fa ta : Option Addr) (fl fc tl tc : Nat) (b : Bool) : ∀ pr ∈ factsDR5 p id fa ta fl fc tl tc b, Stable pr := by
  unfold factsDR5
  refine List.forall_mem_cons.2 ⟨eqv_stable _, ?_⟩
  refine List.forall_mem_cons.2 ⟨eqv_stable _, ?_⟩
  refine List.forall_mem_cons.2 ⟨eqv_stable _, ?_⟩
  refine List.forall_mem_cons.2 ⟨eqv_stable _, ?_⟩
  refine List.forall_mem_cons.2 ⟨eqv_stable _, ?_⟩
  refine List.forall_mem_cons.2 ⟨eqv_stable _, ?_⟩
  refine List.forall_mem_cons.2 ⟨eqv_stable _, ?_⟩
  refine List.forall_mem_cons.2 ⟨eqv_stable _, ?_⟩
  refine List.forall_mem_cons.2 ⟨eqv_stable _, ?_⟩
  refine List.forall_mem_cons.2 ⟨eqv_stable _, ?_⟩
  refine List.forall_mem_cons.2 ⟨eqv_stable _, ?_⟩
  refine List.forall_mem_cons.2 ⟨eqv_stable _, ?_⟩
  refine List.forall_mem_cons.2 ⟨eqv_stable _, ?_⟩
  refine List.forall_mem_cons.2 ⟨eqv_stable _, ?_⟩
  refine List.forall_mem_cons.2 ⟨eqv_stable _, ?_⟩
  refine List.forall_mem_cons.2 ⟨eqv_stable _, ?_⟩
  refine List.forall_mem_cons.2 ⟨eqv_stable _, ?_⟩
  refine List.forall_mem_cons.2 ⟨eqv_stable _, ?_⟩
  refine List.forall_mem_cons.2 ⟨eqv_stable _, ?_⟩
  refine List.forall_mem_cons.2 ⟨eqv_stable _, ?_⟩
  refine List.forall_mem_cons.2 ⟨eqv_stable _, ?_⟩
  exact List.forall_mem_nil _

set_option maxRecDepth 100000 in
theorem allDR5 (p : GP) (id : Int) (fa ta : Option Addr) (fl fc tl tc : Nat) (b : Bool) (Q : Exit → Act → World → Prop) : ∀ i, i < 21 → (fun i => ∀ c w, BaseDR5 p id fa ta fl fc tl tc b c → WorldDR5 p id fa ta fl fc tl tc b w → (∀ q0 ∈ ancDR5 i, factsAt (factsDR5 p id fa ta fl fc tl tc b) q0 (val RDR5 c q0) w) → Does Tryz.prog RDR5 Q (factsAt (factsDR5 p id fa ta fl fc tl tc b)) i c w) i := by
  refine below_succ ?_ (fun c w => oDR5_20 p id fa ta fl fc tl tc b Q c w)
  refine below_succ ?_ (fun c w => oDR5_19 p id fa ta fl fc tl tc b Q c w)
  refine below_succ ?_ (fun c w => oDR5_18 p id fa ta fl fc tl tc b Q c w)
  refine below_succ ?_ (fun c w => oDR5_17 p id fa ta fl fc tl tc b Q c w)
  refine below_succ ?_ (fun c w => oDR5_16 p id fa ta fl fc tl tc b Q c w)
  refine below_succ ?_ (fun c w => oDR5_15 p id fa ta fl fc tl tc b Q c w)
  refine below_succ ?_ (fun c w => oDR5_14 p id fa ta fl fc tl tc b Q c w)
  refine below_succ ?_ (fun c w => oDR5_13 p id fa ta fl fc tl tc b Q c w)
  refine below_succ ?_ (fun c w => oDR5_12 p id fa ta fl fc tl tc b Q c w)
  refine below_succ ?_ (fun c w => oDR5_11 p id fa ta fl fc tl tc b Q c w)
  refine below_succ ?_ (fun c w => oDR5_10 p id fa ta fl fc tl tc b Q c w)
  refine below_succ ?_ (fun c w => oDR5_9 p id fa ta fl fc tl tc b Q c w)
  refine below_succ ?_ (fun c w => oDR5_8 p id fa ta fl fc tl tc b Q c w)
  refine below_succ ?_ (fun c w => oDR5_7 p id fa ta fl fc tl tc b Q c w)
  refine below_succ ?_ (fun c w => oDR5_6 p id fa ta fl fc tl tc b Q c w)
  refine below_succ ?_ (fun c w => oDR5_5 p id fa ta fl fc tl tc b Q c w)
  refine below_succ ?_ (fun c w => oDR5_4 p id fa ta fl fc tl tc b Q c w)
  refine below_succ ?_ (fun c w => oDR5_3 p id fa ta fl fc tl tc b Q c w)
  refine below_succ ?_ (fun c w => oDR5_2 p id fa ta fl fc tl tc b Q c w)
  refine below_succ ?_ (fun c w => oDR5_1 p id fa ta fl fc tl tc b Q c w)
  refine below_succ ?_ (fun c w => oDR5_0 p id fa ta fl fc tl tc b Q c w)
  exact below_zero

theorem regionDR5 (p : GP) (id : Int) (fa ta : Option Addr) (fl fc tl tc : Nat) (b : Bool) (Q : Exit → Act → World → Prop) (base : Act) (w0 : World) (hsz : base.tmps.size = 60) (hb : BaseDR5 p id fa ta fl fc tl tc b base)
    (hW : ∀ w, Below w0.heap.size w0 w → WorldDR5 p id fa ta fl fc tl tc b w) (hQ : ∀ c w, Same RDR5 base c → Below w0.heap.size w0 w → c.eval (.tmp 17) = .bool b → Q .normal c w) : (Code.region 5 RDR5 true).wp Tryz.prog Q base w0 := by
  refine facts_rule (A := ancDR5) (F := factsAt (factsDR5 p id fa ta fl fc tl tc b)) (by kernel_rfl) (by rw [hsz]; kernel_rfl) (fun i v w w' => factsAt_stable (stableDR5 p id fa ta fl fc tl tc b) i v w w') ?_ ?_
  · intro i hi c w hS hB hF
    exact allDR5 p id fa ta fl fc tl tc b Q i (by rwa [show RDR5.size = 21 by kernel_rfl] at hi) c w ⟨(same_eval hS (by kernel_rfl)).trans hb.t0, (same_eval hS (by kernel_rfl)).trans hb.t1, (same_eval hS (by kernel_rfl)).trans hb.t2⟩ (hW w hB) hF
  · intro c w hS hB hF
    exact hQ c w hS hB (fact_at (p := eqv (.bool b)) (by kernel_rfl) rfl (hF 20 (by rw [show RDR5.size = 21 by kernel_rfl]; omega)))
end Go.Proofs.YteddjlbfbpecjaaGreatDoor
