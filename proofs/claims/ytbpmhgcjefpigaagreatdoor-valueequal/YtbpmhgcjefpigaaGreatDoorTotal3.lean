/- A statement that only reads and calls: operation by operation, in whatever order. -/
import Derived.Test.YtbpmhgcjefpigaaGreatDoorComps
import Derived.Test.YtbpmhgcjefpigaaGreatDoorFacts
namespace Go.Proofs.YtbpmhgcjefpigaaGreatDoor
open Go.RowKit Go.WideShapes Go.Shelf
set_option linter.unusedVariables false
set_option linter.unusedSimpArgs false

noncomputable def RX3 : Array Oper := regionAt Tryz.f11 3
def ancX3 (i : Nat) : List Nat := ([[], [], [0, 1], [], [], [3, 4], [], [], [6, 7], [2], [5], [8]] : List (List Nat)).getD i []
def factsX3 (pa pb pc D : Nat) (a0 a1 a2 a3 a4 a5 b0 b1 b2 b3 b4 b5 c0 c1 c2 c3 c4 c5 : Value) (A B C : Tree) : List (Value → World → Prop) :=
  [eqv (.agg #[a0, a1, a2, a3, a4, a5]), eqv (.agg #[b0, b1, b2, b3, b4, b5]), eqv (.int .i64 (compN A B)), eqv (.agg #[b0, b1, b2, b3, b4, b5]), eqv (.agg #[c0, c1, c2, c3, c4, c5]), eqv (.int .i64 (compN B C)), eqv (.agg #[a0, a1, a2, a3, a4, a5]), eqv (.agg #[c0, c1, c2, c3, c4, c5]), eqv (.int .i64 (compN A C)), eqv (.int .i64 (compN A B)), eqv (.int .i64 (compN B C)), eqv (.int .i64 (compN A C))]
structure BaseX3 (pa pb pc D : Nat) (a0 a1 a2 a3 a4 a5 b0 b1 b2 b3 b4 b5 c0 c1 c2 c3 c4 c5 : Value) (A B C : Tree) (c : Act) : Prop where
  t3 : c.eval (.tmp 3) = .pointer (some ⟨pa, 0, none⟩)
  t4 : c.eval (.tmp 4) = .pointer (some ⟨pb, 0, none⟩)
  t5 : c.eval (.tmp 5) = .pointer (some ⟨pc, 0, none⟩)
structure WorldX3 (pa pb pc D : Nat) (a0 a1 a2 a3 a4 a5 b0 b1 b2 b3 b4 b5 c0 c1 c2 c3 c4 c5 : Value) (A B C : Tree) (w : World) : Prop where
  ca0 : w.cell? ⟨pa, 0, none⟩ = some a0
  ca1 : w.cell? ⟨pa, 1, none⟩ = some a1
  ca2 : w.cell? ⟨pa, 2, none⟩ = some a2
  ca3 : w.cell? ⟨pa, 3, none⟩ = some a3
  ca4 : w.cell? ⟨pa, 4, none⟩ = some a4
  ca5 : w.cell? ⟨pa, 5, none⟩ = some a5
  cb0 : w.cell? ⟨pb, 0, none⟩ = some b0
  cb1 : w.cell? ⟨pb, 1, none⟩ = some b1
  cb2 : w.cell? ⟨pb, 2, none⟩ = some b2
  cb3 : w.cell? ⟨pb, 3, none⟩ = some b3
  cb4 : w.cell? ⟨pb, 4, none⟩ = some b4
  cb5 : w.cell? ⟨pb, 5, none⟩ = some b5
  cc0 : w.cell? ⟨pc, 0, none⟩ = some c0
  cc1 : w.cell? ⟨pc, 1, none⟩ = some c1
  cc2 : w.cell? ⟨pc, 2, none⟩ = some c2
  cc3 : w.cell? ⟨pc, 3, none⟩ = some c3
  cc4 : w.cell? ⟨pc, 4, none⟩ = some c4
  cc5 : w.cell? ⟨pc, 5, none⟩ = some c5
  lA : Lies D w (.agg #[a0, a1, a2, a3, a4, a5]) A
  lB : Lies D w (.agg #[b0, b1, b2, b3, b4, b5]) B
  lC : Lies D w (.agg #[c0, c1, c2, c3, c4, c5]) C
  low : D ≤ w.heap.size
  tabs : Tabs w
  mA : Modest A
  mB : Modest B
  mC : Modest C

set_option maxRecDepth 10000 in
theorem oX3_0 (pa pb pc D : Nat) (a0 a1 a2 a3 a4 a5 b0 b1 b2 b3 b4 b5 c0 c1 c2 c3 c4 c5 : Value) (A B C : Tree) (Q : Exit → Act → World → Prop) (c : Act) (w : World) (hb : BaseX3 pa pb pc D a0 a1 a2 a3 a4 a5 b0 b1 b2 b3 b4 b5 c0 c1 c2 c3 c4 c5 A B C c) (hW : WorldX3 pa pb pc D a0 a1 a2 a3 a4 a5 b0 b1 b2 b3 b4 b5 c0 c1 c2 c3 c4 c5 A B C w) (hF : ∀ q0 ∈ ancX3 0, factsAt (factsX3 pa pb pc D a0 a1 a2 a3 a4 a5 b0 b1 b2 b3 b4 b5 c0 c1 c2 c3 c4 c5 A B C) q0 (val RX3 c q0) w) :
    Does Tryz.prog RX3 Q (factsAt (factsX3 pa pb pc D a0 a1 a2 a3 a4 a5 b0 b1 b2 b3 b4 b5 c0 c1 c2 c3 c4 c5 A B C)) 0 c w := by
  have ho : RX3[0]? = some ({ dst := some 35, op := Op.load 26 (Operand.tmp 3), type := 26, pos := "outright.go:13", after := #[], guard := none } : Oper) := by kernel_rfl
  have e3 := hb.t3
  have hw : Region.wanted ({ dst := some 35, op := Op.load 26 (Operand.tmp 3), type := 26, pos := "outright.go:13", after := #[], guard := none } : Oper) (yielded RX3 c.tmps) = true := want_none rfl
  have ec : ∀ v, c.eval (.const v) = v := fun _ => rfl
  have ef : ∀ f, c.eval (.func f) = .func (.func f) #[] #[] := fun _ => rfl
  have ca0 := hW.ca0
  have ca1 := hW.ca1
  have ca2 := hW.ca2
  have ca3 := hW.ca3
  have ca4 := hW.ca4
  have ca5 := hW.ca5
  refine does_value ho hw (v := .agg #[a0, a1, a2, a3, a4, a5]) ?_ rfl (Below.refl _ _)
  generalize c.eval = ρ at *
  clear hF hb hW hw ho
  go_simp

set_option maxRecDepth 10000 in
theorem oX3_1 (pa pb pc D : Nat) (a0 a1 a2 a3 a4 a5 b0 b1 b2 b3 b4 b5 c0 c1 c2 c3 c4 c5 : Value) (A B C : Tree) (Q : Exit → Act → World → Prop) (c : Act) (w : World) (hb : BaseX3 pa pb pc D a0 a1 a2 a3 a4 a5 b0 b1 b2 b3 b4 b5 c0 c1 c2 c3 c4 c5 A B C c) (hW : WorldX3 pa pb pc D a0 a1 a2 a3 a4 a5 b0 b1 b2 b3 b4 b5 c0 c1 c2 c3 c4 c5 A B C w) (hF : ∀ q0 ∈ ancX3 1, factsAt (factsX3 pa pb pc D a0 a1 a2 a3 a4 a5 b0 b1 b2 b3 b4 b5 c0 c1 c2 c3 c4 c5 A B C) q0 (val RX3 c q0) w) :
    Does Tryz.prog RX3 Q (factsAt (factsX3 pa pb pc D a0 a1 a2 a3 a4 a5 b0 b1 b2 b3 b4 b5 c0 c1 c2 c3 c4 c5 A B C)) 1 c w := by
  have ho : RX3[1]? = some ({ dst := some 36, op := Op.load 26 (Operand.tmp 4), type := 26, pos := "outright.go:13", after := #[], guard := none } : Oper) := by kernel_rfl
  have e4 := hb.t4
  have hw : Region.wanted ({ dst := some 36, op := Op.load 26 (Operand.tmp 4), type := 26, pos := "outright.go:13", after := #[], guard := none } : Oper) (yielded RX3 c.tmps) = true := want_none rfl
  have ec : ∀ v, c.eval (.const v) = v := fun _ => rfl
  have ef : ∀ f, c.eval (.func f) = .func (.func f) #[] #[] := fun _ => rfl
  have cb0 := hW.cb0
  have cb1 := hW.cb1
  have cb2 := hW.cb2
  have cb3 := hW.cb3
  have cb4 := hW.cb4
  have cb5 := hW.cb5
  refine does_value ho hw (v := .agg #[b0, b1, b2, b3, b4, b5]) ?_ rfl (Below.refl _ _)
  generalize c.eval = ρ at *
  clear hF hb hW hw ho
  go_simp

set_option maxRecDepth 10000 in
theorem oX3_2 (pa pb pc D : Nat) (a0 a1 a2 a3 a4 a5 b0 b1 b2 b3 b4 b5 c0 c1 c2 c3 c4 c5 : Value) (A B C : Tree) (Q : Exit → Act → World → Prop) (c : Act) (w : World) (hb : BaseX3 pa pb pc D a0 a1 a2 a3 a4 a5 b0 b1 b2 b3 b4 b5 c0 c1 c2 c3 c4 c5 A B C c) (hW : WorldX3 pa pb pc D a0 a1 a2 a3 a4 a5 b0 b1 b2 b3 b4 b5 c0 c1 c2 c3 c4 c5 A B C w) (hF : ∀ q0 ∈ ancX3 2, factsAt (factsX3 pa pb pc D a0 a1 a2 a3 a4 a5 b0 b1 b2 b3 b4 b5 c0 c1 c2 c3 c4 c5 A B C) q0 (val RX3 c q0) w) :
    Does Tryz.prog RX3 Q (factsAt (factsX3 pa pb pc D a0 a1 a2 a3 a4 a5 b0 b1 b2 b3 b4 b5 c0 c1 c2 c3 c4 c5 A B C)) 2 c w := by
  have ho : RX3[2]? = some ({ dst := some 37, op := Op.call { callee := Callee.value (Operand.func 31), args := #[Operand.tmp 35, Operand.tmp 36], argTypes := #[26, 26] }, type := 3, pos := "outright.go:13", after := #[{ on := 0, ground := Ground.data }, { on := 1, ground := Ground.data }], guard := none } : Oper) := by kernel_rfl
  have e35 : c.eval (.tmp 35) = .agg #[a0, a1, a2, a3, a4, a5] := fact_at (p := eqv (.agg #[a0, a1, a2, a3, a4, a5])) (by kernel_rfl) rfl (hF 0 (by decide))
  have e36 : c.eval (.tmp 36) = .agg #[b0, b1, b2, b3, b4, b5] := fact_at (p := eqv (.agg #[b0, b1, b2, b3, b4, b5])) (by kernel_rfl) rfl (hF 1 (by decide))
  have hw : Region.wanted ({ dst := some 37, op := Op.call { callee := Callee.value (Operand.func 31), args := #[Operand.tmp 35, Operand.tmp 36], argTypes := #[26, 26] }, type := 3, pos := "outright.go:13", after := #[{ on := 0, ground := Ground.data }, { on := 1, ground := Ground.data }], guard := none } : Oper) (yielded RX3 c.tmps) = true := want_none rfl
  have ec : ∀ v, c.eval (.const v) = v := fun _ => rfl
  have ef : ∀ f, c.eval (.func f) = .func (.func f) #[] #[] := fun _ => rfl
  refine does_call ho hw (f := 31) (args := #[.agg #[a0, a1, a2, a3, a4, a5], .agg #[b0, b1, b2, b3, b4, b5]]) ?_ (Calls.mono (Compare_any A B D _ _ w hW.low hW.lA hW.lB hW.tabs hW.mA hW.mB) fun e w' ⟨h1, h2⟩ => ⟨_, h1, rfl, h2⟩)
  generalize c.eval = ρ at *
  clear hF hb hW hw ho
  go_simp

set_option maxRecDepth 10000 in
theorem oX3_3 (pa pb pc D : Nat) (a0 a1 a2 a3 a4 a5 b0 b1 b2 b3 b4 b5 c0 c1 c2 c3 c4 c5 : Value) (A B C : Tree) (Q : Exit → Act → World → Prop) (c : Act) (w : World) (hb : BaseX3 pa pb pc D a0 a1 a2 a3 a4 a5 b0 b1 b2 b3 b4 b5 c0 c1 c2 c3 c4 c5 A B C c) (hW : WorldX3 pa pb pc D a0 a1 a2 a3 a4 a5 b0 b1 b2 b3 b4 b5 c0 c1 c2 c3 c4 c5 A B C w) (hF : ∀ q0 ∈ ancX3 3, factsAt (factsX3 pa pb pc D a0 a1 a2 a3 a4 a5 b0 b1 b2 b3 b4 b5 c0 c1 c2 c3 c4 c5 A B C) q0 (val RX3 c q0) w) :
    Does Tryz.prog RX3 Q (factsAt (factsX3 pa pb pc D a0 a1 a2 a3 a4 a5 b0 b1 b2 b3 b4 b5 c0 c1 c2 c3 c4 c5 A B C)) 3 c w := by
  have ho : RX3[3]? = some ({ dst := some 38, op := Op.load 26 (Operand.tmp 4), type := 26, pos := "outright.go:13", after := #[], guard := none } : Oper) := by kernel_rfl
  have e4 := hb.t4
  have hw : Region.wanted ({ dst := some 38, op := Op.load 26 (Operand.tmp 4), type := 26, pos := "outright.go:13", after := #[], guard := none } : Oper) (yielded RX3 c.tmps) = true := want_none rfl
  have ec : ∀ v, c.eval (.const v) = v := fun _ => rfl
  have ef : ∀ f, c.eval (.func f) = .func (.func f) #[] #[] := fun _ => rfl
  have cb0 := hW.cb0
  have cb1 := hW.cb1
  have cb2 := hW.cb2
  have cb3 := hW.cb3
  have cb4 := hW.cb4
  have cb5 := hW.cb5
  refine does_value ho hw (v := .agg #[b0, b1, b2, b3, b4, b5]) ?_ rfl (Below.refl _ _)
  generalize c.eval = ρ at *
  clear hF hb hW hw ho
  go_simp

set_option maxRecDepth 10000 in
theorem oX3_4 (pa pb pc D : Nat) (a0 a1 a2 a3 a4 a5 b0 b1 b2 b3 b4 b5 c0 c1 c2 c3 c4 c5 : Value) (A B C : Tree) (Q : Exit → Act → World → Prop) (c : Act) (w : World) (hb : BaseX3 pa pb pc D a0 a1 a2 a3 a4 a5 b0 b1 b2 b3 b4 b5 c0 c1 c2 c3 c4 c5 A B C c) (hW : WorldX3 pa pb pc D a0 a1 a2 a3 a4 a5 b0 b1 b2 b3 b4 b5 c0 c1 c2 c3 c4 c5 A B C w) (hF : ∀ q0 ∈ ancX3 4, factsAt (factsX3 pa pb pc D a0 a1 a2 a3 a4 a5 b0 b1 b2 b3 b4 b5 c0 c1 c2 c3 c4 c5 A B C) q0 (val RX3 c q0) w) :
    Does Tryz.prog RX3 Q (factsAt (factsX3 pa pb pc D a0 a1 a2 a3 a4 a5 b0 b1 b2 b3 b4 b5 c0 c1 c2 c3 c4 c5 A B C)) 4 c w := by
  have ho : RX3[4]? = some ({ dst := some 39, op := Op.load 26 (Operand.tmp 5), type := 26, pos := "outright.go:13", after := #[], guard := none } : Oper) := by kernel_rfl
  have e5 := hb.t5
  have hw : Region.wanted ({ dst := some 39, op := Op.load 26 (Operand.tmp 5), type := 26, pos := "outright.go:13", after := #[], guard := none } : Oper) (yielded RX3 c.tmps) = true := want_none rfl
  have ec : ∀ v, c.eval (.const v) = v := fun _ => rfl
  have ef : ∀ f, c.eval (.func f) = .func (.func f) #[] #[] := fun _ => rfl
  have cc0 := hW.cc0
  have cc1 := hW.cc1
  have cc2 := hW.cc2
  have cc3 := hW.cc3
  have cc4 := hW.cc4
  have cc5 := hW.cc5
  refine does_value ho hw (v := .agg #[c0, c1, c2, c3, c4, c5]) ?_ rfl (Below.refl _ _)
  generalize c.eval = ρ at *
  clear hF hb hW hw ho
  go_simp

set_option maxRecDepth 10000 in
theorem oX3_5 (pa pb pc D : Nat) (a0 a1 a2 a3 a4 a5 b0 b1 b2 b3 b4 b5 c0 c1 c2 c3 c4 c5 : Value) (A B C : Tree) (Q : Exit → Act → World → Prop) (c : Act) (w : World) (hb : BaseX3 pa pb pc D a0 a1 a2 a3 a4 a5 b0 b1 b2 b3 b4 b5 c0 c1 c2 c3 c4 c5 A B C c) (hW : WorldX3 pa pb pc D a0 a1 a2 a3 a4 a5 b0 b1 b2 b3 b4 b5 c0 c1 c2 c3 c4 c5 A B C w) (hF : ∀ q0 ∈ ancX3 5, factsAt (factsX3 pa pb pc D a0 a1 a2 a3 a4 a5 b0 b1 b2 b3 b4 b5 c0 c1 c2 c3 c4 c5 A B C) q0 (val RX3 c q0) w) :
    Does Tryz.prog RX3 Q (factsAt (factsX3 pa pb pc D a0 a1 a2 a3 a4 a5 b0 b1 b2 b3 b4 b5 c0 c1 c2 c3 c4 c5 A B C)) 5 c w := by
  have ho : RX3[5]? = some ({ dst := some 40, op := Op.call { callee := Callee.value (Operand.func 31), args := #[Operand.tmp 38, Operand.tmp 39], argTypes := #[26, 26] }, type := 3, pos := "outright.go:13", after := #[{ on := 3, ground := Ground.data }, { on := 4, ground := Ground.data }, { on := 2, ground := Ground.chain }], guard := none } : Oper) := by kernel_rfl
  have e38 : c.eval (.tmp 38) = .agg #[b0, b1, b2, b3, b4, b5] := fact_at (p := eqv (.agg #[b0, b1, b2, b3, b4, b5])) (by kernel_rfl) rfl (hF 3 (by decide))
  have e39 : c.eval (.tmp 39) = .agg #[c0, c1, c2, c3, c4, c5] := fact_at (p := eqv (.agg #[c0, c1, c2, c3, c4, c5])) (by kernel_rfl) rfl (hF 4 (by decide))
  have hw : Region.wanted ({ dst := some 40, op := Op.call { callee := Callee.value (Operand.func 31), args := #[Operand.tmp 38, Operand.tmp 39], argTypes := #[26, 26] }, type := 3, pos := "outright.go:13", after := #[{ on := 3, ground := Ground.data }, { on := 4, ground := Ground.data }, { on := 2, ground := Ground.chain }], guard := none } : Oper) (yielded RX3 c.tmps) = true := want_none rfl
  have ec : ∀ v, c.eval (.const v) = v := fun _ => rfl
  have ef : ∀ f, c.eval (.func f) = .func (.func f) #[] #[] := fun _ => rfl
  refine does_call ho hw (f := 31) (args := #[.agg #[b0, b1, b2, b3, b4, b5], .agg #[c0, c1, c2, c3, c4, c5]]) ?_ (Calls.mono (Compare_any B C D _ _ w hW.low hW.lB hW.lC hW.tabs hW.mB hW.mC) fun e w' ⟨h1, h2⟩ => ⟨_, h1, rfl, h2⟩)
  generalize c.eval = ρ at *
  clear hF hb hW hw ho
  go_simp

set_option maxRecDepth 10000 in
theorem oX3_6 (pa pb pc D : Nat) (a0 a1 a2 a3 a4 a5 b0 b1 b2 b3 b4 b5 c0 c1 c2 c3 c4 c5 : Value) (A B C : Tree) (Q : Exit → Act → World → Prop) (c : Act) (w : World) (hb : BaseX3 pa pb pc D a0 a1 a2 a3 a4 a5 b0 b1 b2 b3 b4 b5 c0 c1 c2 c3 c4 c5 A B C c) (hW : WorldX3 pa pb pc D a0 a1 a2 a3 a4 a5 b0 b1 b2 b3 b4 b5 c0 c1 c2 c3 c4 c5 A B C w) (hF : ∀ q0 ∈ ancX3 6, factsAt (factsX3 pa pb pc D a0 a1 a2 a3 a4 a5 b0 b1 b2 b3 b4 b5 c0 c1 c2 c3 c4 c5 A B C) q0 (val RX3 c q0) w) :
    Does Tryz.prog RX3 Q (factsAt (factsX3 pa pb pc D a0 a1 a2 a3 a4 a5 b0 b1 b2 b3 b4 b5 c0 c1 c2 c3 c4 c5 A B C)) 6 c w := by
  have ho : RX3[6]? = some ({ dst := some 41, op := Op.load 26 (Operand.tmp 3), type := 26, pos := "outright.go:13", after := #[], guard := none } : Oper) := by kernel_rfl
  have e3 := hb.t3
  have hw : Region.wanted ({ dst := some 41, op := Op.load 26 (Operand.tmp 3), type := 26, pos := "outright.go:13", after := #[], guard := none } : Oper) (yielded RX3 c.tmps) = true := want_none rfl
  have ec : ∀ v, c.eval (.const v) = v := fun _ => rfl
  have ef : ∀ f, c.eval (.func f) = .func (.func f) #[] #[] := fun _ => rfl
  have ca0 := hW.ca0
  have ca1 := hW.ca1
  have ca2 := hW.ca2
  have ca3 := hW.ca3
  have ca4 := hW.ca4
  have ca5 := hW.ca5
  refine does_value ho hw (v := .agg #[a0, a1, a2, a3, a4, a5]) ?_ rfl (Below.refl _ _)
  generalize c.eval = ρ at *
  clear hF hb hW hw ho
  go_simp

set_option maxRecDepth 10000 in
theorem oX3_7 (pa pb pc D : Nat) (a0 a1 a2 a3 a4 a5 b0 b1 b2 b3 b4 b5 c0 c1 c2 c3 c4 c5 : Value) (A B C : Tree) (Q : Exit → Act → World → Prop) (c : Act) (w : World) (hb : BaseX3 pa pb pc D a0 a1 a2 a3 a4 a5 b0 b1 b2 b3 b4 b5 c0 c1 c2 c3 c4 c5 A B C c) (hW : WorldX3 pa pb pc D a0 a1 a2 a3 a4 a5 b0 b1 b2 b3 b4 b5 c0 c1 c2 c3 c4 c5 A B C w) (hF : ∀ q0 ∈ ancX3 7, factsAt (factsX3 pa pb pc D a0 a1 a2 a3 a4 a5 b0 b1 b2 b3 b4 b5 c0 c1 c2 c3 c4 c5 A B C) q0 (val RX3 c q0) w) :
    Does Tryz.prog RX3 Q (factsAt (factsX3 pa pb pc D a0 a1 a2 a3 a4 a5 b0 b1 b2 b3 b4 b5 c0 c1 c2 c3 c4 c5 A B C)) 7 c w := by
  have ho : RX3[7]? = some ({ dst := some 42, op := Op.load 26 (Operand.tmp 5), type := 26, pos := "outright.go:13", after := #[], guard := none } : Oper) := by kernel_rfl
  have e5 := hb.t5
  have hw : Region.wanted ({ dst := some 42, op := Op.load 26 (Operand.tmp 5), type := 26, pos := "outright.go:13", after := #[], guard := none } : Oper) (yielded RX3 c.tmps) = true := want_none rfl
  have ec : ∀ v, c.eval (.const v) = v := fun _ => rfl
  have ef : ∀ f, c.eval (.func f) = .func (.func f) #[] #[] := fun _ => rfl
  have cc0 := hW.cc0
  have cc1 := hW.cc1
  have cc2 := hW.cc2
  have cc3 := hW.cc3
  have cc4 := hW.cc4
  have cc5 := hW.cc5
  refine does_value ho hw (v := .agg #[c0, c1, c2, c3, c4, c5]) ?_ rfl (Below.refl _ _)
  generalize c.eval = ρ at *
  clear hF hb hW hw ho
  go_simp

set_option maxRecDepth 10000 in
theorem oX3_8 (pa pb pc D : Nat) (a0 a1 a2 a3 a4 a5 b0 b1 b2 b3 b4 b5 c0 c1 c2 c3 c4 c5 : Value) (A B C : Tree) (Q : Exit → Act → World → Prop) (c : Act) (w : World) (hb : BaseX3 pa pb pc D a0 a1 a2 a3 a4 a5 b0 b1 b2 b3 b4 b5 c0 c1 c2 c3 c4 c5 A B C c) (hW : WorldX3 pa pb pc D a0 a1 a2 a3 a4 a5 b0 b1 b2 b3 b4 b5 c0 c1 c2 c3 c4 c5 A B C w) (hF : ∀ q0 ∈ ancX3 8, factsAt (factsX3 pa pb pc D a0 a1 a2 a3 a4 a5 b0 b1 b2 b3 b4 b5 c0 c1 c2 c3 c4 c5 A B C) q0 (val RX3 c q0) w) :
    Does Tryz.prog RX3 Q (factsAt (factsX3 pa pb pc D a0 a1 a2 a3 a4 a5 b0 b1 b2 b3 b4 b5 c0 c1 c2 c3 c4 c5 A B C)) 8 c w := by
  have ho : RX3[8]? = some ({ dst := some 43, op := Op.call { callee := Callee.value (Operand.func 31), args := #[Operand.tmp 41, Operand.tmp 42], argTypes := #[26, 26] }, type := 3, pos := "outright.go:13", after := #[{ on := 6, ground := Ground.data }, { on := 7, ground := Ground.data }, { on := 5, ground := Ground.chain }], guard := none } : Oper) := by kernel_rfl
  have e41 : c.eval (.tmp 41) = .agg #[a0, a1, a2, a3, a4, a5] := fact_at (p := eqv (.agg #[a0, a1, a2, a3, a4, a5])) (by kernel_rfl) rfl (hF 6 (by decide))
  have e42 : c.eval (.tmp 42) = .agg #[c0, c1, c2, c3, c4, c5] := fact_at (p := eqv (.agg #[c0, c1, c2, c3, c4, c5])) (by kernel_rfl) rfl (hF 7 (by decide))
  have hw : Region.wanted ({ dst := some 43, op := Op.call { callee := Callee.value (Operand.func 31), args := #[Operand.tmp 41, Operand.tmp 42], argTypes := #[26, 26] }, type := 3, pos := "outright.go:13", after := #[{ on := 6, ground := Ground.data }, { on := 7, ground := Ground.data }, { on := 5, ground := Ground.chain }], guard := none } : Oper) (yielded RX3 c.tmps) = true := want_none rfl
  have ec : ∀ v, c.eval (.const v) = v := fun _ => rfl
  have ef : ∀ f, c.eval (.func f) = .func (.func f) #[] #[] := fun _ => rfl
  refine does_call ho hw (f := 31) (args := #[.agg #[a0, a1, a2, a3, a4, a5], .agg #[c0, c1, c2, c3, c4, c5]]) ?_ (Calls.mono (Compare_any A C D _ _ w hW.low hW.lA hW.lC hW.tabs hW.mA hW.mC) fun e w' ⟨h1, h2⟩ => ⟨_, h1, rfl, h2⟩)
  generalize c.eval = ρ at *
  clear hF hb hW hw ho
  go_simp

set_option maxRecDepth 10000 in
theorem oX3_9 (pa pb pc D : Nat) (a0 a1 a2 a3 a4 a5 b0 b1 b2 b3 b4 b5 c0 c1 c2 c3 c4 c5 : Value) (A B C : Tree) (Q : Exit → Act → World → Prop) (c : Act) (w : World) (hb : BaseX3 pa pb pc D a0 a1 a2 a3 a4 a5 b0 b1 b2 b3 b4 b5 c0 c1 c2 c3 c4 c5 A B C c) (hW : WorldX3 pa pb pc D a0 a1 a2 a3 a4 a5 b0 b1 b2 b3 b4 b5 c0 c1 c2 c3 c4 c5 A B C w) (hF : ∀ q0 ∈ ancX3 9, factsAt (factsX3 pa pb pc D a0 a1 a2 a3 a4 a5 b0 b1 b2 b3 b4 b5 c0 c1 c2 c3 c4 c5 A B C) q0 (val RX3 c q0) w) :
    Does Tryz.prog RX3 Q (factsAt (factsX3 pa pb pc D a0 a1 a2 a3 a4 a5 b0 b1 b2 b3 b4 b5 c0 c1 c2 c3 c4 c5 A B C)) 9 c w := by
  have ho : RX3[9]? = some ({ dst := some 7, op := Op.assign (Operand.tmp 37), type := 3, pos := "outright.go:13", after := #[{ on := 2, ground := Ground.data }, { on := 8, ground := Ground.chain }, { on := 0, ground := Ground.phase }, { on := 1, ground := Ground.phase }, { on := 2, ground := Ground.phase }, { on := 3, ground := Ground.textOnly Departure.lateStores }, { on := 4, ground := Ground.textOnly Departure.lateStores }, { on := 5, ground := Ground.textOnly Departure.lateStoresUnsure }, { on := 6, ground := Ground.textOnly Departure.lateStores }, { on := 7, ground := Ground.textOnly Departure.lateStores }, { on := 8, ground := Ground.textOnly Departure.lateStoresUnsure }], guard := none } : Oper) := by kernel_rfl
  have e37 : c.eval (.tmp 37) = .int .i64 (compN A B) := fact_at (p := eqv (.int .i64 (compN A B))) (by kernel_rfl) rfl (hF 2 (by decide))
  have hw : Region.wanted ({ dst := some 7, op := Op.assign (Operand.tmp 37), type := 3, pos := "outright.go:13", after := #[{ on := 2, ground := Ground.data }, { on := 8, ground := Ground.chain }, { on := 0, ground := Ground.phase }, { on := 1, ground := Ground.phase }, { on := 2, ground := Ground.phase }, { on := 3, ground := Ground.textOnly Departure.lateStores }, { on := 4, ground := Ground.textOnly Departure.lateStores }, { on := 5, ground := Ground.textOnly Departure.lateStoresUnsure }, { on := 6, ground := Ground.textOnly Departure.lateStores }, { on := 7, ground := Ground.textOnly Departure.lateStores }, { on := 8, ground := Ground.textOnly Departure.lateStoresUnsure }], guard := none } : Oper) (yielded RX3 c.tmps) = true := want_none rfl
  have ec : ∀ v, c.eval (.const v) = v := fun _ => rfl
  have ef : ∀ f, c.eval (.func f) = .func (.func f) #[] #[] := fun _ => rfl
  refine does_value ho hw (v := .int .i64 (compN A B)) ?_ rfl (Below.refl _ _)
  generalize c.eval = ρ at *
  clear hF hb hW hw ho
  go_simp

set_option maxRecDepth 10000 in
theorem oX3_10 (pa pb pc D : Nat) (a0 a1 a2 a3 a4 a5 b0 b1 b2 b3 b4 b5 c0 c1 c2 c3 c4 c5 : Value) (A B C : Tree) (Q : Exit → Act → World → Prop) (c : Act) (w : World) (hb : BaseX3 pa pb pc D a0 a1 a2 a3 a4 a5 b0 b1 b2 b3 b4 b5 c0 c1 c2 c3 c4 c5 A B C c) (hW : WorldX3 pa pb pc D a0 a1 a2 a3 a4 a5 b0 b1 b2 b3 b4 b5 c0 c1 c2 c3 c4 c5 A B C w) (hF : ∀ q0 ∈ ancX3 10, factsAt (factsX3 pa pb pc D a0 a1 a2 a3 a4 a5 b0 b1 b2 b3 b4 b5 c0 c1 c2 c3 c4 c5 A B C) q0 (val RX3 c q0) w) :
    Does Tryz.prog RX3 Q (factsAt (factsX3 pa pb pc D a0 a1 a2 a3 a4 a5 b0 b1 b2 b3 b4 b5 c0 c1 c2 c3 c4 c5 A B C)) 10 c w := by
  have ho : RX3[10]? = some ({ dst := some 8, op := Op.assign (Operand.tmp 40), type := 3, pos := "outright.go:13", after := #[{ on := 5, ground := Ground.data }, { on := 9, ground := Ground.chain }, { on := 0, ground := Ground.phase }, { on := 1, ground := Ground.phase }, { on := 2, ground := Ground.phase }, { on := 3, ground := Ground.phase }, { on := 4, ground := Ground.phase }, { on := 5, ground := Ground.phase }, { on := 6, ground := Ground.textOnly Departure.lateStores }, { on := 7, ground := Ground.textOnly Departure.lateStores }, { on := 8, ground := Ground.textOnly Departure.lateStoresUnsure }, { on := 9, ground := Ground.phase }], guard := none } : Oper) := by kernel_rfl
  have e40 : c.eval (.tmp 40) = .int .i64 (compN B C) := fact_at (p := eqv (.int .i64 (compN B C))) (by kernel_rfl) rfl (hF 5 (by decide))
  have hw : Region.wanted ({ dst := some 8, op := Op.assign (Operand.tmp 40), type := 3, pos := "outright.go:13", after := #[{ on := 5, ground := Ground.data }, { on := 9, ground := Ground.chain }, { on := 0, ground := Ground.phase }, { on := 1, ground := Ground.phase }, { on := 2, ground := Ground.phase }, { on := 3, ground := Ground.phase }, { on := 4, ground := Ground.phase }, { on := 5, ground := Ground.phase }, { on := 6, ground := Ground.textOnly Departure.lateStores }, { on := 7, ground := Ground.textOnly Departure.lateStores }, { on := 8, ground := Ground.textOnly Departure.lateStoresUnsure }, { on := 9, ground := Ground.phase }], guard := none } : Oper) (yielded RX3 c.tmps) = true := want_none rfl
  have ec : ∀ v, c.eval (.const v) = v := fun _ => rfl
  have ef : ∀ f, c.eval (.func f) = .func (.func f) #[] #[] := fun _ => rfl
  refine does_value ho hw (v := .int .i64 (compN B C)) ?_ rfl (Below.refl _ _)
  generalize c.eval = ρ at *
  clear hF hb hW hw ho
  go_simp

set_option maxRecDepth 10000 in
theorem oX3_11 (pa pb pc D : Nat) (a0 a1 a2 a3 a4 a5 b0 b1 b2 b3 b4 b5 c0 c1 c2 c3 c4 c5 : Value) (A B C : Tree) (Q : Exit → Act → World → Prop) (c : Act) (w : World) (hb : BaseX3 pa pb pc D a0 a1 a2 a3 a4 a5 b0 b1 b2 b3 b4 b5 c0 c1 c2 c3 c4 c5 A B C c) (hW : WorldX3 pa pb pc D a0 a1 a2 a3 a4 a5 b0 b1 b2 b3 b4 b5 c0 c1 c2 c3 c4 c5 A B C w) (hF : ∀ q0 ∈ ancX3 11, factsAt (factsX3 pa pb pc D a0 a1 a2 a3 a4 a5 b0 b1 b2 b3 b4 b5 c0 c1 c2 c3 c4 c5 A B C) q0 (val RX3 c q0) w) :
    Does Tryz.prog RX3 Q (factsAt (factsX3 pa pb pc D a0 a1 a2 a3 a4 a5 b0 b1 b2 b3 b4 b5 c0 c1 c2 c3 c4 c5 A B C)) 11 c w := by
  have ho : RX3[11]? = some ({ dst := some 9, op := Op.assign (Operand.tmp 43), type := 3, pos := "outright.go:13", after := #[{ on := 8, ground := Ground.data }, { on := 10, ground := Ground.chain }, { on := 0, ground := Ground.phase }, { on := 1, ground := Ground.phase }, { on := 2, ground := Ground.phase }, { on := 3, ground := Ground.phase }, { on := 4, ground := Ground.phase }, { on := 5, ground := Ground.phase }, { on := 6, ground := Ground.phase }, { on := 7, ground := Ground.phase }, { on := 8, ground := Ground.phase }, { on := 9, ground := Ground.phase }, { on := 10, ground := Ground.phase }], guard := none } : Oper) := by kernel_rfl
  have e43 : c.eval (.tmp 43) = .int .i64 (compN A C) := fact_at (p := eqv (.int .i64 (compN A C))) (by kernel_rfl) rfl (hF 8 (by decide))
  have hw : Region.wanted ({ dst := some 9, op := Op.assign (Operand.tmp 43), type := 3, pos := "outright.go:13", after := #[{ on := 8, ground := Ground.data }, { on := 10, ground := Ground.chain }, { on := 0, ground := Ground.phase }, { on := 1, ground := Ground.phase }, { on := 2, ground := Ground.phase }, { on := 3, ground := Ground.phase }, { on := 4, ground := Ground.phase }, { on := 5, ground := Ground.phase }, { on := 6, ground := Ground.phase }, { on := 7, ground := Ground.phase }, { on := 8, ground := Ground.phase }, { on := 9, ground := Ground.phase }, { on := 10, ground := Ground.phase }], guard := none } : Oper) (yielded RX3 c.tmps) = true := want_none rfl
  have ec : ∀ v, c.eval (.const v) = v := fun _ => rfl
  have ef : ∀ f, c.eval (.func f) = .func (.func f) #[] #[] := fun _ => rfl
  refine does_value ho hw (v := .int .i64 (compN A C)) ?_ rfl (Below.refl _ _)
  generalize c.eval = ρ at *
  clear hF hb hW hw ho
  go_simp

theorem stableX3 (pa pb pc D : Nat) (a0 a1 a2 a3 a4 a5 b0 b1 b2 b3 b4 b5 c0 c1 c2 c3 c4 c5 : Value) (A B C : Tree) : ∀ pr ∈ factsX3 pa pb pc D a0 a1 a2 a3 a4 a5 b0 b1 b2 b3 b4 b5 c0 c1 c2 c3 c4 c5 A B C, Stable pr := by
  unfold factsX3
  repeat' (first | exact List.forall_mem_nil _ | refine List.forall_mem_cons.2 ⟨eqv_stable _, ?_⟩)

set_option maxRecDepth 100000 in
theorem allX3 (pa pb pc D : Nat) (a0 a1 a2 a3 a4 a5 b0 b1 b2 b3 b4 b5 c0 c1 c2 c3 c4 c5 : Value) (A B C : Tree) (Q : Exit → Act → World → Prop) : ∀ i, i < 12 → (fun i => ∀ c w, BaseX3 pa pb pc D a0 a1 a2 a3 a4 a5 b0 b1 b2 b3 b4 b5 c0 c1 c2 c3 c4 c5 A B C c → WorldX3 pa pb pc D a0 a1 a2 a3 a4 a5 b0 b1 b2 b3 b4 b5 c0 c1 c2 c3 c4 c5 A B C w → (∀ q0 ∈ ancX3 i, factsAt (factsX3 pa pb pc D a0 a1 a2 a3 a4 a5 b0 b1 b2 b3 b4 b5 c0 c1 c2 c3 c4 c5 A B C) q0 (val RX3 c q0) w) → Does Tryz.prog RX3 Q (factsAt (factsX3 pa pb pc D a0 a1 a2 a3 a4 a5 b0 b1 b2 b3 b4 b5 c0 c1 c2 c3 c4 c5 A B C)) i c w) i := by
  refine below_succ ?_ (fun c w => oX3_11 pa pb pc D a0 a1 a2 a3 a4 a5 b0 b1 b2 b3 b4 b5 c0 c1 c2 c3 c4 c5 A B C Q c w)
  refine below_succ ?_ (fun c w => oX3_10 pa pb pc D a0 a1 a2 a3 a4 a5 b0 b1 b2 b3 b4 b5 c0 c1 c2 c3 c4 c5 A B C Q c w)
  refine below_succ ?_ (fun c w => oX3_9 pa pb pc D a0 a1 a2 a3 a4 a5 b0 b1 b2 b3 b4 b5 c0 c1 c2 c3 c4 c5 A B C Q c w)
  refine below_succ ?_ (fun c w => oX3_8 pa pb pc D a0 a1 a2 a3 a4 a5 b0 b1 b2 b3 b4 b5 c0 c1 c2 c3 c4 c5 A B C Q c w)
  refine below_succ ?_ (fun c w => oX3_7 pa pb pc D a0 a1 a2 a3 a4 a5 b0 b1 b2 b3 b4 b5 c0 c1 c2 c3 c4 c5 A B C Q c w)
  refine below_succ ?_ (fun c w => oX3_6 pa pb pc D a0 a1 a2 a3 a4 a5 b0 b1 b2 b3 b4 b5 c0 c1 c2 c3 c4 c5 A B C Q c w)
  refine below_succ ?_ (fun c w => oX3_5 pa pb pc D a0 a1 a2 a3 a4 a5 b0 b1 b2 b3 b4 b5 c0 c1 c2 c3 c4 c5 A B C Q c w)
  refine below_succ ?_ (fun c w => oX3_4 pa pb pc D a0 a1 a2 a3 a4 a5 b0 b1 b2 b3 b4 b5 c0 c1 c2 c3 c4 c5 A B C Q c w)
  refine below_succ ?_ (fun c w => oX3_3 pa pb pc D a0 a1 a2 a3 a4 a5 b0 b1 b2 b3 b4 b5 c0 c1 c2 c3 c4 c5 A B C Q c w)
  refine below_succ ?_ (fun c w => oX3_2 pa pb pc D a0 a1 a2 a3 a4 a5 b0 b1 b2 b3 b4 b5 c0 c1 c2 c3 c4 c5 A B C Q c w)
  refine below_succ ?_ (fun c w => oX3_1 pa pb pc D a0 a1 a2 a3 a4 a5 b0 b1 b2 b3 b4 b5 c0 c1 c2 c3 c4 c5 A B C Q c w)
  refine below_succ ?_ (fun c w => oX3_0 pa pb pc D a0 a1 a2 a3 a4 a5 b0 b1 b2 b3 b4 b5 c0 c1 c2 c3 c4 c5 A B C Q c w)
  exact below_zero

theorem regionX3 (pa pb pc D : Nat) (a0 a1 a2 a3 a4 a5 b0 b1 b2 b3 b4 b5 c0 c1 c2 c3 c4 c5 : Value) (A B C : Tree) (Q : Exit → Act → World → Prop) (base : Act) (w0 : World) (hsz : base.tmps.size = 124) (hb : BaseX3 pa pb pc D a0 a1 a2 a3 a4 a5 b0 b1 b2 b3 b4 b5 c0 c1 c2 c3 c4 c5 A B C base)
    (hW : ∀ w, Below w0.heap.size w0 w → WorldX3 pa pb pc D a0 a1 a2 a3 a4 a5 b0 b1 b2 b3 b4 b5 c0 c1 c2 c3 c4 c5 A B C w) (hQ : ∀ c w, Same RX3 base c → Below w0.heap.size w0 w → c.eval (.tmp 7) = .int .i64 (compN A B) → c.eval (.tmp 8) = .int .i64 (compN B C) → c.eval (.tmp 9) = .int .i64 (compN A C) → Q .normal c w) : (Code.region 3 RX3 true).wp Tryz.prog Q base w0 := by
  refine facts_rule (A := ancX3) (F := factsAt (factsX3 pa pb pc D a0 a1 a2 a3 a4 a5 b0 b1 b2 b3 b4 b5 c0 c1 c2 c3 c4 c5 A B C)) (by kernel_rfl) (by rw [hsz]; kernel_rfl) (fun i v w w' => factsAt_stable (stableX3 pa pb pc D a0 a1 a2 a3 a4 a5 b0 b1 b2 b3 b4 b5 c0 c1 c2 c3 c4 c5 A B C) i v w w') ?_ ?_
  · intro i hi c w hS hB hF
    exact allX3 pa pb pc D a0 a1 a2 a3 a4 a5 b0 b1 b2 b3 b4 b5 c0 c1 c2 c3 c4 c5 A B C Q i (by rwa [show RX3.size = 12 by kernel_rfl] at hi) c w ⟨(same_eval hS (by kernel_rfl)).trans hb.t3, (same_eval hS (by kernel_rfl)).trans hb.t4, (same_eval hS (by kernel_rfl)).trans hb.t5⟩ (hW w hB) hF
  · intro c w hS hB hF
    exact hQ c w hS hB (fact_at (p := eqv (.int .i64 (compN A B))) (by kernel_rfl) rfl (hF 9 (by rw [show RX3.size = 12 by kernel_rfl]; omega))) (fact_at (p := eqv (.int .i64 (compN B C))) (by kernel_rfl) rfl (hF 10 (by rw [show RX3.size = 12 by kernel_rfl]; omega))) (fact_at (p := eqv (.int .i64 (compN A C))) (by kernel_rfl) rfl (hF 11 (by rw [show RX3.size = 12 by kernel_rfl]; omega)))
end Go.Proofs.YtbpmhgcjefpigaaGreatDoor
