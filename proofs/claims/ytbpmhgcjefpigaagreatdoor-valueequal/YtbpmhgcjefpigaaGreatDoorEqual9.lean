/- A statement that only reads and calls: operation by operation, in whatever order. -/
import Derived.Test.YtbpmhgcjefpigaaGreatDoorLess
import Derived.Test.YtbpmhgcjefpigaaGreatDoorFacts
namespace Go.Proofs.YtbpmhgcjefpigaaGreatDoor
open Go.RowKit Go.WideShapes Go.Shelf
set_option linter.unusedVariables false
set_option linter.unusedSimpArgs false

noncomputable def RQ9 : Array Oper := regionAt Tryz.f13 9
def ancQ9 (i : Nat) : List Nat := ([[], [], [0, 1], [], [], [3, 4], [2], [5]] : List (List Nat)).getD i []
def factsQ9 (pa pb D : Nat) (a0 a1 a2 a3 a4 a5 b0 b1 b2 b3 b4 b5 : Value) (A B : Tree) : List (Value → World → Prop) :=
  [eqv (.agg #[a0, a1, a2, a3, a4, a5]), eqv (.agg #[b0, b1, b2, b3, b4, b5]), eqv (.int .i64 (lessN A B)), eqv (.agg #[b0, b1, b2, b3, b4, b5]), eqv (.agg #[a0, a1, a2, a3, a4, a5]), eqv (.int .i64 (lessN B A)), eqv (.int .i64 (lessN A B)), eqv (.int .i64 (lessN B A))]
structure BaseQ9 (pa pb D : Nat) (a0 a1 a2 a3 a4 a5 b0 b1 b2 b3 b4 b5 : Value) (A B : Tree) (c : Act) : Prop where
  t2 : c.eval (.tmp 2) = .pointer (some ⟨pa, 0, none⟩)
  t3 : c.eval (.tmp 3) = .pointer (some ⟨pb, 0, none⟩)
structure WorldQ9 (pa pb D : Nat) (a0 a1 a2 a3 a4 a5 b0 b1 b2 b3 b4 b5 : Value) (A B : Tree) (w : World) : Prop where
  ca0 : w.cell? ⟨pa, 0, none⟩ = some a0
  ca1 : w.cell? ⟨pa, 1, none⟩ = some a1
  ca2 : w.cell? ⟨pa, 2, none⟩ = some a2
  ca3 : w.cell? ⟨pa, 3, none⟩ = some a3
  ca4 : w.cell? ⟨pa, 4, none⟩ = some a4
  ca5 : w.cell? ⟨pa, 5, none⟩ = some a5
  cb0 : w.cell? ⟨pb, 0, none⟩ = some b0
  cb1 : w.cell? ⟨pb, 1, none⟩ = some b1
  cb2 : w.cell? ⟨pb, 2, none⟩ = some b2
  cb3 : w.cell? ⟨pb, 3, none⟩ = some b3
  cb4 : w.cell? ⟨pb, 4, none⟩ = some b4
  cb5 : w.cell? ⟨pb, 5, none⟩ = some b5
  lA : Lies D w (.agg #[a0, a1, a2, a3, a4, a5]) A
  lB : Lies D w (.agg #[b0, b1, b2, b3, b4, b5]) B
  low : D ≤ w.heap.size
  tabs : Tabs w
  mA : Modest A
  mB : Modest B

set_option maxRecDepth 10000 in
theorem oQ9_0 (pa pb D : Nat) (a0 a1 a2 a3 a4 a5 b0 b1 b2 b3 b4 b5 : Value) (A B : Tree) (Q : Exit → Act → World → Prop) (c : Act) (w : World) (hb : BaseQ9 pa pb D a0 a1 a2 a3 a4 a5 b0 b1 b2 b3 b4 b5 A B c) (hW : WorldQ9 pa pb D a0 a1 a2 a3 a4 a5 b0 b1 b2 b3 b4 b5 A B w) (hF : ∀ q0 ∈ ancQ9 0, factsAt (factsQ9 pa pb D a0 a1 a2 a3 a4 a5 b0 b1 b2 b3 b4 b5 A B) q0 (val RQ9 c q0) w) :
    Does Tryz.prog RQ9 Q (factsAt (factsQ9 pa pb D a0 a1 a2 a3 a4 a5 b0 b1 b2 b3 b4 b5 A B)) 0 c w := by
  have ho : RQ9[0]? = some ({ dst := some 74, op := Op.load 26 (Operand.tmp 2), type := 26, pos := "outright.go:58", after := #[], guard := none } : Oper) := by kernel_rfl
  have e2 := hb.t2
  have hw : Region.wanted ({ dst := some 74, op := Op.load 26 (Operand.tmp 2), type := 26, pos := "outright.go:58", after := #[], guard := none } : Oper) (yielded RQ9 c.tmps) = true := want_none rfl
  have ec : ∀ v, c.eval (.const v) = v := fun _ => rfl
  have ef : ∀ f, c.eval (.func f) = .func (.func f) #[] #[] := fun _ => rfl
  have ca0 := hW.ca0
  have ca1 := hW.ca1
  have ca2 := hW.ca2
  have ca3 := hW.ca3
  have ca4 := hW.ca4
  have ca5 := hW.ca5
  refine does_value ho hw (v := .agg #[a0, a1, a2, a3, a4, a5]) ?_ rfl (Below.refl _ _)
  generalize c.eval = ρ at *
  clear hF hb hW hw ho
  go_simp

set_option maxRecDepth 10000 in
theorem oQ9_1 (pa pb D : Nat) (a0 a1 a2 a3 a4 a5 b0 b1 b2 b3 b4 b5 : Value) (A B : Tree) (Q : Exit → Act → World → Prop) (c : Act) (w : World) (hb : BaseQ9 pa pb D a0 a1 a2 a3 a4 a5 b0 b1 b2 b3 b4 b5 A B c) (hW : WorldQ9 pa pb D a0 a1 a2 a3 a4 a5 b0 b1 b2 b3 b4 b5 A B w) (hF : ∀ q0 ∈ ancQ9 1, factsAt (factsQ9 pa pb D a0 a1 a2 a3 a4 a5 b0 b1 b2 b3 b4 b5 A B) q0 (val RQ9 c q0) w) :
    Does Tryz.prog RQ9 Q (factsAt (factsQ9 pa pb D a0 a1 a2 a3 a4 a5 b0 b1 b2 b3 b4 b5 A B)) 1 c w := by
  have ho : RQ9[1]? = some ({ dst := some 75, op := Op.load 26 (Operand.tmp 3), type := 26, pos := "outright.go:58", after := #[], guard := none } : Oper) := by kernel_rfl
  have e3 := hb.t3
  have hw : Region.wanted ({ dst := some 75, op := Op.load 26 (Operand.tmp 3), type := 26, pos := "outright.go:58", after := #[], guard := none } : Oper) (yielded RQ9 c.tmps) = true := want_none rfl
  have ec : ∀ v, c.eval (.const v) = v := fun _ => rfl
  have ef : ∀ f, c.eval (.func f) = .func (.func f) #[] #[] := fun _ => rfl
  have cb0 := hW.cb0
  have cb1 := hW.cb1
  have cb2 := hW.cb2
  have cb3 := hW.cb3
  have cb4 := hW.cb4
  have cb5 := hW.cb5
  refine does_value ho hw (v := .agg #[b0, b1, b2, b3, b4, b5]) ?_ rfl (Below.refl _ _)
  generalize c.eval = ρ at *
  clear hF hb hW hw ho
  go_simp

set_option maxRecDepth 10000 in
theorem oQ9_2 (pa pb D : Nat) (a0 a1 a2 a3 a4 a5 b0 b1 b2 b3 b4 b5 : Value) (A B : Tree) (Q : Exit → Act → World → Prop) (c : Act) (w : World) (hb : BaseQ9 pa pb D a0 a1 a2 a3 a4 a5 b0 b1 b2 b3 b4 b5 A B c) (hW : WorldQ9 pa pb D a0 a1 a2 a3 a4 a5 b0 b1 b2 b3 b4 b5 A B w) (hF : ∀ q0 ∈ ancQ9 2, factsAt (factsQ9 pa pb D a0 a1 a2 a3 a4 a5 b0 b1 b2 b3 b4 b5 A B) q0 (val RQ9 c q0) w) :
    Does Tryz.prog RQ9 Q (factsAt (factsQ9 pa pb D a0 a1 a2 a3 a4 a5 b0 b1 b2 b3 b4 b5 A B)) 2 c w := by
  have ho : RQ9[2]? = some ({ dst := some 76, op := Op.call { callee := Callee.value (Operand.func 38), args := #[Operand.tmp 74, Operand.tmp 75], argTypes := #[26, 26] }, type := 44, pos := "outright.go:58", after := #[{ on := 0, ground := Ground.data }, { on := 1, ground := Ground.data }], guard := none } : Oper) := by kernel_rfl
  have e74 : c.eval (.tmp 74) = .agg #[a0, a1, a2, a3, a4, a5] := fact_at (p := eqv (.agg #[a0, a1, a2, a3, a4, a5])) (by kernel_rfl) rfl (hF 0 (by decide))
  have e75 : c.eval (.tmp 75) = .agg #[b0, b1, b2, b3, b4, b5] := fact_at (p := eqv (.agg #[b0, b1, b2, b3, b4, b5])) (by kernel_rfl) rfl (hF 1 (by decide))
  have hw : Region.wanted ({ dst := some 76, op := Op.call { callee := Callee.value (Operand.func 38), args := #[Operand.tmp 74, Operand.tmp 75], argTypes := #[26, 26] }, type := 44, pos := "outright.go:58", after := #[{ on := 0, ground := Ground.data }, { on := 1, ground := Ground.data }], guard := none } : Oper) (yielded RQ9 c.tmps) = true := want_none rfl
  have ec : ∀ v, c.eval (.const v) = v := fun _ => rfl
  have ef : ∀ f, c.eval (.func f) = .func (.func f) #[] #[] := fun _ => rfl
  refine does_call ho hw (f := 38) (args := #[.agg #[a0, a1, a2, a3, a4, a5], .agg #[b0, b1, b2, b3, b4, b5]]) ?_ (Calls.mono (Less_any A B D _ _ w hW.low hW.lA hW.lB hW.tabs hW.mA hW.mB) fun e w' ⟨h1, h2⟩ => ⟨_, h1, rfl, h2⟩)
  generalize c.eval = ρ at *
  clear hF hb hW hw ho
  go_simp

set_option maxRecDepth 10000 in
theorem oQ9_3 (pa pb D : Nat) (a0 a1 a2 a3 a4 a5 b0 b1 b2 b3 b4 b5 : Value) (A B : Tree) (Q : Exit → Act → World → Prop) (c : Act) (w : World) (hb : BaseQ9 pa pb D a0 a1 a2 a3 a4 a5 b0 b1 b2 b3 b4 b5 A B c) (hW : WorldQ9 pa pb D a0 a1 a2 a3 a4 a5 b0 b1 b2 b3 b4 b5 A B w) (hF : ∀ q0 ∈ ancQ9 3, factsAt (factsQ9 pa pb D a0 a1 a2 a3 a4 a5 b0 b1 b2 b3 b4 b5 A B) q0 (val RQ9 c q0) w) :
    Does Tryz.prog RQ9 Q (factsAt (factsQ9 pa pb D a0 a1 a2 a3 a4 a5 b0 b1 b2 b3 b4 b5 A B)) 3 c w := by
  have ho : RQ9[3]? = some ({ dst := some 77, op := Op.load 26 (Operand.tmp 3), type := 26, pos := "outright.go:58", after := #[], guard := none } : Oper) := by kernel_rfl
  have e3 := hb.t3
  have hw : Region.wanted ({ dst := some 77, op := Op.load 26 (Operand.tmp 3), type := 26, pos := "outright.go:58", after := #[], guard := none } : Oper) (yielded RQ9 c.tmps) = true := want_none rfl
  have ec : ∀ v, c.eval (.const v) = v := fun _ => rfl
  have ef : ∀ f, c.eval (.func f) = .func (.func f) #[] #[] := fun _ => rfl
  have cb0 := hW.cb0
  have cb1 := hW.cb1
  have cb2 := hW.cb2
  have cb3 := hW.cb3
  have cb4 := hW.cb4
  have cb5 := hW.cb5
  refine does_value ho hw (v := .agg #[b0, b1, b2, b3, b4, b5]) ?_ rfl (Below.refl _ _)
  generalize c.eval = ρ at *
  clear hF hb hW hw ho
  go_simp

set_option maxRecDepth 10000 in
theorem oQ9_4 (pa pb D : Nat) (a0 a1 a2 a3 a4 a5 b0 b1 b2 b3 b4 b5 : Value) (A B : Tree) (Q : Exit → Act → World → Prop) (c : Act) (w : World) (hb : BaseQ9 pa pb D a0 a1 a2 a3 a4 a5 b0 b1 b2 b3 b4 b5 A B c) (hW : WorldQ9 pa pb D a0 a1 a2 a3 a4 a5 b0 b1 b2 b3 b4 b5 A B w) (hF : ∀ q0 ∈ ancQ9 4, factsAt (factsQ9 pa pb D a0 a1 a2 a3 a4 a5 b0 b1 b2 b3 b4 b5 A B) q0 (val RQ9 c q0) w) :
    Does Tryz.prog RQ9 Q (factsAt (factsQ9 pa pb D a0 a1 a2 a3 a4 a5 b0 b1 b2 b3 b4 b5 A B)) 4 c w := by
  have ho : RQ9[4]? = some ({ dst := some 78, op := Op.load 26 (Operand.tmp 2), type := 26, pos := "outright.go:58", after := #[], guard := none } : Oper) := by kernel_rfl
  have e2 := hb.t2
  have hw : Region.wanted ({ dst := some 78, op := Op.load 26 (Operand.tmp 2), type := 26, pos := "outright.go:58", after := #[], guard := none } : Oper) (yielded RQ9 c.tmps) = true := want_none rfl
  have ec : ∀ v, c.eval (.const v) = v := fun _ => rfl
  have ef : ∀ f, c.eval (.func f) = .func (.func f) #[] #[] := fun _ => rfl
  have ca0 := hW.ca0
  have ca1 := hW.ca1
  have ca2 := hW.ca2
  have ca3 := hW.ca3
  have ca4 := hW.ca4
  have ca5 := hW.ca5
  refine does_value ho hw (v := .agg #[a0, a1, a2, a3, a4, a5]) ?_ rfl (Below.refl _ _)
  generalize c.eval = ρ at *
  clear hF hb hW hw ho
  go_simp

set_option maxRecDepth 10000 in
theorem oQ9_5 (pa pb D : Nat) (a0 a1 a2 a3 a4 a5 b0 b1 b2 b3 b4 b5 : Value) (A B : Tree) (Q : Exit → Act → World → Prop) (c : Act) (w : World) (hb : BaseQ9 pa pb D a0 a1 a2 a3 a4 a5 b0 b1 b2 b3 b4 b5 A B c) (hW : WorldQ9 pa pb D a0 a1 a2 a3 a4 a5 b0 b1 b2 b3 b4 b5 A B w) (hF : ∀ q0 ∈ ancQ9 5, factsAt (factsQ9 pa pb D a0 a1 a2 a3 a4 a5 b0 b1 b2 b3 b4 b5 A B) q0 (val RQ9 c q0) w) :
    Does Tryz.prog RQ9 Q (factsAt (factsQ9 pa pb D a0 a1 a2 a3 a4 a5 b0 b1 b2 b3 b4 b5 A B)) 5 c w := by
  have ho : RQ9[5]? = some ({ dst := some 79, op := Op.call { callee := Callee.value (Operand.func 38), args := #[Operand.tmp 77, Operand.tmp 78], argTypes := #[26, 26] }, type := 44, pos := "outright.go:58", after := #[{ on := 3, ground := Ground.data }, { on := 4, ground := Ground.data }, { on := 2, ground := Ground.chain }], guard := none } : Oper) := by kernel_rfl
  have e77 : c.eval (.tmp 77) = .agg #[b0, b1, b2, b3, b4, b5] := fact_at (p := eqv (.agg #[b0, b1, b2, b3, b4, b5])) (by kernel_rfl) rfl (hF 3 (by decide))
  have e78 : c.eval (.tmp 78) = .agg #[a0, a1, a2, a3, a4, a5] := fact_at (p := eqv (.agg #[a0, a1, a2, a3, a4, a5])) (by kernel_rfl) rfl (hF 4 (by decide))
  have hw : Region.wanted ({ dst := some 79, op := Op.call { callee := Callee.value (Operand.func 38), args := #[Operand.tmp 77, Operand.tmp 78], argTypes := #[26, 26] }, type := 44, pos := "outright.go:58", after := #[{ on := 3, ground := Ground.data }, { on := 4, ground := Ground.data }, { on := 2, ground := Ground.chain }], guard := none } : Oper) (yielded RQ9 c.tmps) = true := want_none rfl
  have ec : ∀ v, c.eval (.const v) = v := fun _ => rfl
  have ef : ∀ f, c.eval (.func f) = .func (.func f) #[] #[] := fun _ => rfl
  refine does_call ho hw (f := 38) (args := #[.agg #[b0, b1, b2, b3, b4, b5], .agg #[a0, a1, a2, a3, a4, a5]]) ?_ (Calls.mono (Less_any B A D _ _ w hW.low hW.lB hW.lA hW.tabs hW.mB hW.mA) fun e w' ⟨h1, h2⟩ => ⟨_, h1, rfl, h2⟩)
  generalize c.eval = ρ at *
  clear hF hb hW hw ho
  go_simp

set_option maxRecDepth 10000 in
theorem oQ9_6 (pa pb D : Nat) (a0 a1 a2 a3 a4 a5 b0 b1 b2 b3 b4 b5 : Value) (A B : Tree) (Q : Exit → Act → World → Prop) (c : Act) (w : World) (hb : BaseQ9 pa pb D a0 a1 a2 a3 a4 a5 b0 b1 b2 b3 b4 b5 A B c) (hW : WorldQ9 pa pb D a0 a1 a2 a3 a4 a5 b0 b1 b2 b3 b4 b5 A B w) (hF : ∀ q0 ∈ ancQ9 6, factsAt (factsQ9 pa pb D a0 a1 a2 a3 a4 a5 b0 b1 b2 b3 b4 b5 A B) q0 (val RQ9 c q0) w) :
    Does Tryz.prog RQ9 Q (factsAt (factsQ9 pa pb D a0 a1 a2 a3 a4 a5 b0 b1 b2 b3 b4 b5 A B)) 6 c w := by
  have ho : RQ9[6]? = some ({ dst := some 7, op := Op.assign (Operand.tmp 76), type := 44, pos := "outright.go:58", after := #[{ on := 2, ground := Ground.data }, { on := 5, ground := Ground.chain }, { on := 0, ground := Ground.phase }, { on := 1, ground := Ground.phase }, { on := 2, ground := Ground.phase }, { on := 3, ground := Ground.textOnly Departure.lateStores }, { on := 4, ground := Ground.textOnly Departure.lateStores }, { on := 5, ground := Ground.textOnly Departure.lateStoresUnsure }], guard := none } : Oper) := by kernel_rfl
  have e76 : c.eval (.tmp 76) = .int .i64 (lessN A B) := fact_at (p := eqv (.int .i64 (lessN A B))) (by kernel_rfl) rfl (hF 2 (by decide))
  have hw : Region.wanted ({ dst := some 7, op := Op.assign (Operand.tmp 76), type := 44, pos := "outright.go:58", after := #[{ on := 2, ground := Ground.data }, { on := 5, ground := Ground.chain }, { on := 0, ground := Ground.phase }, { on := 1, ground := Ground.phase }, { on := 2, ground := Ground.phase }, { on := 3, ground := Ground.textOnly Departure.lateStores }, { on := 4, ground := Ground.textOnly Departure.lateStores }, { on := 5, ground := Ground.textOnly Departure.lateStoresUnsure }], guard := none } : Oper) (yielded RQ9 c.tmps) = true := want_none rfl
  have ec : ∀ v, c.eval (.const v) = v := fun _ => rfl
  have ef : ∀ f, c.eval (.func f) = .func (.func f) #[] #[] := fun _ => rfl
  refine does_value ho hw (v := .int .i64 (lessN A B)) ?_ rfl (Below.refl _ _)
  generalize c.eval = ρ at *
  clear hF hb hW hw ho
  go_simp

set_option maxRecDepth 10000 in
theorem oQ9_7 (pa pb D : Nat) (a0 a1 a2 a3 a4 a5 b0 b1 b2 b3 b4 b5 : Value) (A B : Tree) (Q : Exit → Act → World → Prop) (c : Act) (w : World) (hb : BaseQ9 pa pb D a0 a1 a2 a3 a4 a5 b0 b1 b2 b3 b4 b5 A B c) (hW : WorldQ9 pa pb D a0 a1 a2 a3 a4 a5 b0 b1 b2 b3 b4 b5 A B w) (hF : ∀ q0 ∈ ancQ9 7, factsAt (factsQ9 pa pb D a0 a1 a2 a3 a4 a5 b0 b1 b2 b3 b4 b5 A B) q0 (val RQ9 c q0) w) :
    Does Tryz.prog RQ9 Q (factsAt (factsQ9 pa pb D a0 a1 a2 a3 a4 a5 b0 b1 b2 b3 b4 b5 A B)) 7 c w := by
  have ho : RQ9[7]? = some ({ dst := some 8, op := Op.assign (Operand.tmp 79), type := 44, pos := "outright.go:58", after := #[{ on := 5, ground := Ground.data }, { on := 6, ground := Ground.chain }, { on := 0, ground := Ground.phase }, { on := 1, ground := Ground.phase }, { on := 2, ground := Ground.phase }, { on := 3, ground := Ground.phase }, { on := 4, ground := Ground.phase }, { on := 5, ground := Ground.phase }, { on := 6, ground := Ground.phase }], guard := none } : Oper) := by kernel_rfl
  have e79 : c.eval (.tmp 79) = .int .i64 (lessN B A) := fact_at (p := eqv (.int .i64 (lessN B A))) (by kernel_rfl) rfl (hF 5 (by decide))
  have hw : Region.wanted ({ dst := some 8, op := Op.assign (Operand.tmp 79), type := 44, pos := "outright.go:58", after := #[{ on := 5, ground := Ground.data }, { on := 6, ground := Ground.chain }, { on := 0, ground := Ground.phase }, { on := 1, ground := Ground.phase }, { on := 2, ground := Ground.phase }, { on := 3, ground := Ground.phase }, { on := 4, ground := Ground.phase }, { on := 5, ground := Ground.phase }, { on := 6, ground := Ground.phase }], guard := none } : Oper) (yielded RQ9 c.tmps) = true := want_none rfl
  have ec : ∀ v, c.eval (.const v) = v := fun _ => rfl
  have ef : ∀ f, c.eval (.func f) = .func (.func f) #[] #[] := fun _ => rfl
  refine does_value ho hw (v := .int .i64 (lessN B A)) ?_ rfl (Below.refl _ _)
  generalize c.eval = ρ at *
  clear hF hb hW hw ho
  go_simp

theorem stableQ9 (pa pb D : Nat) (a0 a1 a2 a3 a4 a5 b0 b1 b2 b3 b4 b5 : Value) (A B : Tree) : ∀ pr ∈ factsQ9 pa pb D a0 a1 a2 a3 a4 a5 b0 b1 b2 b3 b4 b5 A B, Stable pr := by
  unfold factsQ9
  repeat' (first | exact List.forall_mem_nil _ | refine List.forall_mem_cons.2 ⟨eqv_stable _, ?_⟩)

set_option maxRecDepth 100000 in
theorem allQ9 (pa pb D : Nat) (a0 a1 a2 a3 a4 a5 b0 b1 b2 b3 b4 b5 : Value) (A B : Tree) (Q : Exit → Act → World → Prop) : ∀ i, i < 8 → (fun i => ∀ c w, BaseQ9 pa pb D a0 a1 a2 a3 a4 a5 b0 b1 b2 b3 b4 b5 A B c → WorldQ9 pa pb D a0 a1 a2 a3 a4 a5 b0 b1 b2 b3 b4 b5 A B w → (∀ q0 ∈ ancQ9 i, factsAt (factsQ9 pa pb D a0 a1 a2 a3 a4 a5 b0 b1 b2 b3 b4 b5 A B) q0 (val RQ9 c q0) w) → Does Tryz.prog RQ9 Q (factsAt (factsQ9 pa pb D a0 a1 a2 a3 a4 a5 b0 b1 b2 b3 b4 b5 A B)) i c w) i := by
  refine below_succ ?_ (fun c w => oQ9_7 pa pb D a0 a1 a2 a3 a4 a5 b0 b1 b2 b3 b4 b5 A B Q c w)
  refine below_succ ?_ (fun c w => oQ9_6 pa pb D a0 a1 a2 a3 a4 a5 b0 b1 b2 b3 b4 b5 A B Q c w)
  refine below_succ ?_ (fun c w => oQ9_5 pa pb D a0 a1 a2 a3 a4 a5 b0 b1 b2 b3 b4 b5 A B Q c w)
  refine below_succ ?_ (fun c w => oQ9_4 pa pb D a0 a1 a2 a3 a4 a5 b0 b1 b2 b3 b4 b5 A B Q c w)
  refine below_succ ?_ (fun c w => oQ9_3 pa pb D a0 a1 a2 a3 a4 a5 b0 b1 b2 b3 b4 b5 A B Q c w)
  refine below_succ ?_ (fun c w => oQ9_2 pa pb D a0 a1 a2 a3 a4 a5 b0 b1 b2 b3 b4 b5 A B Q c w)
  refine below_succ ?_ (fun c w => oQ9_1 pa pb D a0 a1 a2 a3 a4 a5 b0 b1 b2 b3 b4 b5 A B Q c w)
  refine below_succ ?_ (fun c w => oQ9_0 pa pb D a0 a1 a2 a3 a4 a5 b0 b1 b2 b3 b4 b5 A B Q c w)
  exact below_zero

theorem regionQ9 (pa pb D : Nat) (a0 a1 a2 a3 a4 a5 b0 b1 b2 b3 b4 b5 : Value) (A B : Tree) (Q : Exit → Act → World → Prop) (base : Act) (w0 : World) (hsz : base.tmps.size = 134) (hb : BaseQ9 pa pb D a0 a1 a2 a3 a4 a5 b0 b1 b2 b3 b4 b5 A B base)
    (hW : ∀ w, Below w0.heap.size w0 w → WorldQ9 pa pb D a0 a1 a2 a3 a4 a5 b0 b1 b2 b3 b4 b5 A B w) (hQ : ∀ c w, Same RQ9 base c → Below w0.heap.size w0 w → c.eval (.tmp 7) = .int .i64 (lessN A B) → c.eval (.tmp 8) = .int .i64 (lessN B A) → Q .normal c w) : (Code.region 9 RQ9 true).wp Tryz.prog Q base w0 := by
  refine facts_rule (A := ancQ9) (F := factsAt (factsQ9 pa pb D a0 a1 a2 a3 a4 a5 b0 b1 b2 b3 b4 b5 A B)) (by kernel_rfl) (by rw [hsz]; kernel_rfl) (fun i v w w' => factsAt_stable (stableQ9 pa pb D a0 a1 a2 a3 a4 a5 b0 b1 b2 b3 b4 b5 A B) i v w w') ?_ ?_
  · intro i hi c w hS hB hF
    exact allQ9 pa pb D a0 a1 a2 a3 a4 a5 b0 b1 b2 b3 b4 b5 A B Q i (by rwa [show RQ9.size = 8 by kernel_rfl] at hi) c w ⟨(same_eval hS (by kernel_rfl)).trans hb.t2, (same_eval hS (by kernel_rfl)).trans hb.t3⟩ (hW w hB) hF
  · intro c w hS hB hF
    exact hQ c w hS hB (fact_at (p := eqv (.int .i64 (lessN A B))) (by kernel_rfl) rfl (hF 6 (by rw [show RQ9.size = 8 by kernel_rfl]; omega))) (fact_at (p := eqv (.int .i64 (lessN B A))) (by kernel_rfl) rfl (hF 7 (by rw [show RQ9.size = 8 by kernel_rfl]; omega)))
end Go.Proofs.YtbpmhgcjefpigaaGreatDoor
