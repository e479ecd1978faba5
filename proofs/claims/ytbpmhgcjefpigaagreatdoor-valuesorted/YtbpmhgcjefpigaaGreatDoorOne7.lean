/- A statement that reads, calls and lays rows of its own: operation by operation, in whatever order. -/
import Derived.Test.YtbpmhgcjefpigaaGreatDoorJoin19
namespace Go.Proofs.YtbpmhgcjefpigaaGreatDoor
open Go.RowKit Go.WideShapes Go.Shelf
set_option linter.unusedVariables false
set_option linter.unusedSimpArgs false

noncomputable def RN7 : Array Oper := regionAt Tryz.f12 7
def ancN7 (i : Nat) : List Nat := ([[], [0], [], [2], [1, 3], [4], [5], [6], [6], [6, 7, 8], [6], [6, 9, 10], [6, 11], [12], [13], [13, 14], [13, 15], [13], [13, 16, 17], [13, 18], [19], [20], [20, 21], [20, 22], [20, 23], [24], [25], [25, 26], [25, 27], [25], [25, 28, 29], [25, 30], [31], [32], [32, 33], [34]] : List (List Nat)).getD i []
def factsN7 (pa g n cap : Nat) (S T : ByteArray) (sm : Bool) (ak : Int) (ab : Bool) (an : Int) (ax : ByteArray) (aa : Option Addr) (am ac : Nat) (al : Option Addr) (ao ad : Nat) (n0 n1 n2 n3 n4 n5 : Value) : List (Value → World → Prop) :=
  [eqv (.int .i64 0), eqv (.int .i64 0), eqv (.int .i64 0), eqv (.int .i64 0), eqv (.int .i64 0), eqv (.bool true), eqv (.bool true), eqv (.string S), eqv (.string T), eqv (.bool sm), eqv (.bool sm), eqv (.bool true), eqv (.bool true), eqv (.bool true), eqv (.slice (some ⟨g, 0, none⟩) n cap), eqv (.int .i64 (n : Int)), eqv (.bool sm), eqv (.bool sm), eqv (.bool true), eqv (.bool true), eqv (.bool true), eqv (.slice (some ⟨g, 0, none⟩) n cap), eqv (.int .i64 (n : Int)), eqv (.bool true), eqv (.bool true), eqv (.bool true), eqv (.slice (some ⟨g, 0, none⟩) n cap), eqv (.pointer (some ⟨g, 0, none⟩)), eqv (.agg #[n0, n1, n2, n3, n4, n5]), eqv (.agg #[.int .i64 ak, .bool ab, .int .i64 an, .string ax, .slice aa am ac, .slice al ao ad]), eqv (.bool true), eqv (.bool true), eqv (.bool true), eqv (.bool true), eqv (.bool true), eqv (.bool true)]
structure BaseN7 (pa g n cap : Nat) (S T : ByteArray) (sm : Bool) (ak : Int) (ab : Bool) (an : Int) (ax : ByteArray) (aa : Option Addr) (am ac : Nat) (al : Option Addr) (ao ad : Nat) (n0 n1 n2 n3 n4 n5 : Value) (c : Act) : Prop where
  t2 : c.eval (.tmp 2) = .pointer (some ⟨pa, 0, none⟩)
  t5 : c.eval (.tmp 5) = .string S
  t7 : c.eval (.tmp 7) = .string T
  t6 : c.eval (.tmp 6) = .int .i64 0
  t8 : c.eval (.tmp 8) = .int .i64 0
  t9 : c.eval (.tmp 9) = .bool sm
  t10 : c.eval (.tmp 10) = .slice (some ⟨g, 0, none⟩) n cap
structure WorldN7 (pa g n cap : Nat) (S T : ByteArray) (sm : Bool) (ak : Int) (ab : Bool) (an : Int) (ax : ByteArray) (aa : Option Addr) (am ac : Nat) (al : Option Addr) (ao ad : Nat) (n0 n1 n2 n3 n4 n5 : Value) (w : World) : Prop where
  xa0 : w.cell? ⟨pa, 0, none⟩ = some (.int .i64 ak)
  xa1 : w.cell? ⟨pa, 1, none⟩ = some (.bool ab)
  xa2 : w.cell? ⟨pa, 2, none⟩ = some (.int .i64 an)
  xa3 : w.cell? ⟨pa, 3, none⟩ = some (.string ax)
  xa4 : w.cell? ⟨pa, 4, none⟩ = some (.slice aa am ac)
  xa5 : w.cell? ⟨pa, 5, none⟩ = some (.slice al ao ad)
  xn0 : w.cell? ⟨g, 0, none⟩ = some (n0)
  xn1 : w.cell? ⟨g, 1, none⟩ = some (n1)
  xn2 : w.cell? ⟨g, 2, none⟩ = some (n2)
  xn3 : w.cell? ⟨g, 3, none⟩ = some (n3)
  xn4 : w.cell? ⟨g, 4, none⟩ = some (n4)
  xn5 : w.cell? ⟨g, 5, none⟩ = some (n5)
  k1 : Calls Tryz.prog 22 #[.int .i64 0] w fun e w' => e = .returned (.int .i64 0) ∧ Below w.heap.size w w'
  k2 : Calls Tryz.prog 32 #[.agg #[n0, n1, n2, n3, n4, n5], .agg #[.int .i64 ak, .bool ab, .int .i64 an, .string ax, .slice aa am ac, .slice al ao ad]] w fun e w' => e = .returned (.bool true) ∧ Below w.heap.size w w'
  k3 : Calls Tryz.prog 16 #[] w fun e w' => e = .returned (.bool true) ∧ Below w.heap.size w w'
  hst : (S.toList == T.toList) = sm
  hln : ((n : Int) == 1) = sm
  hge : (1 : Int) ≤ (n : Int)
  hgn : n ≤ cap

set_option maxRecDepth 10000 in
theorem oN7_0 (pa g n cap : Nat) (S T : ByteArray) (sm : Bool) (ak : Int) (ab : Bool) (an : Int) (ax : ByteArray) (aa : Option Addr) (am ac : Nat) (al : Option Addr) (ao ad : Nat) (n0 n1 n2 n3 n4 n5 : Value) (Q : Exit → Act → World → Prop) (c : Act) (w : World) (hb : BaseN7 pa g n cap S T sm ak ab an ax aa am ac al ao ad n0 n1 n2 n3 n4 n5 c) (hW : WorldN7 pa g n cap S T sm ak ab an ax aa am ac al ao ad n0 n1 n2 n3 n4 n5 w) (hF : ∀ q0 ∈ ancN7 0, factsAt (factsN7 pa g n cap S T sm ak ab an ax aa am ac al ao ad n0 n1 n2 n3 n4 n5) q0 (val RN7 c q0) w) :
    Does Tryz.prog RN7 Q (factsAt (factsN7 pa g n cap S T sm ak ab an ax aa am ac al ao ad n0 n1 n2 n3 n4 n5)) 0 c w := by
  have ho : RN7[0]? = some ({ dst := some 47, op := Op.move (Operand.tmp 6), type := 35, pos := "outright.go:32", after := #[], guard := none } : Oper) := by kernel_rfl
  have e6 := hb.t6
  have hw : Region.wanted ({ dst := some 47, op := Op.move (Operand.tmp 6), type := 35, pos := "outright.go:32", after := #[], guard := none } : Oper) (yielded RN7 c.tmps) = true := want_none rfl
  have ec : ∀ v, c.eval (.const v) = v := fun _ => rfl
  have ef : ∀ f, c.eval (.func f) = .func (.func f) #[] #[] := fun _ => rfl
  refine does_value ho hw (v := .int .i64 0) ?_ rfl (Below.refl _ _)
  generalize c.eval = ρ at *
  clear hF hb hW hw ho
  go_simp

set_option maxRecDepth 10000 in
theorem oN7_1 (pa g n cap : Nat) (S T : ByteArray) (sm : Bool) (ak : Int) (ab : Bool) (an : Int) (ax : ByteArray) (aa : Option Addr) (am ac : Nat) (al : Option Addr) (ao ad : Nat) (n0 n1 n2 n3 n4 n5 : Value) (Q : Exit → Act → World → Prop) (c : Act) (w : World) (hb : BaseN7 pa g n cap S T sm ak ab an ax aa am ac al ao ad n0 n1 n2 n3 n4 n5 c) (hW : WorldN7 pa g n cap S T sm ak ab an ax aa am ac al ao ad n0 n1 n2 n3 n4 n5 w) (hF : ∀ q0 ∈ ancN7 1, factsAt (factsN7 pa g n cap S T sm ak ab an ax aa am ac al ao ad n0 n1 n2 n3 n4 n5) q0 (val RN7 c q0) w) :
    Does Tryz.prog RN7 Q (factsAt (factsN7 pa g n cap S T sm ak ab an ax aa am ac al ao ad n0 n1 n2 n3 n4 n5)) 1 c w := by
  have ho : RN7[1]? = some ({ dst := some 48, op := Op.call { callee := Callee.value (Operand.func 22), args := #[Operand.tmp 47], argTypes := #[35] }, type := 3, pos := "outright.go:32", after := #[{ on := 0, ground := Ground.data }], guard := none } : Oper) := by kernel_rfl
  have e47 : c.eval (.tmp 47) = .int .i64 0 := fact_at (p := eqv (.int .i64 0)) (by kernel_rfl) rfl (hF 0 (by decide))
  have hw : Region.wanted ({ dst := some 48, op := Op.call { callee := Callee.value (Operand.func 22), args := #[Operand.tmp 47], argTypes := #[35] }, type := 3, pos := "outright.go:32", after := #[{ on := 0, ground := Ground.data }], guard := none } : Oper) (yielded RN7 c.tmps) = true := want_none rfl
  have ec : ∀ v, c.eval (.const v) = v := fun _ => rfl
  have ef : ∀ f, c.eval (.func f) = .func (.func f) #[] #[] := fun _ => rfl
  refine does_call ho hw (f := 22) (args := #[.int .i64 0]) ?_ (Calls.mono (hW.k1) fun e w' ⟨h1, h2⟩ => ⟨_, h1, rfl, h2⟩)
  generalize c.eval = ρ at *
  clear hF hb hW hw ho
  go_simp

set_option maxRecDepth 10000 in
theorem oN7_2 (pa g n cap : Nat) (S T : ByteArray) (sm : Bool) (ak : Int) (ab : Bool) (an : Int) (ax : ByteArray) (aa : Option Addr) (am ac : Nat) (al : Option Addr) (ao ad : Nat) (n0 n1 n2 n3 n4 n5 : Value) (Q : Exit → Act → World → Prop) (c : Act) (w : World) (hb : BaseN7 pa g n cap S T sm ak ab an ax aa am ac al ao ad n0 n1 n2 n3 n4 n5 c) (hW : WorldN7 pa g n cap S T sm ak ab an ax aa am ac al ao ad n0 n1 n2 n3 n4 n5 w) (hF : ∀ q0 ∈ ancN7 2, factsAt (factsN7 pa g n cap S T sm ak ab an ax aa am ac al ao ad n0 n1 n2 n3 n4 n5) q0 (val RN7 c q0) w) :
    Does Tryz.prog RN7 Q (factsAt (factsN7 pa g n cap S T sm ak ab an ax aa am ac al ao ad n0 n1 n2 n3 n4 n5)) 2 c w := by
  have ho : RN7[2]? = some ({ dst := some 49, op := Op.move (Operand.tmp 8), type := 35, pos := "outright.go:32", after := #[], guard := none } : Oper) := by kernel_rfl
  have e8 := hb.t8
  have hw : Region.wanted ({ dst := some 49, op := Op.move (Operand.tmp 8), type := 35, pos := "outright.go:32", after := #[], guard := none } : Oper) (yielded RN7 c.tmps) = true := want_none rfl
  have ec : ∀ v, c.eval (.const v) = v := fun _ => rfl
  have ef : ∀ f, c.eval (.func f) = .func (.func f) #[] #[] := fun _ => rfl
  refine does_value ho hw (v := .int .i64 0) ?_ rfl (Below.refl _ _)
  generalize c.eval = ρ at *
  clear hF hb hW hw ho
  go_simp

set_option maxRecDepth 10000 in
theorem oN7_3 (pa g n cap : Nat) (S T : ByteArray) (sm : Bool) (ak : Int) (ab : Bool) (an : Int) (ax : ByteArray) (aa : Option Addr) (am ac : Nat) (al : Option Addr) (ao ad : Nat) (n0 n1 n2 n3 n4 n5 : Value) (Q : Exit → Act → World → Prop) (c : Act) (w : World) (hb : BaseN7 pa g n cap S T sm ak ab an ax aa am ac al ao ad n0 n1 n2 n3 n4 n5 c) (hW : WorldN7 pa g n cap S T sm ak ab an ax aa am ac al ao ad n0 n1 n2 n3 n4 n5 w) (hF : ∀ q0 ∈ ancN7 3, factsAt (factsN7 pa g n cap S T sm ak ab an ax aa am ac al ao ad n0 n1 n2 n3 n4 n5) q0 (val RN7 c q0) w) :
    Does Tryz.prog RN7 Q (factsAt (factsN7 pa g n cap S T sm ak ab an ax aa am ac al ao ad n0 n1 n2 n3 n4 n5)) 3 c w := by
  have ho : RN7[3]? = some ({ dst := some 50, op := Op.call { callee := Callee.value (Operand.func 22), args := #[Operand.tmp 49], argTypes := #[35] }, type := 3, pos := "outright.go:32", after := #[{ on := 2, ground := Ground.data }, { on := 1, ground := Ground.chain }], guard := none } : Oper) := by kernel_rfl
  have e49 : c.eval (.tmp 49) = .int .i64 0 := fact_at (p := eqv (.int .i64 0)) (by kernel_rfl) rfl (hF 2 (by decide))
  have hw : Region.wanted ({ dst := some 50, op := Op.call { callee := Callee.value (Operand.func 22), args := #[Operand.tmp 49], argTypes := #[35] }, type := 3, pos := "outright.go:32", after := #[{ on := 2, ground := Ground.data }, { on := 1, ground := Ground.chain }], guard := none } : Oper) (yielded RN7 c.tmps) = true := want_none rfl
  have ec : ∀ v, c.eval (.const v) = v := fun _ => rfl
  have ef : ∀ f, c.eval (.func f) = .func (.func f) #[] #[] := fun _ => rfl
  refine does_call ho hw (f := 22) (args := #[.int .i64 0]) ?_ (Calls.mono (hW.k1) fun e w' ⟨h1, h2⟩ => ⟨_, h1, rfl, h2⟩)
  generalize c.eval = ρ at *
  clear hF hb hW hw ho
  go_simp

set_option maxRecDepth 10000 in
theorem oN7_4 (pa g n cap : Nat) (S T : ByteArray) (sm : Bool) (ak : Int) (ab : Bool) (an : Int) (ax : ByteArray) (aa : Option Addr) (am ac : Nat) (al : Option Addr) (ao ad : Nat) (n0 n1 n2 n3 n4 n5 : Value) (Q : Exit → Act → World → Prop) (c : Act) (w : World) (hb : BaseN7 pa g n cap S T sm ak ab an ax aa am ac al ao ad n0 n1 n2 n3 n4 n5 c) (hW : WorldN7 pa g n cap S T sm ak ab an ax aa am ac al ao ad n0 n1 n2 n3 n4 n5 w) (hF : ∀ q0 ∈ ancN7 4, factsAt (factsN7 pa g n cap S T sm ak ab an ax aa am ac al ao ad n0 n1 n2 n3 n4 n5) q0 (val RN7 c q0) w) :
    Does Tryz.prog RN7 Q (factsAt (factsN7 pa g n cap S T sm ak ab an ax aa am ac al ao ad n0 n1 n2 n3 n4 n5)) 4 c w := by
  have ho : RN7[4]? = some ({ dst := some 51, op := Op.binOp BinOp.add 3 (Operand.tmp 48) (Operand.tmp 50) 3, type := 3, pos := "outright.go:32", after := #[{ on := 1, ground := Ground.data }, { on := 3, ground := Ground.data }], guard := none } : Oper) := by kernel_rfl
  have e48 : c.eval (.tmp 48) = .int .i64 0 := fact_at (p := eqv (.int .i64 0)) (by kernel_rfl) rfl (hF 1 (by decide))
  have e50 : c.eval (.tmp 50) = .int .i64 0 := fact_at (p := eqv (.int .i64 0)) (by kernel_rfl) rfl (hF 3 (by decide))
  have hw : Region.wanted ({ dst := some 51, op := Op.binOp BinOp.add 3 (Operand.tmp 48) (Operand.tmp 50) 3, type := 3, pos := "outright.go:32", after := #[{ on := 1, ground := Ground.data }, { on := 3, ground := Ground.data }], guard := none } : Oper) (yielded RN7 c.tmps) = true := want_none rfl
  have ec : ∀ v, c.eval (.const v) = v := fun _ => rfl
  have ef : ∀ f, c.eval (.func f) = .func (.func f) #[] #[] := fun _ => rfl
  refine does_value ho hw (v := .int .i64 0) ?_ rfl (Below.refl _ _)
  generalize c.eval = ρ at *
  clear hF hb hW hw ho
  go_simp
  rfl

set_option maxRecDepth 10000 in
theorem oN7_5 (pa g n cap : Nat) (S T : ByteArray) (sm : Bool) (ak : Int) (ab : Bool) (an : Int) (ax : ByteArray) (aa : Option Addr) (am ac : Nat) (al : Option Addr) (ao ad : Nat) (n0 n1 n2 n3 n4 n5 : Value) (Q : Exit → Act → World → Prop) (c : Act) (w : World) (hb : BaseN7 pa g n cap S T sm ak ab an ax aa am ac al ao ad n0 n1 n2 n3 n4 n5 c) (hW : WorldN7 pa g n cap S T sm ak ab an ax aa am ac al ao ad n0 n1 n2 n3 n4 n5 w) (hF : ∀ q0 ∈ ancN7 5, factsAt (factsN7 pa g n cap S T sm ak ab an ax aa am ac al ao ad n0 n1 n2 n3 n4 n5) q0 (val RN7 c q0) w) :
    Does Tryz.prog RN7 Q (factsAt (factsN7 pa g n cap S T sm ak ab an ax aa am ac al ao ad n0 n1 n2 n3 n4 n5)) 5 c w := by
  have ho : RN7[5]? = some ({ dst := some 52, op := Op.binOp BinOp.eql 3 (Operand.tmp 51) (Operand.const (Value.int IntKind.i64 0)) 3, type := 4, pos := "outright.go:32", after := #[{ on := 4, ground := Ground.data }], guard := none } : Oper) := by kernel_rfl
  have e51 : c.eval (.tmp 51) = .int .i64 0 := fact_at (p := eqv (.int .i64 0)) (by kernel_rfl) rfl (hF 4 (by decide))
  have hw : Region.wanted ({ dst := some 52, op := Op.binOp BinOp.eql 3 (Operand.tmp 51) (Operand.const (Value.int IntKind.i64 0)) 3, type := 4, pos := "outright.go:32", after := #[{ on := 4, ground := Ground.data }], guard := none } : Oper) (yielded RN7 c.tmps) = true := want_none rfl
  have ec : ∀ v, c.eval (.const v) = v := fun _ => rfl
  have ef : ∀ f, c.eval (.func f) = .func (.func f) #[] #[] := fun _ => rfl
  refine does_value ho hw (v := .bool true) ?_ rfl (Below.refl _ _)
  generalize c.eval = ρ at *
  clear hF hb hW hw ho
  go_simp

set_option maxRecDepth 10000 in
theorem oN7_6 (pa g n cap : Nat) (S T : ByteArray) (sm : Bool) (ak : Int) (ab : Bool) (an : Int) (ax : ByteArray) (aa : Option Addr) (am ac : Nat) (al : Option Addr) (ao ad : Nat) (n0 n1 n2 n3 n4 n5 : Value) (Q : Exit → Act → World → Prop) (c : Act) (w : World) (hb : BaseN7 pa g n cap S T sm ak ab an ax aa am ac al ao ad n0 n1 n2 n3 n4 n5 c) (hW : WorldN7 pa g n cap S T sm ak ab an ax aa am ac al ao ad n0 n1 n2 n3 n4 n5 w) (hF : ∀ q0 ∈ ancN7 6, factsAt (factsN7 pa g n cap S T sm ak ab an ax aa am ac al ao ad n0 n1 n2 n3 n4 n5) q0 (val RN7 c q0) w) :
    Does Tryz.prog RN7 Q (factsAt (factsN7 pa g n cap S T sm ak ab an ax aa am ac al ao ad n0 n1 n2 n3 n4 n5)) 6 c w := by
  have ho : RN7[6]? = some ({ dst := some 53, op := Op.move (Operand.tmp 52), type := 4, pos := "outright.go:32", after := #[{ on := 5, ground := Ground.data }, { on := 3, ground := Ground.chain }], guard := none } : Oper) := by kernel_rfl
  have e52 : c.eval (.tmp 52) = .bool true := fact_at (p := eqv (.bool true)) (by kernel_rfl) rfl (hF 5 (by decide))
  have hw : Region.wanted ({ dst := some 53, op := Op.move (Operand.tmp 52), type := 4, pos := "outright.go:32", after := #[{ on := 5, ground := Ground.data }, { on := 3, ground := Ground.chain }], guard := none } : Oper) (yielded RN7 c.tmps) = true := want_none rfl
  have ec : ∀ v, c.eval (.const v) = v := fun _ => rfl
  have ef : ∀ f, c.eval (.func f) = .func (.func f) #[] #[] := fun _ => rfl
  refine does_value ho hw (v := .bool true) ?_ rfl (Below.refl _ _)
  generalize c.eval = ρ at *
  clear hF hb hW hw ho
  go_simp

set_option maxRecDepth 10000 in
theorem oN7_7 (pa g n cap : Nat) (S T : ByteArray) (sm : Bool) (ak : Int) (ab : Bool) (an : Int) (ax : ByteArray) (aa : Option Addr) (am ac : Nat) (al : Option Addr) (ao ad : Nat) (n0 n1 n2 n3 n4 n5 : Value) (Q : Exit → Act → World → Prop) (c : Act) (w : World) (hb : BaseN7 pa g n cap S T sm ak ab an ax aa am ac al ao ad n0 n1 n2 n3 n4 n5 c) (hW : WorldN7 pa g n cap S T sm ak ab an ax aa am ac al ao ad n0 n1 n2 n3 n4 n5 w) (hF : ∀ q0 ∈ ancN7 7, factsAt (factsN7 pa g n cap S T sm ak ab an ax aa am ac al ao ad n0 n1 n2 n3 n4 n5) q0 (val RN7 c q0) w) :
    Does Tryz.prog RN7 Q (factsAt (factsN7 pa g n cap S T sm ak ab an ax aa am ac al ao ad n0 n1 n2 n3 n4 n5)) 7 c w := by
  have ho : RN7[7]? = some ({ dst := some 54, op := Op.move (Operand.tmp 5), type := 9, pos := "outright.go:32", after := #[{ on := 6, ground := Ground.guard }], guard := some (6, true) } : Oper) := by kernel_rfl
  have e5 := hb.t5
  have hg : val RN7 c 6 = .bool true := hF 6 (by decide)
  have hw : Region.wanted ({ dst := some 54, op := Op.move (Operand.tmp 5), type := 9, pos := "outright.go:32", after := #[{ on := 6, ground := Ground.guard }], guard := some (6, true) } : Oper) (yielded RN7 c.tmps) = true := want_eq rfl hg
  have ec : ∀ v, c.eval (.const v) = v := fun _ => rfl
  have ef : ∀ f, c.eval (.func f) = .func (.func f) #[] #[] := fun _ => rfl
  refine does_value ho hw (v := .string S) ?_ rfl (Below.refl _ _)
  generalize c.eval = ρ at *
  clear hF hb hW hw ho hg
  go_simp

set_option maxRecDepth 10000 in
theorem oN7_8 (pa g n cap : Nat) (S T : ByteArray) (sm : Bool) (ak : Int) (ab : Bool) (an : Int) (ax : ByteArray) (aa : Option Addr) (am ac : Nat) (al : Option Addr) (ao ad : Nat) (n0 n1 n2 n3 n4 n5 : Value) (Q : Exit → Act → World → Prop) (c : Act) (w : World) (hb : BaseN7 pa g n cap S T sm ak ab an ax aa am ac al ao ad n0 n1 n2 n3 n4 n5 c) (hW : WorldN7 pa g n cap S T sm ak ab an ax aa am ac al ao ad n0 n1 n2 n3 n4 n5 w) (hF : ∀ q0 ∈ ancN7 8, factsAt (factsN7 pa g n cap S T sm ak ab an ax aa am ac al ao ad n0 n1 n2 n3 n4 n5) q0 (val RN7 c q0) w) :
    Does Tryz.prog RN7 Q (factsAt (factsN7 pa g n cap S T sm ak ab an ax aa am ac al ao ad n0 n1 n2 n3 n4 n5)) 8 c w := by
  have ho : RN7[8]? = some ({ dst := some 55, op := Op.move (Operand.tmp 7), type := 9, pos := "outright.go:32", after := #[{ on := 6, ground := Ground.guard }], guard := some (6, true) } : Oper) := by kernel_rfl
  have e7 := hb.t7
  have hg : val RN7 c 6 = .bool true := hF 6 (by decide)
  have hw : Region.wanted ({ dst := some 55, op := Op.move (Operand.tmp 7), type := 9, pos := "outright.go:32", after := #[{ on := 6, ground := Ground.guard }], guard := some (6, true) } : Oper) (yielded RN7 c.tmps) = true := want_eq rfl hg
  have ec : ∀ v, c.eval (.const v) = v := fun _ => rfl
  have ef : ∀ f, c.eval (.func f) = .func (.func f) #[] #[] := fun _ => rfl
  refine does_value ho hw (v := .string T) ?_ rfl (Below.refl _ _)
  generalize c.eval = ρ at *
  clear hF hb hW hw ho hg
  go_simp

set_option maxRecDepth 10000 in
theorem oN7_9 (pa g n cap : Nat) (S T : ByteArray) (sm : Bool) (ak : Int) (ab : Bool) (an : Int) (ax : ByteArray) (aa : Option Addr) (am ac : Nat) (al : Option Addr) (ao ad : Nat) (n0 n1 n2 n3 n4 n5 : Value) (Q : Exit → Act → World → Prop) (c : Act) (w : World) (hb : BaseN7 pa g n cap S T sm ak ab an ax aa am ac al ao ad n0 n1 n2 n3 n4 n5 c) (hW : WorldN7 pa g n cap S T sm ak ab an ax aa am ac al ao ad n0 n1 n2 n3 n4 n5 w) (hF : ∀ q0 ∈ ancN7 9, factsAt (factsN7 pa g n cap S T sm ak ab an ax aa am ac al ao ad n0 n1 n2 n3 n4 n5) q0 (val RN7 c q0) w) :
    Does Tryz.prog RN7 Q (factsAt (factsN7 pa g n cap S T sm ak ab an ax aa am ac al ao ad n0 n1 n2 n3 n4 n5)) 9 c w := by
  have ho : RN7[9]? = some ({ dst := some 56, op := Op.binOp BinOp.eql 9 (Operand.tmp 54) (Operand.tmp 55) 9, type := 4, pos := "outright.go:32", after := #[{ on := 7, ground := Ground.data }, { on := 8, ground := Ground.data }, { on := 6, ground := Ground.guard }], guard := some (6, true) } : Oper) := by kernel_rfl
  have e54 : c.eval (.tmp 54) = .string S := fact_at (p := eqv (.string S)) (by kernel_rfl) rfl (hF 7 (by decide))
  have e55 : c.eval (.tmp 55) = .string T := fact_at (p := eqv (.string T)) (by kernel_rfl) rfl (hF 8 (by decide))
  have hg : val RN7 c 6 = .bool true := hF 6 (by decide)
  have hw : Region.wanted ({ dst := some 56, op := Op.binOp BinOp.eql 9 (Operand.tmp 54) (Operand.tmp 55) 9, type := 4, pos := "outright.go:32", after := #[{ on := 7, ground := Ground.data }, { on := 8, ground := Ground.data }, { on := 6, ground := Ground.guard }], guard := some (6, true) } : Oper) (yielded RN7 c.tmps) = true := want_eq rfl hg
  have ec : ∀ v, c.eval (.const v) = v := fun _ => rfl
  have ef : ∀ f, c.eval (.func f) = .func (.func f) #[] #[] := fun _ => rfl
  have hst := hW.hst
  refine does_value ho hw (v := .bool sm) ?_ rfl (Below.refl _ _)
  generalize c.eval = ρ at *
  clear hF hb hW hw ho hg
  go_simp

set_option maxRecDepth 10000 in
theorem oN7_10 (pa g n cap : Nat) (S T : ByteArray) (sm : Bool) (ak : Int) (ab : Bool) (an : Int) (ax : ByteArray) (aa : Option Addr) (am ac : Nat) (al : Option Addr) (ao ad : Nat) (n0 n1 n2 n3 n4 n5 : Value) (Q : Exit → Act → World → Prop) (c : Act) (w : World) (hb : BaseN7 pa g n cap S T sm ak ab an ax aa am ac al ao ad n0 n1 n2 n3 n4 n5 c) (hW : WorldN7 pa g n cap S T sm ak ab an ax aa am ac al ao ad n0 n1 n2 n3 n4 n5 w) (hF : ∀ q0 ∈ ancN7 10, factsAt (factsN7 pa g n cap S T sm ak ab an ax aa am ac al ao ad n0 n1 n2 n3 n4 n5) q0 (val RN7 c q0) w) :
    Does Tryz.prog RN7 Q (factsAt (factsN7 pa g n cap S T sm ak ab an ax aa am ac al ao ad n0 n1 n2 n3 n4 n5)) 10 c w := by
  have ho : RN7[10]? = some ({ dst := some 57, op := Op.move (Operand.tmp 9), type := 4, pos := "outright.go:32", after := #[{ on := 6, ground := Ground.guard }], guard := some (6, true) } : Oper) := by kernel_rfl
  have e9 := hb.t9
  have hg : val RN7 c 6 = .bool true := hF 6 (by decide)
  have hw : Region.wanted ({ dst := some 57, op := Op.move (Operand.tmp 9), type := 4, pos := "outright.go:32", after := #[{ on := 6, ground := Ground.guard }], guard := some (6, true) } : Oper) (yielded RN7 c.tmps) = true := want_eq rfl hg
  have ec : ∀ v, c.eval (.const v) = v := fun _ => rfl
  have ef : ∀ f, c.eval (.func f) = .func (.func f) #[] #[] := fun _ => rfl
  refine does_value ho hw (v := .bool sm) ?_ rfl (Below.refl _ _)
  generalize c.eval = ρ at *
  clear hF hb hW hw ho hg
  go_simp

set_option maxRecDepth 10000 in
theorem oN7_11 (pa g n cap : Nat) (S T : ByteArray) (sm : Bool) (ak : Int) (ab : Bool) (an : Int) (ax : ByteArray) (aa : Option Addr) (am ac : Nat) (al : Option Addr) (ao ad : Nat) (n0 n1 n2 n3 n4 n5 : Value) (Q : Exit → Act → World → Prop) (c : Act) (w : World) (hb : BaseN7 pa g n cap S T sm ak ab an ax aa am ac al ao ad n0 n1 n2 n3 n4 n5 c) (hW : WorldN7 pa g n cap S T sm ak ab an ax aa am ac al ao ad n0 n1 n2 n3 n4 n5 w) (hF : ∀ q0 ∈ ancN7 11, factsAt (factsN7 pa g n cap S T sm ak ab an ax aa am ac al ao ad n0 n1 n2 n3 n4 n5) q0 (val RN7 c q0) w) :
    Does Tryz.prog RN7 Q (factsAt (factsN7 pa g n cap S T sm ak ab an ax aa am ac al ao ad n0 n1 n2 n3 n4 n5)) 11 c w := by
  have ho : RN7[11]? = some ({ dst := some 58, op := Op.binOp BinOp.eql 4 (Operand.tmp 56) (Operand.tmp 57) 4, type := 4, pos := "outright.go:32", after := #[{ on := 9, ground := Ground.data }, { on := 10, ground := Ground.data }, { on := 6, ground := Ground.guard }], guard := some (6, true) } : Oper) := by kernel_rfl
  have e56 : c.eval (.tmp 56) = .bool sm := fact_at (p := eqv (.bool sm)) (by kernel_rfl) rfl (hF 9 (by decide))
  have e57 : c.eval (.tmp 57) = .bool sm := fact_at (p := eqv (.bool sm)) (by kernel_rfl) rfl (hF 10 (by decide))
  have hg : val RN7 c 6 = .bool true := hF 6 (by decide)
  have hw : Region.wanted ({ dst := some 58, op := Op.binOp BinOp.eql 4 (Operand.tmp 56) (Operand.tmp 57) 4, type := 4, pos := "outright.go:32", after := #[{ on := 9, ground := Ground.data }, { on := 10, ground := Ground.data }, { on := 6, ground := Ground.guard }], guard := some (6, true) } : Oper) (yielded RN7 c.tmps) = true := want_eq rfl hg
  have ec : ∀ v, c.eval (.const v) = v := fun _ => rfl
  have ef : ∀ f, c.eval (.func f) = .func (.func f) #[] #[] := fun _ => rfl
  refine does_value ho hw (v := .bool true) ?_ rfl (Below.refl _ _)
  generalize c.eval = ρ at *
  clear hF hb hW hw ho hg
  go_simp

set_option maxRecDepth 10000 in
theorem oN7_12 (pa g n cap : Nat) (S T : ByteArray) (sm : Bool) (ak : Int) (ab : Bool) (an : Int) (ax : ByteArray) (aa : Option Addr) (am ac : Nat) (al : Option Addr) (ao ad : Nat) (n0 n1 n2 n3 n4 n5 : Value) (Q : Exit → Act → World → Prop) (c : Act) (w : World) (hb : BaseN7 pa g n cap S T sm ak ab an ax aa am ac al ao ad n0 n1 n2 n3 n4 n5 c) (hW : WorldN7 pa g n cap S T sm ak ab an ax aa am ac al ao ad n0 n1 n2 n3 n4 n5 w) (hF : ∀ q0 ∈ ancN7 12, factsAt (factsN7 pa g n cap S T sm ak ab an ax aa am ac al ao ad n0 n1 n2 n3 n4 n5) q0 (val RN7 c q0) w) :
    Does Tryz.prog RN7 Q (factsAt (factsN7 pa g n cap S T sm ak ab an ax aa am ac al ao ad n0 n1 n2 n3 n4 n5)) 12 c w := by
  have ho : RN7[12]? = some ({ dst := some 59, op := Op.pick (Operand.tmp 53) (Operand.tmp 58) (Operand.const (Value.bool false)), type := 4, pos := "outright.go:32", after := #[{ on := 6, ground := Ground.data }, { on := 11, ground := Ground.data }], guard := none } : Oper) := by kernel_rfl
  have e53 : c.eval (.tmp 53) = .bool true := fact_at (p := eqv (.bool true)) (by kernel_rfl) rfl (hF 6 (by decide))
  have e58 : c.eval (.tmp 58) = .bool true := fact_at (p := eqv (.bool true)) (by kernel_rfl) rfl (hF 11 (by decide))
  have hw : Region.wanted ({ dst := some 59, op := Op.pick (Operand.tmp 53) (Operand.tmp 58) (Operand.const (Value.bool false)), type := 4, pos := "outright.go:32", after := #[{ on := 6, ground := Ground.data }, { on := 11, ground := Ground.data }], guard := none } : Oper) (yielded RN7 c.tmps) = true := want_none rfl
  have ec : ∀ v, c.eval (.const v) = v := fun _ => rfl
  have ef : ∀ f, c.eval (.func f) = .func (.func f) #[] #[] := fun _ => rfl
  refine does_value ho hw (v := .bool true) ?_ rfl (Below.refl _ _)
  generalize c.eval = ρ at *
  clear hF hb hW hw ho
  go_simp

set_option maxRecDepth 10000 in
theorem oN7_13 (pa g n cap : Nat) (S T : ByteArray) (sm : Bool) (ak : Int) (ab : Bool) (an : Int) (ax : ByteArray) (aa : Option Addr) (am ac : Nat) (al : Option Addr) (ao ad : Nat) (n0 n1 n2 n3 n4 n5 : Value) (Q : Exit → Act → World → Prop) (c : Act) (w : World) (hb : BaseN7 pa g n cap S T sm ak ab an ax aa am ac al ao ad n0 n1 n2 n3 n4 n5 c) (hW : WorldN7 pa g n cap S T sm ak ab an ax aa am ac al ao ad n0 n1 n2 n3 n4 n5 w) (hF : ∀ q0 ∈ ancN7 13, factsAt (factsN7 pa g n cap S T sm ak ab an ax aa am ac al ao ad n0 n1 n2 n3 n4 n5) q0 (val RN7 c q0) w) :
    Does Tryz.prog RN7 Q (factsAt (factsN7 pa g n cap S T sm ak ab an ax aa am ac al ao ad n0 n1 n2 n3 n4 n5)) 13 c w := by
  have ho : RN7[13]? = some ({ dst := some 60, op := Op.move (Operand.tmp 59), type := 4, pos := "outright.go:32", after := #[{ on := 12, ground := Ground.data }, { on := 6, ground := Ground.chain }], guard := none } : Oper) := by kernel_rfl
  have e59 : c.eval (.tmp 59) = .bool true := fact_at (p := eqv (.bool true)) (by kernel_rfl) rfl (hF 12 (by decide))
  have hw : Region.wanted ({ dst := some 60, op := Op.move (Operand.tmp 59), type := 4, pos := "outright.go:32", after := #[{ on := 12, ground := Ground.data }, { on := 6, ground := Ground.chain }], guard := none } : Oper) (yielded RN7 c.tmps) = true := want_none rfl
  have ec : ∀ v, c.eval (.const v) = v := fun _ => rfl
  have ef : ∀ f, c.eval (.func f) = .func (.func f) #[] #[] := fun _ => rfl
  refine does_value ho hw (v := .bool true) ?_ rfl (Below.refl _ _)
  generalize c.eval = ρ at *
  clear hF hb hW hw ho
  go_simp

set_option maxRecDepth 10000 in
theorem oN7_14 (pa g n cap : Nat) (S T : ByteArray) (sm : Bool) (ak : Int) (ab : Bool) (an : Int) (ax : ByteArray) (aa : Option Addr) (am ac : Nat) (al : Option Addr) (ao ad : Nat) (n0 n1 n2 n3 n4 n5 : Value) (Q : Exit → Act → World → Prop) (c : Act) (w : World) (hb : BaseN7 pa g n cap S T sm ak ab an ax aa am ac al ao ad n0 n1 n2 n3 n4 n5 c) (hW : WorldN7 pa g n cap S T sm ak ab an ax aa am ac al ao ad n0 n1 n2 n3 n4 n5 w) (hF : ∀ q0 ∈ ancN7 14, factsAt (factsN7 pa g n cap S T sm ak ab an ax aa am ac al ao ad n0 n1 n2 n3 n4 n5) q0 (val RN7 c q0) w) :
    Does Tryz.prog RN7 Q (factsAt (factsN7 pa g n cap S T sm ak ab an ax aa am ac al ao ad n0 n1 n2 n3 n4 n5)) 14 c w := by
  have ho : RN7[14]? = some ({ dst := some 61, op := Op.move (Operand.tmp 10), type := 24, pos := "outright.go:32", after := #[{ on := 13, ground := Ground.guard }], guard := some (13, true) } : Oper) := by kernel_rfl
  have e10 := hb.t10
  have hg : val RN7 c 13 = .bool true := hF 13 (by decide)
  have hw : Region.wanted ({ dst := some 61, op := Op.move (Operand.tmp 10), type := 24, pos := "outright.go:32", after := #[{ on := 13, ground := Ground.guard }], guard := some (13, true) } : Oper) (yielded RN7 c.tmps) = true := want_eq rfl hg
  have ec : ∀ v, c.eval (.const v) = v := fun _ => rfl
  have ef : ∀ f, c.eval (.func f) = .func (.func f) #[] #[] := fun _ => rfl
  refine does_value ho hw (v := .slice (some ⟨g, 0, none⟩) n cap) ?_ rfl (Below.refl _ _)
  generalize c.eval = ρ at *
  clear hF hb hW hw ho hg
  go_simp

set_option maxRecDepth 10000 in
theorem oN7_15 (pa g n cap : Nat) (S T : ByteArray) (sm : Bool) (ak : Int) (ab : Bool) (an : Int) (ax : ByteArray) (aa : Option Addr) (am ac : Nat) (al : Option Addr) (ao ad : Nat) (n0 n1 n2 n3 n4 n5 : Value) (Q : Exit → Act → World → Prop) (c : Act) (w : World) (hb : BaseN7 pa g n cap S T sm ak ab an ax aa am ac al ao ad n0 n1 n2 n3 n4 n5 c) (hW : WorldN7 pa g n cap S T sm ak ab an ax aa am ac al ao ad n0 n1 n2 n3 n4 n5 w) (hF : ∀ q0 ∈ ancN7 15, factsAt (factsN7 pa g n cap S T sm ak ab an ax aa am ac al ao ad n0 n1 n2 n3 n4 n5) q0 (val RN7 c q0) w) :
    Does Tryz.prog RN7 Q (factsAt (factsN7 pa g n cap S T sm ak ab an ax aa am ac al ao ad n0 n1 n2 n3 n4 n5)) 15 c w := by
  have ho : RN7[15]? = some ({ dst := some 62, op := Op.call { callee := Callee.builtin Builtin.len, args := #[Operand.tmp 61], argTypes := #[24] }, type := 3, pos := "outright.go:32", after := #[{ on := 14, ground := Ground.data }, { on := 13, ground := Ground.guard }], guard := some (13, true) } : Oper) := by kernel_rfl
  have e61 : c.eval (.tmp 61) = .slice (some ⟨g, 0, none⟩) n cap := fact_at (p := eqv (.slice (some ⟨g, 0, none⟩) n cap)) (by kernel_rfl) rfl (hF 14 (by decide))
  have hg : val RN7 c 13 = .bool true := hF 13 (by decide)
  have hw : Region.wanted ({ dst := some 62, op := Op.call { callee := Callee.builtin Builtin.len, args := #[Operand.tmp 61], argTypes := #[24] }, type := 3, pos := "outright.go:32", after := #[{ on := 14, ground := Ground.data }, { on := 13, ground := Ground.guard }], guard := some (13, true) } : Oper) (yielded RN7 c.tmps) = true := want_eq rfl hg
  have ec : ∀ v, c.eval (.const v) = v := fun _ => rfl
  have ef : ∀ f, c.eval (.func f) = .func (.func f) #[] #[] := fun _ => rfl
  refine does_value ho hw (v := .int .i64 (n : Int)) ?_ rfl (Below.refl _ _)
  generalize c.eval = ρ at *
  clear hF hb hW hw ho hg
  go_simp

set_option maxRecDepth 10000 in
theorem oN7_16 (pa g n cap : Nat) (S T : ByteArray) (sm : Bool) (ak : Int) (ab : Bool) (an : Int) (ax : ByteArray) (aa : Option Addr) (am ac : Nat) (al : Option Addr) (ao ad : Nat) (n0 n1 n2 n3 n4 n5 : Value) (Q : Exit → Act → World → Prop) (c : Act) (w : World) (hb : BaseN7 pa g n cap S T sm ak ab an ax aa am ac al ao ad n0 n1 n2 n3 n4 n5 c) (hW : WorldN7 pa g n cap S T sm ak ab an ax aa am ac al ao ad n0 n1 n2 n3 n4 n5 w) (hF : ∀ q0 ∈ ancN7 16, factsAt (factsN7 pa g n cap S T sm ak ab an ax aa am ac al ao ad n0 n1 n2 n3 n4 n5) q0 (val RN7 c q0) w) :
    Does Tryz.prog RN7 Q (factsAt (factsN7 pa g n cap S T sm ak ab an ax aa am ac al ao ad n0 n1 n2 n3 n4 n5)) 16 c w := by
  have ho : RN7[16]? = some ({ dst := some 63, op := Op.binOp BinOp.eql 3 (Operand.tmp 62) (Operand.const (Value.int IntKind.i64 1)) 3, type := 4, pos := "outright.go:32", after := #[{ on := 15, ground := Ground.data }, { on := 13, ground := Ground.guard }], guard := some (13, true) } : Oper) := by kernel_rfl
  have e62 : c.eval (.tmp 62) = .int .i64 (n : Int) := fact_at (p := eqv (.int .i64 (n : Int))) (by kernel_rfl) rfl (hF 15 (by decide))
  have hg : val RN7 c 13 = .bool true := hF 13 (by decide)
  have hw : Region.wanted ({ dst := some 63, op := Op.binOp BinOp.eql 3 (Operand.tmp 62) (Operand.const (Value.int IntKind.i64 1)) 3, type := 4, pos := "outright.go:32", after := #[{ on := 15, ground := Ground.data }, { on := 13, ground := Ground.guard }], guard := some (13, true) } : Oper) (yielded RN7 c.tmps) = true := want_eq rfl hg
  have ec : ∀ v, c.eval (.const v) = v := fun _ => rfl
  have ef : ∀ f, c.eval (.func f) = .func (.func f) #[] #[] := fun _ => rfl
  have hln := hW.hln
  refine does_value ho hw (v := .bool sm) ?_ rfl (Below.refl _ _)
  generalize c.eval = ρ at *
  clear hF hb hW hw ho hg
  go_simp

set_option maxRecDepth 10000 in
theorem oN7_17 (pa g n cap : Nat) (S T : ByteArray) (sm : Bool) (ak : Int) (ab : Bool) (an : Int) (ax : ByteArray) (aa : Option Addr) (am ac : Nat) (al : Option Addr) (ao ad : Nat) (n0 n1 n2 n3 n4 n5 : Value) (Q : Exit → Act → World → Prop) (c : Act) (w : World) (hb : BaseN7 pa g n cap S T sm ak ab an ax aa am ac al ao ad n0 n1 n2 n3 n4 n5 c) (hW : WorldN7 pa g n cap S T sm ak ab an ax aa am ac al ao ad n0 n1 n2 n3 n4 n5 w) (hF : ∀ q0 ∈ ancN7 17, factsAt (factsN7 pa g n cap S T sm ak ab an ax aa am ac al ao ad n0 n1 n2 n3 n4 n5) q0 (val RN7 c q0) w) :
    Does Tryz.prog RN7 Q (factsAt (factsN7 pa g n cap S T sm ak ab an ax aa am ac al ao ad n0 n1 n2 n3 n4 n5)) 17 c w := by
  have ho : RN7[17]? = some ({ dst := some 64, op := Op.move (Operand.tmp 9), type := 4, pos := "outright.go:32", after := #[{ on := 13, ground := Ground.guard }], guard := some (13, true) } : Oper) := by kernel_rfl
  have e9 := hb.t9
  have hg : val RN7 c 13 = .bool true := hF 13 (by decide)
  have hw : Region.wanted ({ dst := some 64, op := Op.move (Operand.tmp 9), type := 4, pos := "outright.go:32", after := #[{ on := 13, ground := Ground.guard }], guard := some (13, true) } : Oper) (yielded RN7 c.tmps) = true := want_eq rfl hg
  have ec : ∀ v, c.eval (.const v) = v := fun _ => rfl
  have ef : ∀ f, c.eval (.func f) = .func (.func f) #[] #[] := fun _ => rfl
  refine does_value ho hw (v := .bool sm) ?_ rfl (Below.refl _ _)
  generalize c.eval = ρ at *
  clear hF hb hW hw ho hg
  go_simp

set_option maxRecDepth 10000 in
theorem oN7_18 (pa g n cap : Nat) (S T : ByteArray) (sm : Bool) (ak : Int) (ab : Bool) (an : Int) (ax : ByteArray) (aa : Option Addr) (am ac : Nat) (al : Option Addr) (ao ad : Nat) (n0 n1 n2 n3 n4 n5 : Value) (Q : Exit → Act → World → Prop) (c : Act) (w : World) (hb : BaseN7 pa g n cap S T sm ak ab an ax aa am ac al ao ad n0 n1 n2 n3 n4 n5 c) (hW : WorldN7 pa g n cap S T sm ak ab an ax aa am ac al ao ad n0 n1 n2 n3 n4 n5 w) (hF : ∀ q0 ∈ ancN7 18, factsAt (factsN7 pa g n cap S T sm ak ab an ax aa am ac al ao ad n0 n1 n2 n3 n4 n5) q0 (val RN7 c q0) w) :
    Does Tryz.prog RN7 Q (factsAt (factsN7 pa g n cap S T sm ak ab an ax aa am ac al ao ad n0 n1 n2 n3 n4 n5)) 18 c w := by
  have ho : RN7[18]? = some ({ dst := some 65, op := Op.binOp BinOp.eql 4 (Operand.tmp 63) (Operand.tmp 64) 4, type := 4, pos := "outright.go:32", after := #[{ on := 16, ground := Ground.data }, { on := 17, ground := Ground.data }, { on := 13, ground := Ground.guard }], guard := some (13, true) } : Oper) := by kernel_rfl
  have e63 : c.eval (.tmp 63) = .bool sm := fact_at (p := eqv (.bool sm)) (by kernel_rfl) rfl (hF 16 (by decide))
  have e64 : c.eval (.tmp 64) = .bool sm := fact_at (p := eqv (.bool sm)) (by kernel_rfl) rfl (hF 17 (by decide))
  have hg : val RN7 c 13 = .bool true := hF 13 (by decide)
  have hw : Region.wanted ({ dst := some 65, op := Op.binOp BinOp.eql 4 (Operand.tmp 63) (Operand.tmp 64) 4, type := 4, pos := "outright.go:32", after := #[{ on := 16, ground := Ground.data }, { on := 17, ground := Ground.data }, { on := 13, ground := Ground.guard }], guard := some (13, true) } : Oper) (yielded RN7 c.tmps) = true := want_eq rfl hg
  have ec : ∀ v, c.eval (.const v) = v := fun _ => rfl
  have ef : ∀ f, c.eval (.func f) = .func (.func f) #[] #[] := fun _ => rfl
  refine does_value ho hw (v := .bool true) ?_ rfl (Below.refl _ _)
  generalize c.eval = ρ at *
  clear hF hb hW hw ho hg
  go_simp

set_option maxRecDepth 10000 in
theorem oN7_19 (pa g n cap : Nat) (S T : ByteArray) (sm : Bool) (ak : Int) (ab : Bool) (an : Int) (ax : ByteArray) (aa : Option Addr) (am ac : Nat) (al : Option Addr) (ao ad : Nat) (n0 n1 n2 n3 n4 n5 : Value) (Q : Exit → Act → World → Prop) (c : Act) (w : World) (hb : BaseN7 pa g n cap S T sm ak ab an ax aa am ac al ao ad n0 n1 n2 n3 n4 n5 c) (hW : WorldN7 pa g n cap S T sm ak ab an ax aa am ac al ao ad n0 n1 n2 n3 n4 n5 w) (hF : ∀ q0 ∈ ancN7 19, factsAt (factsN7 pa g n cap S T sm ak ab an ax aa am ac al ao ad n0 n1 n2 n3 n4 n5) q0 (val RN7 c q0) w) :
    Does Tryz.prog RN7 Q (factsAt (factsN7 pa g n cap S T sm ak ab an ax aa am ac al ao ad n0 n1 n2 n3 n4 n5)) 19 c w := by
  have ho : RN7[19]? = some ({ dst := some 66, op := Op.pick (Operand.tmp 60) (Operand.tmp 65) (Operand.const (Value.bool false)), type := 4, pos := "outright.go:32", after := #[{ on := 13, ground := Ground.data }, { on := 18, ground := Ground.data }], guard := none } : Oper) := by kernel_rfl
  have e60 : c.eval (.tmp 60) = .bool true := fact_at (p := eqv (.bool true)) (by kernel_rfl) rfl (hF 13 (by decide))
  have e65 : c.eval (.tmp 65) = .bool true := fact_at (p := eqv (.bool true)) (by kernel_rfl) rfl (hF 18 (by decide))
  have hw : Region.wanted ({ dst := some 66, op := Op.pick (Operand.tmp 60) (Operand.tmp 65) (Operand.const (Value.bool false)), type := 4, pos := "outright.go:32", after := #[{ on := 13, ground := Ground.data }, { on := 18, ground := Ground.data }], guard := none } : Oper) (yielded RN7 c.tmps) = true := want_none rfl
  have ec : ∀ v, c.eval (.const v) = v := fun _ => rfl
  have ef : ∀ f, c.eval (.func f) = .func (.func f) #[] #[] := fun _ => rfl
  refine does_value ho hw (v := .bool true) ?_ rfl (Below.refl _ _)
  generalize c.eval = ρ at *
  clear hF hb hW hw ho
  go_simp

set_option maxRecDepth 10000 in
theorem oN7_20 (pa g n cap : Nat) (S T : ByteArray) (sm : Bool) (ak : Int) (ab : Bool) (an : Int) (ax : ByteArray) (aa : Option Addr) (am ac : Nat) (al : Option Addr) (ao ad : Nat) (n0 n1 n2 n3 n4 n5 : Value) (Q : Exit → Act → World → Prop) (c : Act) (w : World) (hb : BaseN7 pa g n cap S T sm ak ab an ax aa am ac al ao ad n0 n1 n2 n3 n4 n5 c) (hW : WorldN7 pa g n cap S T sm ak ab an ax aa am ac al ao ad n0 n1 n2 n3 n4 n5 w) (hF : ∀ q0 ∈ ancN7 20, factsAt (factsN7 pa g n cap S T sm ak ab an ax aa am ac al ao ad n0 n1 n2 n3 n4 n5) q0 (val RN7 c q0) w) :
    Does Tryz.prog RN7 Q (factsAt (factsN7 pa g n cap S T sm ak ab an ax aa am ac al ao ad n0 n1 n2 n3 n4 n5)) 20 c w := by
  have ho : RN7[20]? = some ({ dst := some 67, op := Op.move (Operand.tmp 66), type := 4, pos := "outright.go:32", after := #[{ on := 19, ground := Ground.data }, { on := 13, ground := Ground.chain }], guard := none } : Oper) := by kernel_rfl
  have e66 : c.eval (.tmp 66) = .bool true := fact_at (p := eqv (.bool true)) (by kernel_rfl) rfl (hF 19 (by decide))
  have hw : Region.wanted ({ dst := some 67, op := Op.move (Operand.tmp 66), type := 4, pos := "outright.go:32", after := #[{ on := 19, ground := Ground.data }, { on := 13, ground := Ground.chain }], guard := none } : Oper) (yielded RN7 c.tmps) = true := want_none rfl
  have ec : ∀ v, c.eval (.const v) = v := fun _ => rfl
  have ef : ∀ f, c.eval (.func f) = .func (.func f) #[] #[] := fun _ => rfl
  refine does_value ho hw (v := .bool true) ?_ rfl (Below.refl _ _)
  generalize c.eval = ρ at *
  clear hF hb hW hw ho
  go_simp

set_option maxRecDepth 10000 in
theorem oN7_21 (pa g n cap : Nat) (S T : ByteArray) (sm : Bool) (ak : Int) (ab : Bool) (an : Int) (ax : ByteArray) (aa : Option Addr) (am ac : Nat) (al : Option Addr) (ao ad : Nat) (n0 n1 n2 n3 n4 n5 : Value) (Q : Exit → Act → World → Prop) (c : Act) (w : World) (hb : BaseN7 pa g n cap S T sm ak ab an ax aa am ac al ao ad n0 n1 n2 n3 n4 n5 c) (hW : WorldN7 pa g n cap S T sm ak ab an ax aa am ac al ao ad n0 n1 n2 n3 n4 n5 w) (hF : ∀ q0 ∈ ancN7 21, factsAt (factsN7 pa g n cap S T sm ak ab an ax aa am ac al ao ad n0 n1 n2 n3 n4 n5) q0 (val RN7 c q0) w) :
    Does Tryz.prog RN7 Q (factsAt (factsN7 pa g n cap S T sm ak ab an ax aa am ac al ao ad n0 n1 n2 n3 n4 n5)) 21 c w := by
  have ho : RN7[21]? = some ({ dst := some 68, op := Op.move (Operand.tmp 10), type := 24, pos := "outright.go:32", after := #[{ on := 20, ground := Ground.guard }], guard := some (20, true) } : Oper) := by kernel_rfl
  have e10 := hb.t10
  have hg : val RN7 c 20 = .bool true := hF 20 (by decide)
  have hw : Region.wanted ({ dst := some 68, op := Op.move (Operand.tmp 10), type := 24, pos := "outright.go:32", after := #[{ on := 20, ground := Ground.guard }], guard := some (20, true) } : Oper) (yielded RN7 c.tmps) = true := want_eq rfl hg
  have ec : ∀ v, c.eval (.const v) = v := fun _ => rfl
  have ef : ∀ f, c.eval (.func f) = .func (.func f) #[] #[] := fun _ => rfl
  refine does_value ho hw (v := .slice (some ⟨g, 0, none⟩) n cap) ?_ rfl (Below.refl _ _)
  generalize c.eval = ρ at *
  clear hF hb hW hw ho hg
  go_simp

set_option maxRecDepth 10000 in
theorem oN7_22 (pa g n cap : Nat) (S T : ByteArray) (sm : Bool) (ak : Int) (ab : Bool) (an : Int) (ax : ByteArray) (aa : Option Addr) (am ac : Nat) (al : Option Addr) (ao ad : Nat) (n0 n1 n2 n3 n4 n5 : Value) (Q : Exit → Act → World → Prop) (c : Act) (w : World) (hb : BaseN7 pa g n cap S T sm ak ab an ax aa am ac al ao ad n0 n1 n2 n3 n4 n5 c) (hW : WorldN7 pa g n cap S T sm ak ab an ax aa am ac al ao ad n0 n1 n2 n3 n4 n5 w) (hF : ∀ q0 ∈ ancN7 22, factsAt (factsN7 pa g n cap S T sm ak ab an ax aa am ac al ao ad n0 n1 n2 n3 n4 n5) q0 (val RN7 c q0) w) :
    Does Tryz.prog RN7 Q (factsAt (factsN7 pa g n cap S T sm ak ab an ax aa am ac al ao ad n0 n1 n2 n3 n4 n5)) 22 c w := by
  have ho : RN7[22]? = some ({ dst := some 69, op := Op.call { callee := Callee.builtin Builtin.len, args := #[Operand.tmp 68], argTypes := #[24] }, type := 3, pos := "outright.go:32", after := #[{ on := 21, ground := Ground.data }, { on := 20, ground := Ground.guard }], guard := some (20, true) } : Oper) := by kernel_rfl
  have e68 : c.eval (.tmp 68) = .slice (some ⟨g, 0, none⟩) n cap := fact_at (p := eqv (.slice (some ⟨g, 0, none⟩) n cap)) (by kernel_rfl) rfl (hF 21 (by decide))
  have hg : val RN7 c 20 = .bool true := hF 20 (by decide)
  have hw : Region.wanted ({ dst := some 69, op := Op.call { callee := Callee.builtin Builtin.len, args := #[Operand.tmp 68], argTypes := #[24] }, type := 3, pos := "outright.go:32", after := #[{ on := 21, ground := Ground.data }, { on := 20, ground := Ground.guard }], guard := some (20, true) } : Oper) (yielded RN7 c.tmps) = true := want_eq rfl hg
  have ec : ∀ v, c.eval (.const v) = v := fun _ => rfl
  have ef : ∀ f, c.eval (.func f) = .func (.func f) #[] #[] := fun _ => rfl
  refine does_value ho hw (v := .int .i64 (n : Int)) ?_ rfl (Below.refl _ _)
  generalize c.eval = ρ at *
  clear hF hb hW hw ho hg
  go_simp

set_option maxRecDepth 10000 in
theorem oN7_23 (pa g n cap : Nat) (S T : ByteArray) (sm : Bool) (ak : Int) (ab : Bool) (an : Int) (ax : ByteArray) (aa : Option Addr) (am ac : Nat) (al : Option Addr) (ao ad : Nat) (n0 n1 n2 n3 n4 n5 : Value) (Q : Exit → Act → World → Prop) (c : Act) (w : World) (hb : BaseN7 pa g n cap S T sm ak ab an ax aa am ac al ao ad n0 n1 n2 n3 n4 n5 c) (hW : WorldN7 pa g n cap S T sm ak ab an ax aa am ac al ao ad n0 n1 n2 n3 n4 n5 w) (hF : ∀ q0 ∈ ancN7 23, factsAt (factsN7 pa g n cap S T sm ak ab an ax aa am ac al ao ad n0 n1 n2 n3 n4 n5) q0 (val RN7 c q0) w) :
    Does Tryz.prog RN7 Q (factsAt (factsN7 pa g n cap S T sm ak ab an ax aa am ac al ao ad n0 n1 n2 n3 n4 n5)) 23 c w := by
  have ho : RN7[23]? = some ({ dst := some 70, op := Op.binOp BinOp.geq 3 (Operand.tmp 69) (Operand.const (Value.int IntKind.i64 1)) 3, type := 4, pos := "outright.go:32", after := #[{ on := 22, ground := Ground.data }, { on := 20, ground := Ground.guard }], guard := some (20, true) } : Oper) := by kernel_rfl
  have e69 : c.eval (.tmp 69) = .int .i64 (n : Int) := fact_at (p := eqv (.int .i64 (n : Int))) (by kernel_rfl) rfl (hF 22 (by decide))
  have hg : val RN7 c 20 = .bool true := hF 20 (by decide)
  have hw : Region.wanted ({ dst := some 70, op := Op.binOp BinOp.geq 3 (Operand.tmp 69) (Operand.const (Value.int IntKind.i64 1)) 3, type := 4, pos := "outright.go:32", after := #[{ on := 22, ground := Ground.data }, { on := 20, ground := Ground.guard }], guard := some (20, true) } : Oper) (yielded RN7 c.tmps) = true := want_eq rfl hg
  have ec : ∀ v, c.eval (.const v) = v := fun _ => rfl
  have ef : ∀ f, c.eval (.func f) = .func (.func f) #[] #[] := fun _ => rfl
  have hge := hW.hge
  refine does_value ho hw (v := .bool true) ?_ rfl (Below.refl _ _)
  generalize c.eval = ρ at *
  clear hF hb hW hw ho hg
  go_simp

set_option maxRecDepth 10000 in
theorem oN7_24 (pa g n cap : Nat) (S T : ByteArray) (sm : Bool) (ak : Int) (ab : Bool) (an : Int) (ax : ByteArray) (aa : Option Addr) (am ac : Nat) (al : Option Addr) (ao ad : Nat) (n0 n1 n2 n3 n4 n5 : Value) (Q : Exit → Act → World → Prop) (c : Act) (w : World) (hb : BaseN7 pa g n cap S T sm ak ab an ax aa am ac al ao ad n0 n1 n2 n3 n4 n5 c) (hW : WorldN7 pa g n cap S T sm ak ab an ax aa am ac al ao ad n0 n1 n2 n3 n4 n5 w) (hF : ∀ q0 ∈ ancN7 24, factsAt (factsN7 pa g n cap S T sm ak ab an ax aa am ac al ao ad n0 n1 n2 n3 n4 n5) q0 (val RN7 c q0) w) :
    Does Tryz.prog RN7 Q (factsAt (factsN7 pa g n cap S T sm ak ab an ax aa am ac al ao ad n0 n1 n2 n3 n4 n5)) 24 c w := by
  have ho : RN7[24]? = some ({ dst := some 71, op := Op.pick (Operand.tmp 67) (Operand.tmp 70) (Operand.const (Value.bool false)), type := 4, pos := "outright.go:32", after := #[{ on := 20, ground := Ground.data }, { on := 23, ground := Ground.data }], guard := none } : Oper) := by kernel_rfl
  have e67 : c.eval (.tmp 67) = .bool true := fact_at (p := eqv (.bool true)) (by kernel_rfl) rfl (hF 20 (by decide))
  have e70 : c.eval (.tmp 70) = .bool true := fact_at (p := eqv (.bool true)) (by kernel_rfl) rfl (hF 23 (by decide))
  have hw : Region.wanted ({ dst := some 71, op := Op.pick (Operand.tmp 67) (Operand.tmp 70) (Operand.const (Value.bool false)), type := 4, pos := "outright.go:32", after := #[{ on := 20, ground := Ground.data }, { on := 23, ground := Ground.data }], guard := none } : Oper) (yielded RN7 c.tmps) = true := want_none rfl
  have ec : ∀ v, c.eval (.const v) = v := fun _ => rfl
  have ef : ∀ f, c.eval (.func f) = .func (.func f) #[] #[] := fun _ => rfl
  refine does_value ho hw (v := .bool true) ?_ rfl (Below.refl _ _)
  generalize c.eval = ρ at *
  clear hF hb hW hw ho
  go_simp

set_option maxRecDepth 10000 in
theorem oN7_25 (pa g n cap : Nat) (S T : ByteArray) (sm : Bool) (ak : Int) (ab : Bool) (an : Int) (ax : ByteArray) (aa : Option Addr) (am ac : Nat) (al : Option Addr) (ao ad : Nat) (n0 n1 n2 n3 n4 n5 : Value) (Q : Exit → Act → World → Prop) (c : Act) (w : World) (hb : BaseN7 pa g n cap S T sm ak ab an ax aa am ac al ao ad n0 n1 n2 n3 n4 n5 c) (hW : WorldN7 pa g n cap S T sm ak ab an ax aa am ac al ao ad n0 n1 n2 n3 n4 n5 w) (hF : ∀ q0 ∈ ancN7 25, factsAt (factsN7 pa g n cap S T sm ak ab an ax aa am ac al ao ad n0 n1 n2 n3 n4 n5) q0 (val RN7 c q0) w) :
    Does Tryz.prog RN7 Q (factsAt (factsN7 pa g n cap S T sm ak ab an ax aa am ac al ao ad n0 n1 n2 n3 n4 n5)) 25 c w := by
  have ho : RN7[25]? = some ({ dst := some 72, op := Op.move (Operand.tmp 71), type := 4, pos := "outright.go:32", after := #[{ on := 24, ground := Ground.data }, { on := 20, ground := Ground.chain }], guard := none } : Oper) := by kernel_rfl
  have e71 : c.eval (.tmp 71) = .bool true := fact_at (p := eqv (.bool true)) (by kernel_rfl) rfl (hF 24 (by decide))
  have hw : Region.wanted ({ dst := some 72, op := Op.move (Operand.tmp 71), type := 4, pos := "outright.go:32", after := #[{ on := 24, ground := Ground.data }, { on := 20, ground := Ground.chain }], guard := none } : Oper) (yielded RN7 c.tmps) = true := want_none rfl
  have ec : ∀ v, c.eval (.const v) = v := fun _ => rfl
  have ef : ∀ f, c.eval (.func f) = .func (.func f) #[] #[] := fun _ => rfl
  refine does_value ho hw (v := .bool true) ?_ rfl (Below.refl _ _)
  generalize c.eval = ρ at *
  clear hF hb hW hw ho
  go_simp

set_option maxRecDepth 10000 in
theorem oN7_26 (pa g n cap : Nat) (S T : ByteArray) (sm : Bool) (ak : Int) (ab : Bool) (an : Int) (ax : ByteArray) (aa : Option Addr) (am ac : Nat) (al : Option Addr) (ao ad : Nat) (n0 n1 n2 n3 n4 n5 : Value) (Q : Exit → Act → World → Prop) (c : Act) (w : World) (hb : BaseN7 pa g n cap S T sm ak ab an ax aa am ac al ao ad n0 n1 n2 n3 n4 n5 c) (hW : WorldN7 pa g n cap S T sm ak ab an ax aa am ac al ao ad n0 n1 n2 n3 n4 n5 w) (hF : ∀ q0 ∈ ancN7 26, factsAt (factsN7 pa g n cap S T sm ak ab an ax aa am ac al ao ad n0 n1 n2 n3 n4 n5) q0 (val RN7 c q0) w) :
    Does Tryz.prog RN7 Q (factsAt (factsN7 pa g n cap S T sm ak ab an ax aa am ac al ao ad n0 n1 n2 n3 n4 n5)) 26 c w := by
  have ho : RN7[26]? = some ({ dst := some 73, op := Op.move (Operand.tmp 10), type := 24, pos := "outright.go:32", after := #[{ on := 25, ground := Ground.guard }], guard := some (25, true) } : Oper) := by kernel_rfl
  have e10 := hb.t10
  have hg : val RN7 c 25 = .bool true := hF 25 (by decide)
  have hw : Region.wanted ({ dst := some 73, op := Op.move (Operand.tmp 10), type := 24, pos := "outright.go:32", after := #[{ on := 25, ground := Ground.guard }], guard := some (25, true) } : Oper) (yielded RN7 c.tmps) = true := want_eq rfl hg
  have ec : ∀ v, c.eval (.const v) = v := fun _ => rfl
  have ef : ∀ f, c.eval (.func f) = .func (.func f) #[] #[] := fun _ => rfl
  refine does_value ho hw (v := .slice (some ⟨g, 0, none⟩) n cap) ?_ rfl (Below.refl _ _)
  generalize c.eval = ρ at *
  clear hF hb hW hw ho hg
  go_simp

set_option maxRecDepth 10000 in
theorem oN7_27 (pa g n cap : Nat) (S T : ByteArray) (sm : Bool) (ak : Int) (ab : Bool) (an : Int) (ax : ByteArray) (aa : Option Addr) (am ac : Nat) (al : Option Addr) (ao ad : Nat) (n0 n1 n2 n3 n4 n5 : Value) (Q : Exit → Act → World → Prop) (c : Act) (w : World) (hb : BaseN7 pa g n cap S T sm ak ab an ax aa am ac al ao ad n0 n1 n2 n3 n4 n5 c) (hW : WorldN7 pa g n cap S T sm ak ab an ax aa am ac al ao ad n0 n1 n2 n3 n4 n5 w) (hF : ∀ q0 ∈ ancN7 27, factsAt (factsN7 pa g n cap S T sm ak ab an ax aa am ac al ao ad n0 n1 n2 n3 n4 n5) q0 (val RN7 c q0) w) :
    Does Tryz.prog RN7 Q (factsAt (factsN7 pa g n cap S T sm ak ab an ax aa am ac al ao ad n0 n1 n2 n3 n4 n5)) 27 c w := by
  have ho : RN7[27]? = some ({ dst := some 74, op := Op.indexAddr 24 (Operand.tmp 73) (Operand.const (Value.int IntKind.i64 0)), type := 0, pos := "outright.go:32", after := #[{ on := 26, ground := Ground.data }, { on := 25, ground := Ground.guard }], guard := some (25, true) } : Oper) := by kernel_rfl
  have e73 : c.eval (.tmp 73) = .slice (some ⟨g, 0, none⟩) n cap := fact_at (p := eqv (.slice (some ⟨g, 0, none⟩) n cap)) (by kernel_rfl) rfl (hF 26 (by decide))
  have hg : val RN7 c 25 = .bool true := hF 25 (by decide)
  have hw : Region.wanted ({ dst := some 74, op := Op.indexAddr 24 (Operand.tmp 73) (Operand.const (Value.int IntKind.i64 0)), type := 0, pos := "outright.go:32", after := #[{ on := 26, ground := Ground.data }, { on := 25, ground := Ground.guard }], guard := some (25, true) } : Oper) (yielded RN7 c.tmps) = true := want_eq rfl hg
  have ec : ∀ v, c.eval (.const v) = v := fun _ => rfl
  have ef : ∀ f, c.eval (.func f) = .func (.func f) #[] #[] := fun _ => rfl
  have h0 : (0 : Int) < (n : Int) := by have := hW.hge; omega
  have hge := hW.hge
  refine does_value ho hw (v := .pointer (some ⟨g, 0, none⟩)) ?_ rfl (Below.refl _ _)
  generalize c.eval = ρ at *
  clear hF hb hW hw ho hg
  go_simp
  intro h; omega

set_option maxRecDepth 10000 in
theorem oN7_28 (pa g n cap : Nat) (S T : ByteArray) (sm : Bool) (ak : Int) (ab : Bool) (an : Int) (ax : ByteArray) (aa : Option Addr) (am ac : Nat) (al : Option Addr) (ao ad : Nat) (n0 n1 n2 n3 n4 n5 : Value) (Q : Exit → Act → World → Prop) (c : Act) (w : World) (hb : BaseN7 pa g n cap S T sm ak ab an ax aa am ac al ao ad n0 n1 n2 n3 n4 n5 c) (hW : WorldN7 pa g n cap S T sm ak ab an ax aa am ac al ao ad n0 n1 n2 n3 n4 n5 w) (hF : ∀ q0 ∈ ancN7 28, factsAt (factsN7 pa g n cap S T sm ak ab an ax aa am ac al ao ad n0 n1 n2 n3 n4 n5) q0 (val RN7 c q0) w) :
    Does Tryz.prog RN7 Q (factsAt (factsN7 pa g n cap S T sm ak ab an ax aa am ac al ao ad n0 n1 n2 n3 n4 n5)) 28 c w := by
  have ho : RN7[28]? = some ({ dst := some 75, op := Op.load 26 (Operand.tmp 74), type := 26, pos := "outright.go:32", after := #[{ on := 27, ground := Ground.data }, { on := 25, ground := Ground.guard }], guard := some (25, true) } : Oper) := by kernel_rfl
  have e74 : c.eval (.tmp 74) = .pointer (some ⟨g, 0, none⟩) := fact_at (p := eqv (.pointer (some ⟨g, 0, none⟩))) (by kernel_rfl) rfl (hF 27 (by decide))
  have hg : val RN7 c 25 = .bool true := hF 25 (by decide)
  have hw : Region.wanted ({ dst := some 75, op := Op.load 26 (Operand.tmp 74), type := 26, pos := "outright.go:32", after := #[{ on := 27, ground := Ground.data }, { on := 25, ground := Ground.guard }], guard := some (25, true) } : Oper) (yielded RN7 c.tmps) = true := want_eq rfl hg
  have ec : ∀ v, c.eval (.const v) = v := fun _ => rfl
  have ef : ∀ f, c.eval (.func f) = .func (.func f) #[] #[] := fun _ => rfl
  have xn0 := hW.xn0
  have xn1 := hW.xn1
  have xn2 := hW.xn2
  have xn3 := hW.xn3
  have xn4 := hW.xn4
  have xn5 := hW.xn5
  refine does_value ho hw (v := .agg #[n0, n1, n2, n3, n4, n5]) ?_ rfl (Below.refl _ _)
  generalize c.eval = ρ at *
  clear hF hb hW hw ho hg
  go_simp

set_option maxRecDepth 10000 in
theorem oN7_29 (pa g n cap : Nat) (S T : ByteArray) (sm : Bool) (ak : Int) (ab : Bool) (an : Int) (ax : ByteArray) (aa : Option Addr) (am ac : Nat) (al : Option Addr) (ao ad : Nat) (n0 n1 n2 n3 n4 n5 : Value) (Q : Exit → Act → World → Prop) (c : Act) (w : World) (hb : BaseN7 pa g n cap S T sm ak ab an ax aa am ac al ao ad n0 n1 n2 n3 n4 n5 c) (hW : WorldN7 pa g n cap S T sm ak ab an ax aa am ac al ao ad n0 n1 n2 n3 n4 n5 w) (hF : ∀ q0 ∈ ancN7 29, factsAt (factsN7 pa g n cap S T sm ak ab an ax aa am ac al ao ad n0 n1 n2 n3 n4 n5) q0 (val RN7 c q0) w) :
    Does Tryz.prog RN7 Q (factsAt (factsN7 pa g n cap S T sm ak ab an ax aa am ac al ao ad n0 n1 n2 n3 n4 n5)) 29 c w := by
  have ho : RN7[29]? = some ({ dst := some 76, op := Op.load 26 (Operand.tmp 2), type := 26, pos := "outright.go:32", after := #[{ on := 25, ground := Ground.guard }], guard := some (25, true) } : Oper) := by kernel_rfl
  have e2 := hb.t2
  have hg : val RN7 c 25 = .bool true := hF 25 (by decide)
  have hw : Region.wanted ({ dst := some 76, op := Op.load 26 (Operand.tmp 2), type := 26, pos := "outright.go:32", after := #[{ on := 25, ground := Ground.guard }], guard := some (25, true) } : Oper) (yielded RN7 c.tmps) = true := want_eq rfl hg
  have ec : ∀ v, c.eval (.const v) = v := fun _ => rfl
  have ef : ∀ f, c.eval (.func f) = .func (.func f) #[] #[] := fun _ => rfl
  have xa0 := hW.xa0
  have xa1 := hW.xa1
  have xa2 := hW.xa2
  have xa3 := hW.xa3
  have xa4 := hW.xa4
  have xa5 := hW.xa5
  refine does_value ho hw (v := .agg #[.int .i64 ak, .bool ab, .int .i64 an, .string ax, .slice aa am ac, .slice al ao ad]) ?_ rfl (Below.refl _ _)
  generalize c.eval = ρ at *
  clear hF hb hW hw ho hg
  go_simp

set_option maxRecDepth 10000 in
theorem oN7_30 (pa g n cap : Nat) (S T : ByteArray) (sm : Bool) (ak : Int) (ab : Bool) (an : Int) (ax : ByteArray) (aa : Option Addr) (am ac : Nat) (al : Option Addr) (ao ad : Nat) (n0 n1 n2 n3 n4 n5 : Value) (Q : Exit → Act → World → Prop) (c : Act) (w : World) (hb : BaseN7 pa g n cap S T sm ak ab an ax aa am ac al ao ad n0 n1 n2 n3 n4 n5 c) (hW : WorldN7 pa g n cap S T sm ak ab an ax aa am ac al ao ad n0 n1 n2 n3 n4 n5 w) (hF : ∀ q0 ∈ ancN7 30, factsAt (factsN7 pa g n cap S T sm ak ab an ax aa am ac al ao ad n0 n1 n2 n3 n4 n5) q0 (val RN7 c q0) w) :
    Does Tryz.prog RN7 Q (factsAt (factsN7 pa g n cap S T sm ak ab an ax aa am ac al ao ad n0 n1 n2 n3 n4 n5)) 30 c w := by
  have ho : RN7[30]? = some ({ dst := some 77, op := Op.call { callee := Callee.value (Operand.func 32), args := #[Operand.tmp 75, Operand.tmp 76], argTypes := #[26, 26] }, type := 4, pos := "outright.go:32", after := #[{ on := 28, ground := Ground.data }, { on := 29, ground := Ground.data }, { on := 25, ground := Ground.chain }, { on := 25, ground := Ground.guard }], guard := some (25, true) } : Oper) := by kernel_rfl
  have e75 : c.eval (.tmp 75) = .agg #[n0, n1, n2, n3, n4, n5] := fact_at (p := eqv (.agg #[n0, n1, n2, n3, n4, n5])) (by kernel_rfl) rfl (hF 28 (by decide))
  have e76 : c.eval (.tmp 76) = .agg #[.int .i64 ak, .bool ab, .int .i64 an, .string ax, .slice aa am ac, .slice al ao ad] := fact_at (p := eqv (.agg #[.int .i64 ak, .bool ab, .int .i64 an, .string ax, .slice aa am ac, .slice al ao ad])) (by kernel_rfl) rfl (hF 29 (by decide))
  have hg : val RN7 c 25 = .bool true := hF 25 (by decide)
  have hw : Region.wanted ({ dst := some 77, op := Op.call { callee := Callee.value (Operand.func 32), args := #[Operand.tmp 75, Operand.tmp 76], argTypes := #[26, 26] }, type := 4, pos := "outright.go:32", after := #[{ on := 28, ground := Ground.data }, { on := 29, ground := Ground.data }, { on := 25, ground := Ground.chain }, { on := 25, ground := Ground.guard }], guard := some (25, true) } : Oper) (yielded RN7 c.tmps) = true := want_eq rfl hg
  have ec : ∀ v, c.eval (.const v) = v := fun _ => rfl
  have ef : ∀ f, c.eval (.func f) = .func (.func f) #[] #[] := fun _ => rfl
  refine does_call ho hw (f := 32) (args := #[.agg #[n0, n1, n2, n3, n4, n5], .agg #[.int .i64 ak, .bool ab, .int .i64 an, .string ax, .slice aa am ac, .slice al ao ad]]) ?_ (Calls.mono (hW.k2) fun e w' ⟨h1, h2⟩ => ⟨_, h1, rfl, h2⟩)
  generalize c.eval = ρ at *
  clear hF hb hW hw ho hg
  go_simp

set_option maxRecDepth 10000 in
theorem oN7_31 (pa g n cap : Nat) (S T : ByteArray) (sm : Bool) (ak : Int) (ab : Bool) (an : Int) (ax : ByteArray) (aa : Option Addr) (am ac : Nat) (al : Option Addr) (ao ad : Nat) (n0 n1 n2 n3 n4 n5 : Value) (Q : Exit → Act → World → Prop) (c : Act) (w : World) (hb : BaseN7 pa g n cap S T sm ak ab an ax aa am ac al ao ad n0 n1 n2 n3 n4 n5 c) (hW : WorldN7 pa g n cap S T sm ak ab an ax aa am ac al ao ad n0 n1 n2 n3 n4 n5 w) (hF : ∀ q0 ∈ ancN7 31, factsAt (factsN7 pa g n cap S T sm ak ab an ax aa am ac al ao ad n0 n1 n2 n3 n4 n5) q0 (val RN7 c q0) w) :
    Does Tryz.prog RN7 Q (factsAt (factsN7 pa g n cap S T sm ak ab an ax aa am ac al ao ad n0 n1 n2 n3 n4 n5)) 31 c w := by
  have ho : RN7[31]? = some ({ dst := some 78, op := Op.pick (Operand.tmp 72) (Operand.tmp 77) (Operand.const (Value.bool false)), type := 4, pos := "outright.go:32", after := #[{ on := 25, ground := Ground.data }, { on := 30, ground := Ground.data }], guard := none } : Oper) := by kernel_rfl
  have e72 : c.eval (.tmp 72) = .bool true := fact_at (p := eqv (.bool true)) (by kernel_rfl) rfl (hF 25 (by decide))
  have e77 : c.eval (.tmp 77) = .bool true := fact_at (p := eqv (.bool true)) (by kernel_rfl) rfl (hF 30 (by decide))
  have hw : Region.wanted ({ dst := some 78, op := Op.pick (Operand.tmp 72) (Operand.tmp 77) (Operand.const (Value.bool false)), type := 4, pos := "outright.go:32", after := #[{ on := 25, ground := Ground.data }, { on := 30, ground := Ground.data }], guard := none } : Oper) (yielded RN7 c.tmps) = true := want_none rfl
  have ec : ∀ v, c.eval (.const v) = v := fun _ => rfl
  have ef : ∀ f, c.eval (.func f) = .func (.func f) #[] #[] := fun _ => rfl
  refine does_value ho hw (v := .bool true) ?_ rfl (Below.refl _ _)
  generalize c.eval = ρ at *
  clear hF hb hW hw ho
  go_simp

set_option maxRecDepth 10000 in
theorem oN7_32 (pa g n cap : Nat) (S T : ByteArray) (sm : Bool) (ak : Int) (ab : Bool) (an : Int) (ax : ByteArray) (aa : Option Addr) (am ac : Nat) (al : Option Addr) (ao ad : Nat) (n0 n1 n2 n3 n4 n5 : Value) (Q : Exit → Act → World → Prop) (c : Act) (w : World) (hb : BaseN7 pa g n cap S T sm ak ab an ax aa am ac al ao ad n0 n1 n2 n3 n4 n5 c) (hW : WorldN7 pa g n cap S T sm ak ab an ax aa am ac al ao ad n0 n1 n2 n3 n4 n5 w) (hF : ∀ q0 ∈ ancN7 32, factsAt (factsN7 pa g n cap S T sm ak ab an ax aa am ac al ao ad n0 n1 n2 n3 n4 n5) q0 (val RN7 c q0) w) :
    Does Tryz.prog RN7 Q (factsAt (factsN7 pa g n cap S T sm ak ab an ax aa am ac al ao ad n0 n1 n2 n3 n4 n5)) 32 c w := by
  have ho : RN7[32]? = some ({ dst := some 79, op := Op.move (Operand.tmp 78), type := 4, pos := "outright.go:32", after := #[{ on := 31, ground := Ground.data }, { on := 30, ground := Ground.chain }], guard := none } : Oper) := by kernel_rfl
  have e78 : c.eval (.tmp 78) = .bool true := fact_at (p := eqv (.bool true)) (by kernel_rfl) rfl (hF 31 (by decide))
  have hw : Region.wanted ({ dst := some 79, op := Op.move (Operand.tmp 78), type := 4, pos := "outright.go:32", after := #[{ on := 31, ground := Ground.data }, { on := 30, ground := Ground.chain }], guard := none } : Oper) (yielded RN7 c.tmps) = true := want_none rfl
  have ec : ∀ v, c.eval (.const v) = v := fun _ => rfl
  have ef : ∀ f, c.eval (.func f) = .func (.func f) #[] #[] := fun _ => rfl
  refine does_value ho hw (v := .bool true) ?_ rfl (Below.refl _ _)
  generalize c.eval = ρ at *
  clear hF hb hW hw ho
  go_simp

set_option maxRecDepth 10000 in
theorem oN7_33 (pa g n cap : Nat) (S T : ByteArray) (sm : Bool) (ak : Int) (ab : Bool) (an : Int) (ax : ByteArray) (aa : Option Addr) (am ac : Nat) (al : Option Addr) (ao ad : Nat) (n0 n1 n2 n3 n4 n5 : Value) (Q : Exit → Act → World → Prop) (c : Act) (w : World) (hb : BaseN7 pa g n cap S T sm ak ab an ax aa am ac al ao ad n0 n1 n2 n3 n4 n5 c) (hW : WorldN7 pa g n cap S T sm ak ab an ax aa am ac al ao ad n0 n1 n2 n3 n4 n5 w) (hF : ∀ q0 ∈ ancN7 33, factsAt (factsN7 pa g n cap S T sm ak ab an ax aa am ac al ao ad n0 n1 n2 n3 n4 n5) q0 (val RN7 c q0) w) :
    Does Tryz.prog RN7 Q (factsAt (factsN7 pa g n cap S T sm ak ab an ax aa am ac al ao ad n0 n1 n2 n3 n4 n5)) 33 c w := by
  have ho : RN7[33]? = some ({ dst := some 80, op := Op.call { callee := Callee.value (Operand.func 16), args := #[], argTypes := #[] }, type := 4, pos := "outright.go:32", after := #[{ on := 32, ground := Ground.chain }, { on := 32, ground := Ground.guard }], guard := some (32, true) } : Oper) := by kernel_rfl
  have hg : val RN7 c 32 = .bool true := hF 32 (by decide)
  have hw : Region.wanted ({ dst := some 80, op := Op.call { callee := Callee.value (Operand.func 16), args := #[], argTypes := #[] }, type := 4, pos := "outright.go:32", after := #[{ on := 32, ground := Ground.chain }, { on := 32, ground := Ground.guard }], guard := some (32, true) } : Oper) (yielded RN7 c.tmps) = true := want_eq rfl hg
  have ec : ∀ v, c.eval (.const v) = v := fun _ => rfl
  have ef : ∀ f, c.eval (.func f) = .func (.func f) #[] #[] := fun _ => rfl
  refine does_call ho hw (f := 16) (args := #[]) ?_ (Calls.mono (hW.k3) fun e w' ⟨h1, h2⟩ => ⟨_, h1, rfl, h2⟩)
  generalize c.eval = ρ at *
  clear hF hb hW hw ho hg
  go_simp

set_option maxRecDepth 10000 in
theorem oN7_34 (pa g n cap : Nat) (S T : ByteArray) (sm : Bool) (ak : Int) (ab : Bool) (an : Int) (ax : ByteArray) (aa : Option Addr) (am ac : Nat) (al : Option Addr) (ao ad : Nat) (n0 n1 n2 n3 n4 n5 : Value) (Q : Exit → Act → World → Prop) (c : Act) (w : World) (hb : BaseN7 pa g n cap S T sm ak ab an ax aa am ac al ao ad n0 n1 n2 n3 n4 n5 c) (hW : WorldN7 pa g n cap S T sm ak ab an ax aa am ac al ao ad n0 n1 n2 n3 n4 n5 w) (hF : ∀ q0 ∈ ancN7 34, factsAt (factsN7 pa g n cap S T sm ak ab an ax aa am ac al ao ad n0 n1 n2 n3 n4 n5) q0 (val RN7 c q0) w) :
    Does Tryz.prog RN7 Q (factsAt (factsN7 pa g n cap S T sm ak ab an ax aa am ac al ao ad n0 n1 n2 n3 n4 n5)) 34 c w := by
  have ho : RN7[34]? = some ({ dst := some 81, op := Op.pick (Operand.tmp 79) (Operand.tmp 80) (Operand.const (Value.bool false)), type := 4, pos := "outright.go:32", after := #[{ on := 32, ground := Ground.data }, { on := 33, ground := Ground.data }], guard := none } : Oper) := by kernel_rfl
  have e79 : c.eval (.tmp 79) = .bool true := fact_at (p := eqv (.bool true)) (by kernel_rfl) rfl (hF 32 (by decide))
  have e80 : c.eval (.tmp 80) = .bool true := fact_at (p := eqv (.bool true)) (by kernel_rfl) rfl (hF 33 (by decide))
  have hw : Region.wanted ({ dst := some 81, op := Op.pick (Operand.tmp 79) (Operand.tmp 80) (Operand.const (Value.bool false)), type := 4, pos := "outright.go:32", after := #[{ on := 32, ground := Ground.data }, { on := 33, ground := Ground.data }], guard := none } : Oper) (yielded RN7 c.tmps) = true := want_none rfl
  have ec : ∀ v, c.eval (.const v) = v := fun _ => rfl
  have ef : ∀ f, c.eval (.func f) = .func (.func f) #[] #[] := fun _ => rfl
  refine does_value ho hw (v := .bool true) ?_ rfl (Below.refl _ _)
  generalize c.eval = ρ at *
  clear hF hb hW hw ho
  go_simp

set_option maxRecDepth 10000 in
theorem oN7_35 (pa g n cap : Nat) (S T : ByteArray) (sm : Bool) (ak : Int) (ab : Bool) (an : Int) (ax : ByteArray) (aa : Option Addr) (am ac : Nat) (al : Option Addr) (ao ad : Nat) (n0 n1 n2 n3 n4 n5 : Value) (Q : Exit → Act → World → Prop) (c : Act) (w : World) (hb : BaseN7 pa g n cap S T sm ak ab an ax aa am ac al ao ad n0 n1 n2 n3 n4 n5 c) (hW : WorldN7 pa g n cap S T sm ak ab an ax aa am ac al ao ad n0 n1 n2 n3 n4 n5 w) (hF : ∀ q0 ∈ ancN7 35, factsAt (factsN7 pa g n cap S T sm ak ab an ax aa am ac al ao ad n0 n1 n2 n3 n4 n5) q0 (val RN7 c q0) w) :
    Does Tryz.prog RN7 Q (factsAt (factsN7 pa g n cap S T sm ak ab an ax aa am ac al ao ad n0 n1 n2 n3 n4 n5)) 35 c w := by
  have ho : RN7[35]? = some ({ dst := some 4, op := Op.assign (Operand.tmp 81), type := 4, pos := "outright.go:32", after := #[{ on := 34, ground := Ground.data }, { on := 33, ground := Ground.chain }, { on := 0, ground := Ground.phase }, { on := 1, ground := Ground.phase }, { on := 2, ground := Ground.phase }, { on := 3, ground := Ground.phase }, { on := 4, ground := Ground.phase }, { on := 5, ground := Ground.phase }, { on := 6, ground := Ground.phase }, { on := 7, ground := Ground.phase }, { on := 8, ground := Ground.phase }, { on := 9, ground := Ground.phase }, { on := 10, ground := Ground.phase }, { on := 11, ground := Ground.phase }, { on := 12, ground := Ground.phase }, { on := 13, ground := Ground.phase }, { on := 14, ground := Ground.phase }, { on := 15, ground := Ground.phase }, { on := 16, ground := Ground.phase }, { on := 17, ground := Ground.phase }, { on := 18, ground := Ground.phase }, { on := 19, ground := Ground.phase }, { on := 20, ground := Ground.phase }, { on := 21, ground := Ground.phase }, { on := 22, ground := Ground.phase }, { on := 23, ground := Ground.phase }, { on := 24, ground := Ground.phase }, { on := 25, ground := Ground.phase }, { on := 26, ground := Ground.phase }, { on := 27, ground := Ground.phase }, { on := 28, ground := Ground.phase }, { on := 29, ground := Ground.phase }, { on := 30, ground := Ground.phase }, { on := 31, ground := Ground.phase }, { on := 32, ground := Ground.phase }, { on := 33, ground := Ground.phase }, { on := 34, ground := Ground.phase }], guard := none } : Oper) := by kernel_rfl
  have e81 : c.eval (.tmp 81) = .bool true := fact_at (p := eqv (.bool true)) (by kernel_rfl) rfl (hF 34 (by decide))
  have hw : Region.wanted ({ dst := some 4, op := Op.assign (Operand.tmp 81), type := 4, pos := "outright.go:32", after := #[{ on := 34, ground := Ground.data }, { on := 33, ground := Ground.chain }, { on := 0, ground := Ground.phase }, { on := 1, ground := Ground.phase }, { on := 2, ground := Ground.phase }, { on := 3, ground := Ground.phase }, { on := 4, ground := Ground.phase }, { on := 5, ground := Ground.phase }, { on := 6, ground := Ground.phase }, { on := 7, ground := Ground.phase }, { on := 8, ground := Ground.phase }, { on := 9, ground := Ground.phase }, { on := 10, ground := Ground.phase }, { on := 11, ground := Ground.phase }, { on := 12, ground := Ground.phase }, { on := 13, ground := Ground.phase }, { on := 14, ground := Ground.phase }, { on := 15, ground := Ground.phase }, { on := 16, ground := Ground.phase }, { on := 17, ground := Ground.phase }, { on := 18, ground := Ground.phase }, { on := 19, ground := Ground.phase }, { on := 20, ground := Ground.phase }, { on := 21, ground := Ground.phase }, { on := 22, ground := Ground.phase }, { on := 23, ground := Ground.phase }, { on := 24, ground := Ground.phase }, { on := 25, ground := Ground.phase }, { on := 26, ground := Ground.phase }, { on := 27, ground := Ground.phase }, { on := 28, ground := Ground.phase }, { on := 29, ground := Ground.phase }, { on := 30, ground := Ground.phase }, { on := 31, ground := Ground.phase }, { on := 32, ground := Ground.phase }, { on := 33, ground := Ground.phase }, { on := 34, ground := Ground.phase }], guard := none } : Oper) (yielded RN7 c.tmps) = true := want_none rfl
  have ec : ∀ v, c.eval (.const v) = v := fun _ => rfl
  have ef : ∀ f, c.eval (.func f) = .func (.func f) #[] #[] := fun _ => rfl
  refine does_value ho hw (v := .bool true) ?_ rfl (Below.refl _ _)
  generalize c.eval = ρ at *
  clear hF hb hW hw ho
  go_simp

theorem stableN7 (pa g n cap : Nat) (S T : ByteArray) (sm : Bool) (ak : Int) (ab : Bool) (an : Int) (ax : ByteArray) (aa : Option Addr) (am ac : Nat) (al : Option Addr) (ao ad : Nat) (n0 n1 n2 n3 n4 n5 : Value) : ∀ pr ∈ factsN7 pa g n cap S T sm ak ab an ax aa am ac al ao ad n0 n1 n2 n3 n4 n5, Stable pr := by
  unfold factsN7
  refine List.forall_mem_cons.2 ⟨eqv_stable _, ?_⟩
  refine List.forall_mem_cons.2 ⟨eqv_stable _, ?_⟩
  refine List.forall_mem_cons.2 ⟨eqv_stable _, ?_⟩
  refine List.forall_mem_cons.2 ⟨eqv_stable _, ?_⟩
  refine List.forall_mem_cons.2 ⟨eqv_stable _, ?_⟩
  refine List.forall_mem_cons.2 ⟨eqv_stable _, ?_⟩
  refine List.forall_mem_cons.2 ⟨eqv_stable _, ?_⟩
  refine List.forall_mem_cons.2 ⟨eqv_stable _, ?_⟩
  refine List.forall_mem_cons.2 ⟨eqv_stable _, ?_⟩
  refine List.forall_mem_cons.2 ⟨eqv_stable _, ?_⟩
  refine List.forall_mem_cons.2 ⟨eqv_stable _, ?_⟩
  refine List.forall_mem_cons.2 ⟨eqv_stable _, ?_⟩
  refine List.forall_mem_cons.2 ⟨eqv_stable _, ?_⟩
  refine List.forall_mem_cons.2 ⟨eqv_stable _, ?_⟩
  refine List.forall_mem_cons.2 ⟨eqv_stable _, ?_⟩
  refine List.forall_mem_cons.2 ⟨eqv_stable _, ?_⟩
  refine List.forall_mem_cons.2 ⟨eqv_stable _, ?_⟩
  refine List.forall_mem_cons.2 ⟨eqv_stable _, ?_⟩
  refine List.forall_mem_cons.2 ⟨eqv_stable _, ?_⟩
  refine List.forall_mem_cons.2 ⟨eqv_stable _, ?_⟩
  refine List.forall_mem_cons.2 ⟨eqv_stable _, ?_⟩
  refine List.forall_mem_cons.2 ⟨eqv_stable _, ?_⟩
  refine List.forall_mem_cons.2 ⟨eqv_stable _, ?_⟩
  refine List.forall_mem_cons.2 ⟨eqv_stable _, ?_⟩
  refine List.forall_mem_cons.2 ⟨eqv_stable _, ?_⟩
  refine List.forall_mem_cons.2 ⟨eqv_stable _, ?_⟩
  refine List.forall_mem_cons.2 ⟨eqv_stable _, ?_⟩
  refine List.forall_mem_cons.2 ⟨eqv_stable _, ?_⟩
  refine List.forall_mem_cons.2 ⟨eqv_stable _, ?_⟩
  refine List.forall_mem_cons.2 ⟨eqv_stable _, ?_⟩
  refine List.forall_mem_cons.2 ⟨eqv_stable _, ?_⟩
  refine List.forall_mem_cons.2 ⟨eqv_stable _, ?_⟩
  refine List.forall_mem_cons.2 ⟨eqv_stable _, ?_⟩
  refine List.forall_mem_cons.2 ⟨eqv_stable _, ?_⟩
  refine List.forall_mem_cons.2 ⟨eqv_stable _, ?_⟩
  refine List.forall_mem_cons.2 ⟨eqv_stable _, ?_⟩
  exact List.forall_mem_nil _

set_option maxRecDepth 100000 in
theorem allN7 (pa g n cap : Nat) (S T : ByteArray) (sm : Bool) (ak : Int) (ab : Bool) (an : Int) (ax : ByteArray) (aa : Option Addr) (am ac : Nat) (al : Option Addr) (ao ad : Nat) (n0 n1 n2 n3 n4 n5 : Value) (Q : Exit → Act → World → Prop) : ∀ i, i < 36 → (fun i => ∀ c w, BaseN7 pa g n cap S T sm ak ab an ax aa am ac al ao ad n0 n1 n2 n3 n4 n5 c → WorldN7 pa g n cap S T sm ak ab an ax aa am ac al ao ad n0 n1 n2 n3 n4 n5 w → (∀ q0 ∈ ancN7 i, factsAt (factsN7 pa g n cap S T sm ak ab an ax aa am ac al ao ad n0 n1 n2 n3 n4 n5) q0 (val RN7 c q0) w) → Does Tryz.prog RN7 Q (factsAt (factsN7 pa g n cap S T sm ak ab an ax aa am ac al ao ad n0 n1 n2 n3 n4 n5)) i c w) i := by
  refine below_succ ?_ (fun c w => oN7_35 pa g n cap S T sm ak ab an ax aa am ac al ao ad n0 n1 n2 n3 n4 n5 Q c w)
  refine below_succ ?_ (fun c w => oN7_34 pa g n cap S T sm ak ab an ax aa am ac al ao ad n0 n1 n2 n3 n4 n5 Q c w)
  refine below_succ ?_ (fun c w => oN7_33 pa g n cap S T sm ak ab an ax aa am ac al ao ad n0 n1 n2 n3 n4 n5 Q c w)
  refine below_succ ?_ (fun c w => oN7_32 pa g n cap S T sm ak ab an ax aa am ac al ao ad n0 n1 n2 n3 n4 n5 Q c w)
  refine below_succ ?_ (fun c w => oN7_31 pa g n cap S T sm ak ab an ax aa am ac al ao ad n0 n1 n2 n3 n4 n5 Q c w)
  refine below_succ ?_ (fun c w => oN7_30 pa g n cap S T sm ak ab an ax aa am ac al ao ad n0 n1 n2 n3 n4 n5 Q c w)
  refine below_succ ?_ (fun c w => oN7_29 pa g n cap S T sm ak ab an ax aa am ac al ao ad n0 n1 n2 n3 n4 n5 Q c w)
  refine below_succ ?_ (fun c w => oN7_28 pa g n cap S T sm ak ab an ax aa am ac al ao ad n0 n1 n2 n3 n4 n5 Q c w)
  refine below_succ ?_ (fun c w => oN7_27 pa g n cap S T sm ak ab an ax aa am ac al ao ad n0 n1 n2 n3 n4 n5 Q c w)
  refine below_succ ?_ (fun c w => oN7_26 pa g n cap S T sm ak ab an ax aa am ac al ao ad n0 n1 n2 n3 n4 n5 Q c w)
  refine below_succ ?_ (fun c w => oN7_25 pa g n cap S T sm ak ab an ax aa am ac al ao ad n0 n1 n2 n3 n4 n5 Q c w)
  refine below_succ ?_ (fun c w => oN7_24 pa g n cap S T sm ak ab an ax aa am ac al ao ad n0 n1 n2 n3 n4 n5 Q c w)
  refine below_succ ?_ (fun c w => oN7_23 pa g n cap S T sm ak ab an ax aa am ac al ao ad n0 n1 n2 n3 n4 n5 Q c w)
  refine below_succ ?_ (fun c w => oN7_22 pa g n cap S T sm ak ab an ax aa am ac al ao ad n0 n1 n2 n3 n4 n5 Q c w)
  refine below_succ ?_ (fun c w => oN7_21 pa g n cap S T sm ak ab an ax aa am ac al ao ad n0 n1 n2 n3 n4 n5 Q c w)
  refine below_succ ?_ (fun c w => oN7_20 pa g n cap S T sm ak ab an ax aa am ac al ao ad n0 n1 n2 n3 n4 n5 Q c w)
  refine below_succ ?_ (fun c w => oN7_19 pa g n cap S T sm ak ab an ax aa am ac al ao ad n0 n1 n2 n3 n4 n5 Q c w)
  refine below_succ ?_ (fun c w => oN7_18 pa g n cap S T sm ak ab an ax aa am ac al ao ad n0 n1 n2 n3 n4 n5 Q c w)
  refine below_succ ?_ (fun c w => oN7_17 pa g n cap S T sm ak ab an ax aa am ac al ao ad n0 n1 n2 n3 n4 n5 Q c w)
  refine below_succ ?_ (fun c w => oN7_16 pa g n cap S T sm ak ab an ax aa am ac al ao ad n0 n1 n2 n3 n4 n5 Q c w)
  refine below_succ ?_ (fun c w => oN7_15 pa g n cap S T sm ak ab an ax aa am ac al ao ad n0 n1 n2 n3 n4 n5 Q c w)
  refine below_succ ?_ (fun c w => oN7_14 pa g n cap S T sm ak ab an ax aa am ac al ao ad n0 n1 n2 n3 n4 n5 Q c w)
  refine below_succ ?_ (fun c w => oN7_13 pa g n cap S T sm ak ab an ax aa am ac al ao ad n0 n1 n2 n3 n4 n5 Q c w)
  refine below_succ ?_ (fun c w => oN7_12 pa g n cap S T sm ak ab an ax aa am ac al ao ad n0 n1 n2 n3 n4 n5 Q c w)
  refine below_succ ?_ (fun c w => oN7_11 pa g n cap S T sm ak ab an ax aa am ac al ao ad n0 n1 n2 n3 n4 n5 Q c w)
  refine below_succ ?_ (fun c w => oN7_10 pa g n cap S T sm ak ab an ax aa am ac al ao ad n0 n1 n2 n3 n4 n5 Q c w)
  refine below_succ ?_ (fun c w => oN7_9 pa g n cap S T sm ak ab an ax aa am ac al ao ad n0 n1 n2 n3 n4 n5 Q c w)
  refine below_succ ?_ (fun c w => oN7_8 pa g n cap S T sm ak ab an ax aa am ac al ao ad n0 n1 n2 n3 n4 n5 Q c w)
  refine below_succ ?_ (fun c w => oN7_7 pa g n cap S T sm ak ab an ax aa am ac al ao ad n0 n1 n2 n3 n4 n5 Q c w)
  refine below_succ ?_ (fun c w => oN7_6 pa g n cap S T sm ak ab an ax aa am ac al ao ad n0 n1 n2 n3 n4 n5 Q c w)
  refine below_succ ?_ (fun c w => oN7_5 pa g n cap S T sm ak ab an ax aa am ac al ao ad n0 n1 n2 n3 n4 n5 Q c w)
  refine below_succ ?_ (fun c w => oN7_4 pa g n cap S T sm ak ab an ax aa am ac al ao ad n0 n1 n2 n3 n4 n5 Q c w)
  refine below_succ ?_ (fun c w => oN7_3 pa g n cap S T sm ak ab an ax aa am ac al ao ad n0 n1 n2 n3 n4 n5 Q c w)
  refine below_succ ?_ (fun c w => oN7_2 pa g n cap S T sm ak ab an ax aa am ac al ao ad n0 n1 n2 n3 n4 n5 Q c w)
  refine below_succ ?_ (fun c w => oN7_1 pa g n cap S T sm ak ab an ax aa am ac al ao ad n0 n1 n2 n3 n4 n5 Q c w)
  refine below_succ ?_ (fun c w => oN7_0 pa g n cap S T sm ak ab an ax aa am ac al ao ad n0 n1 n2 n3 n4 n5 Q c w)
  exact below_zero

theorem regionN7 (pa g n cap : Nat) (S T : ByteArray) (sm : Bool) (ak : Int) (ab : Bool) (an : Int) (ax : ByteArray) (aa : Option Addr) (am ac : Nat) (al : Option Addr) (ao ad : Nat) (n0 n1 n2 n3 n4 n5 : Value) (Q : Exit → Act → World → Prop) (base : Act) (w0 : World) (hsz : base.tmps.size = 82) (hb : BaseN7 pa g n cap S T sm ak ab an ax aa am ac al ao ad n0 n1 n2 n3 n4 n5 base)
    (hW : ∀ w, Below w0.heap.size w0 w → WorldN7 pa g n cap S T sm ak ab an ax aa am ac al ao ad n0 n1 n2 n3 n4 n5 w) (hQ : ∀ c w, Same RN7 base c → Below w0.heap.size w0 w → c.eval (.tmp 4) = .bool true → Q .normal c w) : (Code.region 7 RN7 true).wp Tryz.prog Q base w0 := by
  refine facts_rule (A := ancN7) (F := factsAt (factsN7 pa g n cap S T sm ak ab an ax aa am ac al ao ad n0 n1 n2 n3 n4 n5)) (by kernel_rfl) (by rw [hsz]; kernel_rfl) (fun i v w w' => factsAt_stable (stableN7 pa g n cap S T sm ak ab an ax aa am ac al ao ad n0 n1 n2 n3 n4 n5) i v w w') ?_ ?_
  · intro i hi c w hS hB hF
    exact allN7 pa g n cap S T sm ak ab an ax aa am ac al ao ad n0 n1 n2 n3 n4 n5 Q i (by rwa [show RN7.size = 36 by kernel_rfl] at hi) c w ⟨(same_eval hS (by kernel_rfl)).trans hb.t2, (same_eval hS (by kernel_rfl)).trans hb.t5, (same_eval hS (by kernel_rfl)).trans hb.t7, (same_eval hS (by kernel_rfl)).trans hb.t6, (same_eval hS (by kernel_rfl)).trans hb.t8, (same_eval hS (by kernel_rfl)).trans hb.t9, (same_eval hS (by kernel_rfl)).trans hb.t10⟩ (hW w hB) hF
  · intro c w hS hB hF
    exact hQ c w hS hB (fact_at (p := eqv (.bool true)) (by kernel_rfl) rfl (hF 35 (by rw [show RN7.size = 36 by kernel_rfl]; omega)))
end Go.Proofs.YtbpmhgcjefpigaaGreatDoor
