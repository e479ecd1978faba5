/- A statement that reads, calls and lays rows of its own: operation by operation, in whatever order. -/
import Derived.Test.YtbjcdpenfijfoaaGreatDoorFacts
import Derived.Test.YtbjcdpenfijfoaaGreatDoorJoin7
namespace Go.Proofs.YtbjcdpenfijfoaaGreatDoor
open Go.RowKit Go.WideShapes Go.Shelf
set_option linter.unusedVariables false
set_option linter.unusedSimpArgs false

noncomputable def RN3 : Array Oper := regionAt Tryz.f5 3
def ancN3 (i : Nat) : List Nat := ([[], [0], [], [2], [1, 3], [4], [5], [5, 6], [5], [5, 8], [5, 7, 9], [5, 10], [11], [12], [12, 13], [12], [12, 15], [12, 14, 16], [12, 17], [18], [19], [19], [19, 20, 21], [19], [19], [19, 23, 24], [19, 22, 25], [19, 26], [27], [28], [28, 29], [30]] : List (List Nat)).getD i []
def factsN3 (b : Nat) (s key sp t : ByteArray) (k ii n : Int) (nm rs is : Bool) : List (Value → World → Prop) :=
  [eqv (.string s), eqv (.bool nm), eqv (.string s), eqv (.bool nm), eqv (.bool true), eqv (.bool true), eqv (.string s), eqv (.bool rs), eqv (.string s), eqv (.bool rs), eqv (.bool true), eqv (.bool true), eqv (.bool true), eqv (.string s), eqv (.string sp), eqv (.string s), eqv (.string sp), eqv (.bool true), eqv (.bool true), eqv (.bool true), eqv (.agg #[.int .i64 k, .int .i64 ii, .string t, .int .u64 n]), eqv (.string key), eqv (.bool is), eqv (.agg #[.int .i64 k, .int .i64 ii, .string t, .int .u64 n]), eqv (.string key), eqv (.bool is), eqv (.bool true), eqv (.bool true), eqv (.bool true), eqv (.bool true), eqv (.bool true), eqv (.bool true)]
structure BaseN3 (b : Nat) (s key sp t : ByteArray) (k ii n : Int) (nm rs is : Bool) (c : Act) : Prop where
  t0 : c.eval (.tmp 0) = .string s
  t2 : c.eval (.tmp 2) = .string key
  t4 : c.eval (.tmp 4) = .pointer (some ⟨b, 0, none⟩)
structure WorldN3 (b : Nat) (s key sp t : ByteArray) (k ii n : Int) (nm rs is : Bool) (w : World) : Prop where
  x0 : w.cell? ⟨b, 0, none⟩ = some (.int .i64 k)
  x1 : w.cell? ⟨b, 1, none⟩ = some (.int .i64 ii)
  x2 : w.cell? ⟨b, 2, none⟩ = some (.string t)
  x3 : w.cell? ⟨b, 3, none⟩ = some (.int .u64 n)
  k1 : Calls Tryz.prog 23 #[.string s] w fun e w' => e = .returned (.bool nm) ∧ Below w.heap.size w w'
  k3 : Calls Tryz.prog 24 #[.string s] w fun e w' => e = .returned (.bool nm) ∧ Below w.heap.size w w'
  k7 : Calls Tryz.prog 25 #[.string s] w fun e w' => e = .returned (.bool rs) ∧ Below w.heap.size w w'
  k9 : Calls Tryz.prog 26 #[.string s] w fun e w' => e = .returned (.bool rs) ∧ Below w.heap.size w w'
  k14 : Calls Tryz.prog 27 #[.string s] w fun e w' => e = .returned (.string sp) ∧ Below w.heap.size w w'
  k16 : Calls Tryz.prog 28 #[.string s] w fun e w' => e = .returned (.string sp) ∧ Below w.heap.size w w'
  k22 : Calls Tryz.prog 29 #[.agg #[.int .i64 k, .int .i64 ii, .string t, .int .u64 n], .string key] w fun e w' => e = .returned (.bool is) ∧ Below w.heap.size w w'
  k25 : Calls Tryz.prog 30 #[.agg #[.int .i64 k, .int .i64 ii, .string t, .int .u64 n], .string key] w fun e w' => e = .returned (.bool is) ∧ Below w.heap.size w w'
  k29 : Calls Tryz.prog 11 #[] w fun e w' => e = .returned (.bool true) ∧ Below w.heap.size w w'

set_option maxRecDepth 10000 in
theorem oN3_0 (b : Nat) (s key sp t : ByteArray) (k ii n : Int) (nm rs is : Bool) (Q : Exit → Act → World → Prop) (c : Act) (w : World) (hb : BaseN3 b s key sp t k ii n nm rs is c) (hW : WorldN3 b s key sp t k ii n nm rs is w) (hF : ∀ q0 ∈ ancN3 0, factsAt (factsN3 b s key sp t k ii n nm rs is) q0 (val RN3 c q0) w) :
    Does Tryz.prog RN3 Q (factsAt (factsN3 b s key sp t k ii n nm rs is)) 0 c w := by
  have ho : RN3[0]? = some ({ dst := some 22, op := Op.move (Operand.tmp 0), type := 9, pos := "law.go:94", after := #[], guard := none } : Oper) := by kernel_rfl
  have e0 := hb.t0
  have hw : Region.wanted ({ dst := some 22, op := Op.move (Operand.tmp 0), type := 9, pos := "law.go:94", after := #[], guard := none } : Oper) (yielded RN3 c.tmps) = true := want_none rfl
  have ec : ∀ v, c.eval (.const v) = v := fun _ => rfl
  have ef : ∀ f, c.eval (.func f) = .func (.func f) #[] #[] := fun _ => rfl
  refine does_value ho hw (v := .string s) ?_ rfl (Below.refl _ _)
  generalize c.eval = ρ at *
  clear hF hb hW hw ho
  go_simp

set_option maxRecDepth 10000 in
theorem oN3_1 (b : Nat) (s key sp t : ByteArray) (k ii n : Int) (nm rs is : Bool) (Q : Exit → Act → World → Prop) (c : Act) (w : World) (hb : BaseN3 b s key sp t k ii n nm rs is c) (hW : WorldN3 b s key sp t k ii n nm rs is w) (hF : ∀ q0 ∈ ancN3 1, factsAt (factsN3 b s key sp t k ii n nm rs is) q0 (val RN3 c q0) w) :
    Does Tryz.prog RN3 Q (factsAt (factsN3 b s key sp t k ii n nm rs is)) 1 c w := by
  have ho : RN3[1]? = some ({ dst := some 23, op := Op.call { callee := Callee.value (Operand.func 23), args := #[Operand.tmp 22], argTypes := #[9] }, type := 4, pos := "law.go:94", after := #[{ on := 0, ground := Ground.data }], guard := none } : Oper) := by kernel_rfl
  have e22 : c.eval (.tmp 22) = .string s := fact_at (p := eqv (.string s)) (by kernel_rfl) rfl (hF 0 (by decide))
  have hw : Region.wanted ({ dst := some 23, op := Op.call { callee := Callee.value (Operand.func 23), args := #[Operand.tmp 22], argTypes := #[9] }, type := 4, pos := "law.go:94", after := #[{ on := 0, ground := Ground.data }], guard := none } : Oper) (yielded RN3 c.tmps) = true := want_none rfl
  have ec : ∀ v, c.eval (.const v) = v := fun _ => rfl
  have ef : ∀ f, c.eval (.func f) = .func (.func f) #[] #[] := fun _ => rfl
  refine does_call ho hw (f := 23) (args := #[.string s]) ?_ (Calls.mono (hW.k1) fun e w' ⟨h1, h2⟩ => ⟨_, h1, rfl, h2⟩)
  generalize c.eval = ρ at *
  clear hF hb hW hw ho
  go_simp

set_option maxRecDepth 10000 in
theorem oN3_2 (b : Nat) (s key sp t : ByteArray) (k ii n : Int) (nm rs is : Bool) (Q : Exit → Act → World → Prop) (c : Act) (w : World) (hb : BaseN3 b s key sp t k ii n nm rs is c) (hW : WorldN3 b s key sp t k ii n nm rs is w) (hF : ∀ q0 ∈ ancN3 2, factsAt (factsN3 b s key sp t k ii n nm rs is) q0 (val RN3 c q0) w) :
    Does Tryz.prog RN3 Q (factsAt (factsN3 b s key sp t k ii n nm rs is)) 2 c w := by
  have ho : RN3[2]? = some ({ dst := some 24, op := Op.move (Operand.tmp 0), type := 9, pos := "law.go:94", after := #[], guard := none } : Oper) := by kernel_rfl
  have e0 := hb.t0
  have hw : Region.wanted ({ dst := some 24, op := Op.move (Operand.tmp 0), type := 9, pos := "law.go:94", after := #[], guard := none } : Oper) (yielded RN3 c.tmps) = true := want_none rfl
  have ec : ∀ v, c.eval (.const v) = v := fun _ => rfl
  have ef : ∀ f, c.eval (.func f) = .func (.func f) #[] #[] := fun _ => rfl
  refine does_value ho hw (v := .string s) ?_ rfl (Below.refl _ _)
  generalize c.eval = ρ at *
  clear hF hb hW hw ho
  go_simp

set_option maxRecDepth 10000 in
theorem oN3_3 (b : Nat) (s key sp t : ByteArray) (k ii n : Int) (nm rs is : Bool) (Q : Exit → Act → World → Prop) (c : Act) (w : World) (hb : BaseN3 b s key sp t k ii n nm rs is c) (hW : WorldN3 b s key sp t k ii n nm rs is w) (hF : ∀ q0 ∈ ancN3 3, factsAt (factsN3 b s key sp t k ii n nm rs is) q0 (val RN3 c q0) w) :
    Does Tryz.prog RN3 Q (factsAt (factsN3 b s key sp t k ii n nm rs is)) 3 c w := by
  have ho : RN3[3]? = some ({ dst := some 25, op := Op.call { callee := Callee.value (Operand.func 24), args := #[Operand.tmp 24], argTypes := #[9] }, type := 4, pos := "law.go:94", after := #[{ on := 2, ground := Ground.data }, { on := 1, ground := Ground.chain }], guard := none } : Oper) := by kernel_rfl
  have e24 : c.eval (.tmp 24) = .string s := fact_at (p := eqv (.string s)) (by kernel_rfl) rfl (hF 2 (by decide))
  have hw : Region.wanted ({ dst := some 25, op := Op.call { callee := Callee.value (Operand.func 24), args := #[Operand.tmp 24], argTypes := #[9] }, type := 4, pos := "law.go:94", after := #[{ on := 2, ground := Ground.data }, { on := 1, ground := Ground.chain }], guard := none } : Oper) (yielded RN3 c.tmps) = true := want_none rfl
  have ec : ∀ v, c.eval (.const v) = v := fun _ => rfl
  have ef : ∀ f, c.eval (.func f) = .func (.func f) #[] #[] := fun _ => rfl
  refine does_call ho hw (f := 24) (args := #[.string s]) ?_ (Calls.mono (hW.k3) fun e w' ⟨h1, h2⟩ => ⟨_, h1, rfl, h2⟩)
  generalize c.eval = ρ at *
  clear hF hb hW hw ho
  go_simp

set_option maxRecDepth 10000 in
theorem oN3_4 (b : Nat) (s key sp t : ByteArray) (k ii n : Int) (nm rs is : Bool) (Q : Exit → Act → World → Prop) (c : Act) (w : World) (hb : BaseN3 b s key sp t k ii n nm rs is c) (hW : WorldN3 b s key sp t k ii n nm rs is w) (hF : ∀ q0 ∈ ancN3 4, factsAt (factsN3 b s key sp t k ii n nm rs is) q0 (val RN3 c q0) w) :
    Does Tryz.prog RN3 Q (factsAt (factsN3 b s key sp t k ii n nm rs is)) 4 c w := by
  have ho : RN3[4]? = some ({ dst := some 26, op := Op.binOp BinOp.eql 4 (Operand.tmp 23) (Operand.tmp 25) 4, type := 4, pos := "law.go:94", after := #[{ on := 1, ground := Ground.data }, { on := 3, ground := Ground.data }], guard := none } : Oper) := by kernel_rfl
  have e23 : c.eval (.tmp 23) = .bool nm := fact_at (p := eqv (.bool nm)) (by kernel_rfl) rfl (hF 1 (by decide))
  have e25 : c.eval (.tmp 25) = .bool nm := fact_at (p := eqv (.bool nm)) (by kernel_rfl) rfl (hF 3 (by decide))
  have hw : Region.wanted ({ dst := some 26, op := Op.binOp BinOp.eql 4 (Operand.tmp 23) (Operand.tmp 25) 4, type := 4, pos := "law.go:94", after := #[{ on := 1, ground := Ground.data }, { on := 3, ground := Ground.data }], guard := none } : Oper) (yielded RN3 c.tmps) = true := want_none rfl
  have ec : ∀ v, c.eval (.const v) = v := fun _ => rfl
  have ef : ∀ f, c.eval (.func f) = .func (.func f) #[] #[] := fun _ => rfl
  refine does_value ho hw (v := .bool true) ?_ rfl (Below.refl _ _)
  generalize c.eval = ρ at *
  clear hF hb hW hw ho
  go_simp

set_option maxRecDepth 10000 in
theorem oN3_5 (b : Nat) (s key sp t : ByteArray) (k ii n : Int) (nm rs is : Bool) (Q : Exit → Act → World → Prop) (c : Act) (w : World) (hb : BaseN3 b s key sp t k ii n nm rs is c) (hW : WorldN3 b s key sp t k ii n nm rs is w) (hF : ∀ q0 ∈ ancN3 5, factsAt (factsN3 b s key sp t k ii n nm rs is) q0 (val RN3 c q0) w) :
    Does Tryz.prog RN3 Q (factsAt (factsN3 b s key sp t k ii n nm rs is)) 5 c w := by
  have ho : RN3[5]? = some ({ dst := some 27, op := Op.move (Operand.tmp 26), type := 4, pos := "law.go:94", after := #[{ on := 4, ground := Ground.data }, { on := 3, ground := Ground.chain }], guard := none } : Oper) := by kernel_rfl
  have e26 : c.eval (.tmp 26) = .bool true := fact_at (p := eqv (.bool true)) (by kernel_rfl) rfl (hF 4 (by decide))
  have hw : Region.wanted ({ dst := some 27, op := Op.move (Operand.tmp 26), type := 4, pos := "law.go:94", after := #[{ on := 4, ground := Ground.data }, { on := 3, ground := Ground.chain }], guard := none } : Oper) (yielded RN3 c.tmps) = true := want_none rfl
  have ec : ∀ v, c.eval (.const v) = v := fun _ => rfl
  have ef : ∀ f, c.eval (.func f) = .func (.func f) #[] #[] := fun _ => rfl
  refine does_value ho hw (v := .bool true) ?_ rfl (Below.refl _ _)
  generalize c.eval = ρ at *
  clear hF hb hW hw ho
  go_simp

set_option maxRecDepth 10000 in
theorem oN3_6 (b : Nat) (s key sp t : ByteArray) (k ii n : Int) (nm rs is : Bool) (Q : Exit → Act → World → Prop) (c : Act) (w : World) (hb : BaseN3 b s key sp t k ii n nm rs is c) (hW : WorldN3 b s key sp t k ii n nm rs is w) (hF : ∀ q0 ∈ ancN3 6, factsAt (factsN3 b s key sp t k ii n nm rs is) q0 (val RN3 c q0) w) :
    Does Tryz.prog RN3 Q (factsAt (factsN3 b s key sp t k ii n nm rs is)) 6 c w := by
  have ho : RN3[6]? = some ({ dst := some 28, op := Op.move (Operand.tmp 0), type := 9, pos := "law.go:94", after := #[{ on := 5, ground := Ground.guard }], guard := some (5, true) } : Oper) := by kernel_rfl
  have e0 := hb.t0
  have hg : val RN3 c 5 = .bool true := hF 5 (by decide)
  have hw : Region.wanted ({ dst := some 28, op := Op.move (Operand.tmp 0), type := 9, pos := "law.go:94", after := #[{ on := 5, ground := Ground.guard }], guard := some (5, true) } : Oper) (yielded RN3 c.tmps) = true := want_eq rfl hg
  have ec : ∀ v, c.eval (.const v) = v := fun _ => rfl
  have ef : ∀ f, c.eval (.func f) = .func (.func f) #[] #[] := fun _ => rfl
  refine does_value ho hw (v := .string s) ?_ rfl (Below.refl _ _)
  generalize c.eval = ρ at *
  clear hF hb hW hw ho hg
  go_simp

set_option maxRecDepth 10000 in
theorem oN3_7 (b : Nat) (s key sp t : ByteArray) (k ii n : Int) (nm rs is : Bool) (Q : Exit → Act → World → Prop) (c : Act) (w : World) (hb : BaseN3 b s key sp t k ii n nm rs is c) (hW : WorldN3 b s key sp t k ii n nm rs is w) (hF : ∀ q0 ∈ ancN3 7, factsAt (factsN3 b s key sp t k ii n nm rs is) q0 (val RN3 c q0) w) :
    Does Tryz.prog RN3 Q (factsAt (factsN3 b s key sp t k ii n nm rs is)) 7 c w := by
  have ho : RN3[7]? = some ({ dst := some 29, op := Op.call { callee := Callee.value (Operand.func 25), args := #[Operand.tmp 28], argTypes := #[9] }, type := 4, pos := "law.go:94", after := #[{ on := 6, ground := Ground.data }, { on := 5, ground := Ground.chain }, { on := 5, ground := Ground.guard }], guard := some (5, true) } : Oper) := by kernel_rfl
  have e28 : c.eval (.tmp 28) = .string s := fact_at (p := eqv (.string s)) (by kernel_rfl) rfl (hF 6 (by decide))
  have hg : val RN3 c 5 = .bool true := hF 5 (by decide)
  have hw : Region.wanted ({ dst := some 29, op := Op.call { callee := Callee.value (Operand.func 25), args := #[Operand.tmp 28], argTypes := #[9] }, type := 4, pos := "law.go:94", after := #[{ on := 6, ground := Ground.data }, { on := 5, ground := Ground.chain }, { on := 5, ground := Ground.guard }], guard := some (5, true) } : Oper) (yielded RN3 c.tmps) = true := want_eq rfl hg
  have ec : ∀ v, c.eval (.const v) = v := fun _ => rfl
  have ef : ∀ f, c.eval (.func f) = .func (.func f) #[] #[] := fun _ => rfl
  refine does_call ho hw (f := 25) (args := #[.string s]) ?_ (Calls.mono (hW.k7) fun e w' ⟨h1, h2⟩ => ⟨_, h1, rfl, h2⟩)
  generalize c.eval = ρ at *
  clear hF hb hW hw ho hg
  go_simp

set_option maxRecDepth 10000 in
theorem oN3_8 (b : Nat) (s key sp t : ByteArray) (k ii n : Int) (nm rs is : Bool) (Q : Exit → Act → World → Prop) (c : Act) (w : World) (hb : BaseN3 b s key sp t k ii n nm rs is c) (hW : WorldN3 b s key sp t k ii n nm rs is w) (hF : ∀ q0 ∈ ancN3 8, factsAt (factsN3 b s key sp t k ii n nm rs is) q0 (val RN3 c q0) w) :
    Does Tryz.prog RN3 Q (factsAt (factsN3 b s key sp t k ii n nm rs is)) 8 c w := by
  have ho : RN3[8]? = some ({ dst := some 30, op := Op.move (Operand.tmp 0), type := 9, pos := "law.go:94", after := #[{ on := 5, ground := Ground.guard }], guard := some (5, true) } : Oper) := by kernel_rfl
  have e0 := hb.t0
  have hg : val RN3 c 5 = .bool true := hF 5 (by decide)
  have hw : Region.wanted ({ dst := some 30, op := Op.move (Operand.tmp 0), type := 9, pos := "law.go:94", after := #[{ on := 5, ground := Ground.guard }], guard := some (5, true) } : Oper) (yielded RN3 c.tmps) = true := want_eq rfl hg
  have ec : ∀ v, c.eval (.const v) = v := fun _ => rfl
  have ef : ∀ f, c.eval (.func f) = .func (.func f) #[] #[] := fun _ => rfl
  refine does_value ho hw (v := .string s) ?_ rfl (Below.refl _ _)
  generalize c.eval = ρ at *
  clear hF hb hW hw ho hg
  go_simp

set_option maxRecDepth 10000 in
theorem oN3_9 (b : Nat) (s key sp t : ByteArray) (k ii n : Int) (nm rs is : Bool) (Q : Exit → Act → World → Prop) (c : Act) (w : World) (hb : BaseN3 b s key sp t k ii n nm rs is c) (hW : WorldN3 b s key sp t k ii n nm rs is w) (hF : ∀ q0 ∈ ancN3 9, factsAt (factsN3 b s key sp t k ii n nm rs is) q0 (val RN3 c q0) w) :
    Does Tryz.prog RN3 Q (factsAt (factsN3 b s key sp t k ii n nm rs is)) 9 c w := by
  have ho : RN3[9]? = some ({ dst := some 31, op := Op.call { callee := Callee.value (Operand.func 26), args := #[Operand.tmp 30], argTypes := #[9] }, type := 4, pos := "law.go:94", after := #[{ on := 8, ground := Ground.data }, { on := 7, ground := Ground.chain }, { on := 5, ground := Ground.guard }], guard := some (5, true) } : Oper) := by kernel_rfl
  have e30 : c.eval (.tmp 30) = .string s := fact_at (p := eqv (.string s)) (by kernel_rfl) rfl (hF 8 (by decide))
  have hg : val RN3 c 5 = .bool true := hF 5 (by decide)
  have hw : Region.wanted ({ dst := some 31, op := Op.call { callee := Callee.value (Operand.func 26), args := #[Operand.tmp 30], argTypes := #[9] }, type := 4, pos := "law.go:94", after := #[{ on := 8, ground := Ground.data }, { on := 7, ground := Ground.chain }, { on := 5, ground := Ground.guard }], guard := some (5, true) } : Oper) (yielded RN3 c.tmps) = true := want_eq rfl hg
  have ec : ∀ v, c.eval (.const v) = v := fun _ => rfl
  have ef : ∀ f, c.eval (.func f) = .func (.func f) #[] #[] := fun _ => rfl
  refine does_call ho hw (f := 26) (args := #[.string s]) ?_ (Calls.mono (hW.k9) fun e w' ⟨h1, h2⟩ => ⟨_, h1, rfl, h2⟩)
  generalize c.eval = ρ at *
  clear hF hb hW hw ho hg
  go_simp

set_option maxRecDepth 10000 in
theorem oN3_10 (b : Nat) (s key sp t : ByteArray) (k ii n : Int) (nm rs is : Bool) (Q : Exit → Act → World → Prop) (c : Act) (w : World) (hb : BaseN3 b s key sp t k ii n nm rs is c) (hW : WorldN3 b s key sp t k ii n nm rs is w) (hF : ∀ q0 ∈ ancN3 10, factsAt (factsN3 b s key sp t k ii n nm rs is) q0 (val RN3 c q0) w) :
    Does Tryz.prog RN3 Q (factsAt (factsN3 b s key sp t k ii n nm rs is)) 10 c w := by
  have ho : RN3[10]? = some ({ dst := some 32, op := Op.binOp BinOp.eql 4 (Operand.tmp 29) (Operand.tmp 31) 4, type := 4, pos := "law.go:94", after := #[{ on := 7, ground := Ground.data }, { on := 9, ground := Ground.data }, { on := 5, ground := Ground.guard }], guard := some (5, true) } : Oper) := by kernel_rfl
  have e29 : c.eval (.tmp 29) = .bool rs := fact_at (p := eqv (.bool rs)) (by kernel_rfl) rfl (hF 7 (by decide))
  have e31 : c.eval (.tmp 31) = .bool rs := fact_at (p := eqv (.bool rs)) (by kernel_rfl) rfl (hF 9 (by decide))
  have hg : val RN3 c 5 = .bool true := hF 5 (by decide)
  have hw : Region.wanted ({ dst := some 32, op := Op.binOp BinOp.eql 4 (Operand.tmp 29) (Operand.tmp 31) 4, type := 4, pos := "law.go:94", after := #[{ on := 7, ground := Ground.data }, { on := 9, ground := Ground.data }, { on := 5, ground := Ground.guard }], guard := some (5, true) } : Oper) (yielded RN3 c.tmps) = true := want_eq rfl hg
  have ec : ∀ v, c.eval (.const v) = v := fun _ => rfl
  have ef : ∀ f, c.eval (.func f) = .func (.func f) #[] #[] := fun _ => rfl
  refine does_value ho hw (v := .bool true) ?_ rfl (Below.refl _ _)
  generalize c.eval = ρ at *
  clear hF hb hW hw ho hg
  go_simp

set_option maxRecDepth 10000 in
theorem oN3_11 (b : Nat) (s key sp t : ByteArray) (k ii n : Int) (nm rs is : Bool) (Q : Exit → Act → World → Prop) (c : Act) (w : World) (hb : BaseN3 b s key sp t k ii n nm rs is c) (hW : WorldN3 b s key sp t k ii n nm rs is w) (hF : ∀ q0 ∈ ancN3 11, factsAt (factsN3 b s key sp t k ii n nm rs is) q0 (val RN3 c q0) w) :
    Does Tryz.prog RN3 Q (factsAt (factsN3 b s key sp t k ii n nm rs is)) 11 c w := by
  have ho : RN3[11]? = some ({ dst := some 33, op := Op.pick (Operand.tmp 27) (Operand.tmp 32) (Operand.const (Value.bool false)), type := 4, pos := "law.go:94", after := #[{ on := 5, ground := Ground.data }, { on := 10, ground := Ground.data }], guard := none } : Oper) := by kernel_rfl
  have e27 : c.eval (.tmp 27) = .bool true := fact_at (p := eqv (.bool true)) (by kernel_rfl) rfl (hF 5 (by decide))
  have e32 : c.eval (.tmp 32) = .bool true := fact_at (p := eqv (.bool true)) (by kernel_rfl) rfl (hF 10 (by decide))
  have hw : Region.wanted ({ dst := some 33, op := Op.pick (Operand.tmp 27) (Operand.tmp 32) (Operand.const (Value.bool false)), type := 4, pos := "law.go:94", after := #[{ on := 5, ground := Ground.data }, { on := 10, ground := Ground.data }], guard := none } : Oper) (yielded RN3 c.tmps) = true := want_none rfl
  have ec : ∀ v, c.eval (.const v) = v := fun _ => rfl
  have ef : ∀ f, c.eval (.func f) = .func (.func f) #[] #[] := fun _ => rfl
  refine does_value ho hw (v := .bool true) ?_ rfl (Below.refl _ _)
  generalize c.eval = ρ at *
  clear hF hb hW hw ho
  go_simp

set_option maxRecDepth 10000 in
theorem oN3_12 (b : Nat) (s key sp t : ByteArray) (k ii n : Int) (nm rs is : Bool) (Q : Exit → Act → World → Prop) (c : Act) (w : World) (hb : BaseN3 b s key sp t k ii n nm rs is c) (hW : WorldN3 b s key sp t k ii n nm rs is w) (hF : ∀ q0 ∈ ancN3 12, factsAt (factsN3 b s key sp t k ii n nm rs is) q0 (val RN3 c q0) w) :
    Does Tryz.prog RN3 Q (factsAt (factsN3 b s key sp t k ii n nm rs is)) 12 c w := by
  have ho : RN3[12]? = some ({ dst := some 34, op := Op.move (Operand.tmp 33), type := 4, pos := "law.go:94", after := #[{ on := 11, ground := Ground.data }, { on := 9, ground := Ground.chain }], guard := none } : Oper) := by kernel_rfl
  have e33 : c.eval (.tmp 33) = .bool true := fact_at (p := eqv (.bool true)) (by kernel_rfl) rfl (hF 11 (by decide))
  have hw : Region.wanted ({ dst := some 34, op := Op.move (Operand.tmp 33), type := 4, pos := "law.go:94", after := #[{ on := 11, ground := Ground.data }, { on := 9, ground := Ground.chain }], guard := none } : Oper) (yielded RN3 c.tmps) = true := want_none rfl
  have ec : ∀ v, c.eval (.const v) = v := fun _ => rfl
  have ef : ∀ f, c.eval (.func f) = .func (.func f) #[] #[] := fun _ => rfl
  refine does_value ho hw (v := .bool true) ?_ rfl (Below.refl _ _)
  generalize c.eval = ρ at *
  clear hF hb hW hw ho
  go_simp

set_option maxRecDepth 10000 in
theorem oN3_13 (b : Nat) (s key sp t : ByteArray) (k ii n : Int) (nm rs is : Bool) (Q : Exit → Act → World → Prop) (c : Act) (w : World) (hb : BaseN3 b s key sp t k ii n nm rs is c) (hW : WorldN3 b s key sp t k ii n nm rs is w) (hF : ∀ q0 ∈ ancN3 13, factsAt (factsN3 b s key sp t k ii n nm rs is) q0 (val RN3 c q0) w) :
    Does Tryz.prog RN3 Q (factsAt (factsN3 b s key sp t k ii n nm rs is)) 13 c w := by
  have ho : RN3[13]? = some ({ dst := some 35, op := Op.move (Operand.tmp 0), type := 9, pos := "law.go:94", after := #[{ on := 12, ground := Ground.guard }], guard := some (12, true) } : Oper) := by kernel_rfl
  have e0 := hb.t0
  have hg : val RN3 c 12 = .bool true := hF 12 (by decide)
  have hw : Region.wanted ({ dst := some 35, op := Op.move (Operand.tmp 0), type := 9, pos := "law.go:94", after := #[{ on := 12, ground := Ground.guard }], guard := some (12, true) } : Oper) (yielded RN3 c.tmps) = true := want_eq rfl hg
  have ec : ∀ v, c.eval (.const v) = v := fun _ => rfl
  have ef : ∀ f, c.eval (.func f) = .func (.func f) #[] #[] := fun _ => rfl
  refine does_value ho hw (v := .string s) ?_ rfl (Below.refl _ _)
  generalize c.eval = ρ at *
  clear hF hb hW hw ho hg
  go_simp

set_option maxRecDepth 10000 in
theorem oN3_14 (b : Nat) (s key sp t : ByteArray) (k ii n : Int) (nm rs is : Bool) (Q : Exit → Act → World → Prop) (c : Act) (w : World) (hb : BaseN3 b s key sp t k ii n nm rs is c) (hW : WorldN3 b s key sp t k ii n nm rs is w) (hF : ∀ q0 ∈ ancN3 14, factsAt (factsN3 b s key sp t k ii n nm rs is) q0 (val RN3 c q0) w) :
    Does Tryz.prog RN3 Q (factsAt (factsN3 b s key sp t k ii n nm rs is)) 14 c w := by
  have ho : RN3[14]? = some ({ dst := some 36, op := Op.call { callee := Callee.value (Operand.func 27), args := #[Operand.tmp 35], argTypes := #[9] }, type := 9, pos := "law.go:94", after := #[{ on := 13, ground := Ground.data }, { on := 12, ground := Ground.chain }, { on := 12, ground := Ground.guard }], guard := some (12, true) } : Oper) := by kernel_rfl
  have e35 : c.eval (.tmp 35) = .string s := fact_at (p := eqv (.string s)) (by kernel_rfl) rfl (hF 13 (by decide))
  have hg : val RN3 c 12 = .bool true := hF 12 (by decide)
  have hw : Region.wanted ({ dst := some 36, op := Op.call { callee := Callee.value (Operand.func 27), args := #[Operand.tmp 35], argTypes := #[9] }, type := 9, pos := "law.go:94", after := #[{ on := 13, ground := Ground.data }, { on := 12, ground := Ground.chain }, { on := 12, ground := Ground.guard }], guard := some (12, true) } : Oper) (yielded RN3 c.tmps) = true := want_eq rfl hg
  have ec : ∀ v, c.eval (.const v) = v := fun _ => rfl
  have ef : ∀ f, c.eval (.func f) = .func (.func f) #[] #[] := fun _ => rfl
  refine does_call ho hw (f := 27) (args := #[.string s]) ?_ (Calls.mono (hW.k14) fun e w' ⟨h1, h2⟩ => ⟨_, h1, rfl, h2⟩)
  generalize c.eval = ρ at *
  clear hF hb hW hw ho hg
  go_simp

set_option maxRecDepth 10000 in
theorem oN3_15 (b : Nat) (s key sp t : ByteArray) (k ii n : Int) (nm rs is : Bool) (Q : Exit → Act → World → Prop) (c : Act) (w : World) (hb : BaseN3 b s key sp t k ii n nm rs is c) (hW : WorldN3 b s key sp t k ii n nm rs is w) (hF : ∀ q0 ∈ ancN3 15, factsAt (factsN3 b s key sp t k ii n nm rs is) q0 (val RN3 c q0) w) :
    Does Tryz.prog RN3 Q (factsAt (factsN3 b s key sp t k ii n nm rs is)) 15 c w := by
  have ho : RN3[15]? = some ({ dst := some 37, op := Op.move (Operand.tmp 0), type := 9, pos := "law.go:94", after := #[{ on := 12, ground := Ground.guard }], guard := some (12, true) } : Oper) := by kernel_rfl
  have e0 := hb.t0
  have hg : val RN3 c 12 = .bool true := hF 12 (by decide)
  have hw : Region.wanted ({ dst := some 37, op := Op.move (Operand.tmp 0), type := 9, pos := "law.go:94", after := #[{ on := 12, ground := Ground.guard }], guard := some (12, true) } : Oper) (yielded RN3 c.tmps) = true := want_eq rfl hg
  have ec : ∀ v, c.eval (.const v) = v := fun _ => rfl
  have ef : ∀ f, c.eval (.func f) = .func (.func f) #[] #[] := fun _ => rfl
  refine does_value ho hw (v := .string s) ?_ rfl (Below.refl _ _)
  generalize c.eval = ρ at *
  clear hF hb hW hw ho hg
  go_simp

set_option maxRecDepth 10000 in
theorem oN3_16 (b : Nat) (s key sp t : ByteArray) (k ii n : Int) (nm rs is : Bool) (Q : Exit → Act → World → Prop) (c : Act) (w : World) (hb : BaseN3 b s key sp t k ii n nm rs is c) (hW : WorldN3 b s key sp t k ii n nm rs is w) (hF : ∀ q0 ∈ ancN3 16, factsAt (factsN3 b s key sp t k ii n nm rs is) q0 (val RN3 c q0) w) :
    Does Tryz.prog RN3 Q (factsAt (factsN3 b s key sp t k ii n nm rs is)) 16 c w := by
  have ho : RN3[16]? = some ({ dst := some 38, op := Op.call { callee := Callee.value (Operand.func 28), args := #[Operand.tmp 37], argTypes := #[9] }, type := 9, pos := "law.go:94", after := #[{ on := 15, ground := Ground.data }, { on := 14, ground := Ground.chain }, { on := 12, ground := Ground.guard }], guard := some (12, true) } : Oper) := by kernel_rfl
  have e37 : c.eval (.tmp 37) = .string s := fact_at (p := eqv (.string s)) (by kernel_rfl) rfl (hF 15 (by decide))
  have hg : val RN3 c 12 = .bool true := hF 12 (by decide)
  have hw : Region.wanted ({ dst := some 38, op := Op.call { callee := Callee.value (Operand.func 28), args := #[Operand.tmp 37], argTypes := #[9] }, type := 9, pos := "law.go:94", after := #[{ on := 15, ground := Ground.data }, { on := 14, ground := Ground.chain }, { on := 12, ground := Ground.guard }], guard := some (12, true) } : Oper) (yielded RN3 c.tmps) = true := want_eq rfl hg
  have ec : ∀ v, c.eval (.const v) = v := fun _ => rfl
  have ef : ∀ f, c.eval (.func f) = .func (.func f) #[] #[] := fun _ => rfl
  refine does_call ho hw (f := 28) (args := #[.string s]) ?_ (Calls.mono (hW.k16) fun e w' ⟨h1, h2⟩ => ⟨_, h1, rfl, h2⟩)
  generalize c.eval = ρ at *
  clear hF hb hW hw ho hg
  go_simp

set_option maxRecDepth 10000 in
theorem oN3_17 (b : Nat) (s key sp t : ByteArray) (k ii n : Int) (nm rs is : Bool) (Q : Exit → Act → World → Prop) (c : Act) (w : World) (hb : BaseN3 b s key sp t k ii n nm rs is c) (hW : WorldN3 b s key sp t k ii n nm rs is w) (hF : ∀ q0 ∈ ancN3 17, factsAt (factsN3 b s key sp t k ii n nm rs is) q0 (val RN3 c q0) w) :
    Does Tryz.prog RN3 Q (factsAt (factsN3 b s key sp t k ii n nm rs is)) 17 c w := by
  have ho : RN3[17]? = some ({ dst := some 39, op := Op.binOp BinOp.eql 9 (Operand.tmp 36) (Operand.tmp 38) 9, type := 4, pos := "law.go:94", after := #[{ on := 14, ground := Ground.data }, { on := 16, ground := Ground.data }, { on := 12, ground := Ground.guard }], guard := some (12, true) } : Oper) := by kernel_rfl
  have e36 : c.eval (.tmp 36) = .string sp := fact_at (p := eqv (.string sp)) (by kernel_rfl) rfl (hF 14 (by decide))
  have e38 : c.eval (.tmp 38) = .string sp := fact_at (p := eqv (.string sp)) (by kernel_rfl) rfl (hF 16 (by decide))
  have hg : val RN3 c 12 = .bool true := hF 12 (by decide)
  have hw : Region.wanted ({ dst := some 39, op := Op.binOp BinOp.eql 9 (Operand.tmp 36) (Operand.tmp 38) 9, type := 4, pos := "law.go:94", after := #[{ on := 14, ground := Ground.data }, { on := 16, ground := Ground.data }, { on := 12, ground := Ground.guard }], guard := some (12, true) } : Oper) (yielded RN3 c.tmps) = true := want_eq rfl hg
  have ec : ∀ v, c.eval (.const v) = v := fun _ => rfl
  have ef : ∀ f, c.eval (.func f) = .func (.func f) #[] #[] := fun _ => rfl
  refine does_value ho hw (v := .bool true) ?_ rfl (Below.refl _ _)
  generalize c.eval = ρ at *
  clear hF hb hW hw ho hg
  go_simp

set_option maxRecDepth 10000 in
theorem oN3_18 (b : Nat) (s key sp t : ByteArray) (k ii n : Int) (nm rs is : Bool) (Q : Exit → Act → World → Prop) (c : Act) (w : World) (hb : BaseN3 b s key sp t k ii n nm rs is c) (hW : WorldN3 b s key sp t k ii n nm rs is w) (hF : ∀ q0 ∈ ancN3 18, factsAt (factsN3 b s key sp t k ii n nm rs is) q0 (val RN3 c q0) w) :
    Does Tryz.prog RN3 Q (factsAt (factsN3 b s key sp t k ii n nm rs is)) 18 c w := by
  have ho : RN3[18]? = some ({ dst := some 40, op := Op.pick (Operand.tmp 34) (Operand.tmp 39) (Operand.const (Value.bool false)), type := 4, pos := "law.go:94", after := #[{ on := 12, ground := Ground.data }, { on := 17, ground := Ground.data }], guard := none } : Oper) := by kernel_rfl
  have e34 : c.eval (.tmp 34) = .bool true := fact_at (p := eqv (.bool true)) (by kernel_rfl) rfl (hF 12 (by decide))
  have e39 : c.eval (.tmp 39) = .bool true := fact_at (p := eqv (.bool true)) (by kernel_rfl) rfl (hF 17 (by decide))
  have hw : Region.wanted ({ dst := some 40, op := Op.pick (Operand.tmp 34) (Operand.tmp 39) (Operand.const (Value.bool false)), type := 4, pos := "law.go:94", after := #[{ on := 12, ground := Ground.data }, { on := 17, ground := Ground.data }], guard := none } : Oper) (yielded RN3 c.tmps) = true := want_none rfl
  have ec : ∀ v, c.eval (.const v) = v := fun _ => rfl
  have ef : ∀ f, c.eval (.func f) = .func (.func f) #[] #[] := fun _ => rfl
  refine does_value ho hw (v := .bool true) ?_ rfl (Below.refl _ _)
  generalize c.eval = ρ at *
  clear hF hb hW hw ho
  go_simp

set_option maxRecDepth 10000 in
theorem oN3_19 (b : Nat) (s key sp t : ByteArray) (k ii n : Int) (nm rs is : Bool) (Q : Exit → Act → World → Prop) (c : Act) (w : World) (hb : BaseN3 b s key sp t k ii n nm rs is c) (hW : WorldN3 b s key sp t k ii n nm rs is w) (hF : ∀ q0 ∈ ancN3 19, factsAt (factsN3 b s key sp t k ii n nm rs is) q0 (val RN3 c q0) w) :
    Does Tryz.prog RN3 Q (factsAt (factsN3 b s key sp t k ii n nm rs is)) 19 c w := by
  have ho : RN3[19]? = some ({ dst := some 41, op := Op.move (Operand.tmp 40), type := 4, pos := "law.go:94", after := #[{ on := 18, ground := Ground.data }, { on := 16, ground := Ground.chain }], guard := none } : Oper) := by kernel_rfl
  have e40 : c.eval (.tmp 40) = .bool true := fact_at (p := eqv (.bool true)) (by kernel_rfl) rfl (hF 18 (by decide))
  have hw : Region.wanted ({ dst := some 41, op := Op.move (Operand.tmp 40), type := 4, pos := "law.go:94", after := #[{ on := 18, ground := Ground.data }, { on := 16, ground := Ground.chain }], guard := none } : Oper) (yielded RN3 c.tmps) = true := want_none rfl
  have ec : ∀ v, c.eval (.const v) = v := fun _ => rfl
  have ef : ∀ f, c.eval (.func f) = .func (.func f) #[] #[] := fun _ => rfl
  refine does_value ho hw (v := .bool true) ?_ rfl (Below.refl _ _)
  generalize c.eval = ρ at *
  clear hF hb hW hw ho
  go_simp

set_option maxRecDepth 10000 in
theorem oN3_20 (b : Nat) (s key sp t : ByteArray) (k ii n : Int) (nm rs is : Bool) (Q : Exit → Act → World → Prop) (c : Act) (w : World) (hb : BaseN3 b s key sp t k ii n nm rs is c) (hW : WorldN3 b s key sp t k ii n nm rs is w) (hF : ∀ q0 ∈ ancN3 20, factsAt (factsN3 b s key sp t k ii n nm rs is) q0 (val RN3 c q0) w) :
    Does Tryz.prog RN3 Q (factsAt (factsN3 b s key sp t k ii n nm rs is)) 20 c w := by
  have ho : RN3[20]? = some ({ dst := some 42, op := Op.load 33 (Operand.tmp 4), type := 33, pos := "law.go:94", after := #[{ on := 19, ground := Ground.guard }], guard := some (19, true) } : Oper) := by kernel_rfl
  have e4 := hb.t4
  have hg : val RN3 c 19 = .bool true := hF 19 (by decide)
  have hw : Region.wanted ({ dst := some 42, op := Op.load 33 (Operand.tmp 4), type := 33, pos := "law.go:94", after := #[{ on := 19, ground := Ground.guard }], guard := some (19, true) } : Oper) (yielded RN3 c.tmps) = true := want_eq rfl hg
  have ec : ∀ v, c.eval (.const v) = v := fun _ => rfl
  have ef : ∀ f, c.eval (.func f) = .func (.func f) #[] #[] := fun _ => rfl
  have x0 := hW.x0
  have x1 := hW.x1
  have x2 := hW.x2
  have x3 := hW.x3
  refine does_value ho hw (v := .agg #[.int .i64 k, .int .i64 ii, .string t, .int .u64 n]) ?_ rfl (Below.refl _ _)
  generalize c.eval = ρ at *
  clear hF hb hW hw ho hg
  go_simp

set_option maxRecDepth 10000 in
theorem oN3_21 (b : Nat) (s key sp t : ByteArray) (k ii n : Int) (nm rs is : Bool) (Q : Exit → Act → World → Prop) (c : Act) (w : World) (hb : BaseN3 b s key sp t k ii n nm rs is c) (hW : WorldN3 b s key sp t k ii n nm rs is w) (hF : ∀ q0 ∈ ancN3 21, factsAt (factsN3 b s key sp t k ii n nm rs is) q0 (val RN3 c q0) w) :
    Does Tryz.prog RN3 Q (factsAt (factsN3 b s key sp t k ii n nm rs is)) 21 c w := by
  have ho : RN3[21]? = some ({ dst := some 43, op := Op.move (Operand.tmp 2), type := 9, pos := "law.go:94", after := #[{ on := 19, ground := Ground.guard }], guard := some (19, true) } : Oper) := by kernel_rfl
  have e2 := hb.t2
  have hg : val RN3 c 19 = .bool true := hF 19 (by decide)
  have hw : Region.wanted ({ dst := some 43, op := Op.move (Operand.tmp 2), type := 9, pos := "law.go:94", after := #[{ on := 19, ground := Ground.guard }], guard := some (19, true) } : Oper) (yielded RN3 c.tmps) = true := want_eq rfl hg
  have ec : ∀ v, c.eval (.const v) = v := fun _ => rfl
  have ef : ∀ f, c.eval (.func f) = .func (.func f) #[] #[] := fun _ => rfl
  refine does_value ho hw (v := .string key) ?_ rfl (Below.refl _ _)
  generalize c.eval = ρ at *
  clear hF hb hW hw ho hg
  go_simp

set_option maxRecDepth 10000 in
theorem oN3_22 (b : Nat) (s key sp t : ByteArray) (k ii n : Int) (nm rs is : Bool) (Q : Exit → Act → World → Prop) (c : Act) (w : World) (hb : BaseN3 b s key sp t k ii n nm rs is c) (hW : WorldN3 b s key sp t k ii n nm rs is w) (hF : ∀ q0 ∈ ancN3 22, factsAt (factsN3 b s key sp t k ii n nm rs is) q0 (val RN3 c q0) w) :
    Does Tryz.prog RN3 Q (factsAt (factsN3 b s key sp t k ii n nm rs is)) 22 c w := by
  have ho : RN3[22]? = some ({ dst := some 44, op := Op.call { callee := Callee.value (Operand.func 29), args := #[Operand.tmp 42, Operand.tmp 43], argTypes := #[33, 9] }, type := 4, pos := "law.go:94", after := #[{ on := 20, ground := Ground.data }, { on := 21, ground := Ground.data }, { on := 19, ground := Ground.chain }, { on := 19, ground := Ground.guard }], guard := some (19, true) } : Oper) := by kernel_rfl
  have e42 : c.eval (.tmp 42) = .agg #[.int .i64 k, .int .i64 ii, .string t, .int .u64 n] := fact_at (p := eqv (.agg #[.int .i64 k, .int .i64 ii, .string t, .int .u64 n])) (by kernel_rfl) rfl (hF 20 (by decide))
  have e43 : c.eval (.tmp 43) = .string key := fact_at (p := eqv (.string key)) (by kernel_rfl) rfl (hF 21 (by decide))
  have hg : val RN3 c 19 = .bool true := hF 19 (by decide)
  have hw : Region.wanted ({ dst := some 44, op := Op.call { callee := Callee.value (Operand.func 29), args := #[Operand.tmp 42, Operand.tmp 43], argTypes := #[33, 9] }, type := 4, pos := "law.go:94", after := #[{ on := 20, ground := Ground.data }, { on := 21, ground := Ground.data }, { on := 19, ground := Ground.chain }, { on := 19, ground := Ground.guard }], guard := some (19, true) } : Oper) (yielded RN3 c.tmps) = true := want_eq rfl hg
  have ec : ∀ v, c.eval (.const v) = v := fun _ => rfl
  have ef : ∀ f, c.eval (.func f) = .func (.func f) #[] #[] := fun _ => rfl
  refine does_call ho hw (f := 29) (args := #[.agg #[.int .i64 k, .int .i64 ii, .string t, .int .u64 n], .string key]) ?_ (Calls.mono (hW.k22) fun e w' ⟨h1, h2⟩ => ⟨_, h1, rfl, h2⟩)
  generalize c.eval = ρ at *
  clear hF hb hW hw ho hg
  go_simp

set_option maxRecDepth 10000 in
theorem oN3_23 (b : Nat) (s key sp t : ByteArray) (k ii n : Int) (nm rs is : Bool) (Q : Exit → Act → World → Prop) (c : Act) (w : World) (hb : BaseN3 b s key sp t k ii n nm rs is c) (hW : WorldN3 b s key sp t k ii n nm rs is w) (hF : ∀ q0 ∈ ancN3 23, factsAt (factsN3 b s key sp t k ii n nm rs is) q0 (val RN3 c q0) w) :
    Does Tryz.prog RN3 Q (factsAt (factsN3 b s key sp t k ii n nm rs is)) 23 c w := by
  have ho : RN3[23]? = some ({ dst := some 45, op := Op.load 33 (Operand.tmp 4), type := 33, pos := "law.go:94", after := #[{ on := 19, ground := Ground.guard }], guard := some (19, true) } : Oper) := by kernel_rfl
  have e4 := hb.t4
  have hg : val RN3 c 19 = .bool true := hF 19 (by decide)
  have hw : Region.wanted ({ dst := some 45, op := Op.load 33 (Operand.tmp 4), type := 33, pos := "law.go:94", after := #[{ on := 19, ground := Ground.guard }], guard := some (19, true) } : Oper) (yielded RN3 c.tmps) = true := want_eq rfl hg
  have ec : ∀ v, c.eval (.const v) = v := fun _ => rfl
  have ef : ∀ f, c.eval (.func f) = .func (.func f) #[] #[] := fun _ => rfl
  have x0 := hW.x0
  have x1 := hW.x1
  have x2 := hW.x2
  have x3 := hW.x3
  refine does_value ho hw (v := .agg #[.int .i64 k, .int .i64 ii, .string t, .int .u64 n]) ?_ rfl (Below.refl _ _)
  generalize c.eval = ρ at *
  clear hF hb hW hw ho hg
  go_simp

set_option maxRecDepth 10000 in
theorem oN3_24 (b : Nat) (s key sp t : ByteArray) (k ii n : Int) (nm rs is : Bool) (Q : Exit → Act → World → Prop) (c : Act) (w : World) (hb : BaseN3 b s key sp t k ii n nm rs is c) (hW : WorldN3 b s key sp t k ii n nm rs is w) (hF : ∀ q0 ∈ ancN3 24, factsAt (factsN3 b s key sp t k ii n nm rs is) q0 (val RN3 c q0) w) :
    Does Tryz.prog RN3 Q (factsAt (factsN3 b s key sp t k ii n nm rs is)) 24 c w := by
  have ho : RN3[24]? = some ({ dst := some 46, op := Op.move (Operand.tmp 2), type := 9, pos := "law.go:94", after := #[{ on := 19, ground := Ground.guard }], guard := some (19, true) } : Oper) := by kernel_rfl
  have e2 := hb.t2
  have hg : val RN3 c 19 = .bool true := hF 19 (by decide)
  have hw : Region.wanted ({ dst := some 46, op := Op.move (Operand.tmp 2), type := 9, pos := "law.go:94", after := #[{ on := 19, ground := Ground.guard }], guard := some (19, true) } : Oper) (yielded RN3 c.tmps) = true := want_eq rfl hg
  have ec : ∀ v, c.eval (.const v) = v := fun _ => rfl
  have ef : ∀ f, c.eval (.func f) = .func (.func f) #[] #[] := fun _ => rfl
  refine does_value ho hw (v := .string key) ?_ rfl (Below.refl _ _)
  generalize c.eval = ρ at *
  clear hF hb hW hw ho hg
  go_simp

set_option maxRecDepth 10000 in
theorem oN3_25 (b : Nat) (s key sp t : ByteArray) (k ii n : Int) (nm rs is : Bool) (Q : Exit → Act → World → Prop) (c : Act) (w : World) (hb : BaseN3 b s key sp t k ii n nm rs is c) (hW : WorldN3 b s key sp t k ii n nm rs is w) (hF : ∀ q0 ∈ ancN3 25, factsAt (factsN3 b s key sp t k ii n nm rs is) q0 (val RN3 c q0) w) :
    Does Tryz.prog RN3 Q (factsAt (factsN3 b s key sp t k ii n nm rs is)) 25 c w := by
  have ho : RN3[25]? = some ({ dst := some 47, op := Op.call { callee := Callee.value (Operand.func 30), args := #[Operand.tmp 45, Operand.tmp 46], argTypes := #[33, 9] }, type := 4, pos := "law.go:94", after := #[{ on := 23, ground := Ground.data }, { on := 24, ground := Ground.data }, { on := 22, ground := Ground.chain }, { on := 19, ground := Ground.guard }], guard := some (19, true) } : Oper) := by kernel_rfl
  have e45 : c.eval (.tmp 45) = .agg #[.int .i64 k, .int .i64 ii, .string t, .int .u64 n] := fact_at (p := eqv (.agg #[.int .i64 k, .int .i64 ii, .string t, .int .u64 n])) (by kernel_rfl) rfl (hF 23 (by decide))
  have e46 : c.eval (.tmp 46) = .string key := fact_at (p := eqv (.string key)) (by kernel_rfl) rfl (hF 24 (by decide))
  have hg : val RN3 c 19 = .bool true := hF 19 (by decide)
  have hw : Region.wanted ({ dst := some 47, op := Op.call { callee := Callee.value (Operand.func 30), args := #[Operand.tmp 45, Operand.tmp 46], argTypes := #[33, 9] }, type := 4, pos := "law.go:94", after := #[{ on := 23, ground := Ground.data }, { on := 24, ground := Ground.data }, { on := 22, ground := Ground.chain }, { on := 19, ground := Ground.guard }], guard := some (19, true) } : Oper) (yielded RN3 c.tmps) = true := want_eq rfl hg
  have ec : ∀ v, c.eval (.const v) = v := fun _ => rfl
  have ef : ∀ f, c.eval (.func f) = .func (.func f) #[] #[] := fun _ => rfl
  refine does_call ho hw (f := 30) (args := #[.agg #[.int .i64 k, .int .i64 ii, .string t, .int .u64 n], .string key]) ?_ (Calls.mono (hW.k25) fun e w' ⟨h1, h2⟩ => ⟨_, h1, rfl, h2⟩)
  generalize c.eval = ρ at *
  clear hF hb hW hw ho hg
  go_simp

set_option maxRecDepth 10000 in
theorem oN3_26 (b : Nat) (s key sp t : ByteArray) (k ii n : Int) (nm rs is : Bool) (Q : Exit → Act → World → Prop) (c : Act) (w : World) (hb : BaseN3 b s key sp t k ii n nm rs is c) (hW : WorldN3 b s key sp t k ii n nm rs is w) (hF : ∀ q0 ∈ ancN3 26, factsAt (factsN3 b s key sp t k ii n nm rs is) q0 (val RN3 c q0) w) :
    Does Tryz.prog RN3 Q (factsAt (factsN3 b s key sp t k ii n nm rs is)) 26 c w := by
  have ho : RN3[26]? = some ({ dst := some 48, op := Op.binOp BinOp.eql 4 (Operand.tmp 44) (Operand.tmp 47) 4, type := 4, pos := "law.go:94", after := #[{ on := 22, ground := Ground.data }, { on := 25, ground := Ground.data }, { on := 19, ground := Ground.guard }], guard := some (19, true) } : Oper) := by kernel_rfl
  have e44 : c.eval (.tmp 44) = .bool is := fact_at (p := eqv (.bool is)) (by kernel_rfl) rfl (hF 22 (by decide))
  have e47 : c.eval (.tmp 47) = .bool is := fact_at (p := eqv (.bool is)) (by kernel_rfl) rfl (hF 25 (by decide))
  have hg : val RN3 c 19 = .bool true := hF 19 (by decide)
  have hw : Region.wanted ({ dst := some 48, op := Op.binOp BinOp.eql 4 (Operand.tmp 44) (Operand.tmp 47) 4, type := 4, pos := "law.go:94", after := #[{ on := 22, ground := Ground.data }, { on := 25, ground := Ground.data }, { on := 19, ground := Ground.guard }], guard := some (19, true) } : Oper) (yielded RN3 c.tmps) = true := want_eq rfl hg
  have ec : ∀ v, c.eval (.const v) = v := fun _ => rfl
  have ef : ∀ f, c.eval (.func f) = .func (.func f) #[] #[] := fun _ => rfl
  refine does_value ho hw (v := .bool true) ?_ rfl (Below.refl _ _)
  generalize c.eval = ρ at *
  clear hF hb hW hw ho hg
  go_simp

set_option maxRecDepth 10000 in
theorem oN3_27 (b : Nat) (s key sp t : ByteArray) (k ii n : Int) (nm rs is : Bool) (Q : Exit → Act → World → Prop) (c : Act) (w : World) (hb : BaseN3 b s key sp t k ii n nm rs is c) (hW : WorldN3 b s key sp t k ii n nm rs is w) (hF : ∀ q0 ∈ ancN3 27, factsAt (factsN3 b s key sp t k ii n nm rs is) q0 (val RN3 c q0) w) :
    Does Tryz.prog RN3 Q (factsAt (factsN3 b s key sp t k ii n nm rs is)) 27 c w := by
  have ho : RN3[27]? = some ({ dst := some 49, op := Op.pick (Operand.tmp 41) (Operand.tmp 48) (Operand.const (Value.bool false)), type := 4, pos := "law.go:94", after := #[{ on := 19, ground := Ground.data }, { on := 26, ground := Ground.data }], guard := none } : Oper) := by kernel_rfl
  have e41 : c.eval (.tmp 41) = .bool true := fact_at (p := eqv (.bool true)) (by kernel_rfl) rfl (hF 19 (by decide))
  have e48 : c.eval (.tmp 48) = .bool true := fact_at (p := eqv (.bool true)) (by kernel_rfl) rfl (hF 26 (by decide))
  have hw : Region.wanted ({ dst := some 49, op := Op.pick (Operand.tmp 41) (Operand.tmp 48) (Operand.const (Value.bool false)), type := 4, pos := "law.go:94", after := #[{ on := 19, ground := Ground.data }, { on := 26, ground := Ground.data }], guard := none } : Oper) (yielded RN3 c.tmps) = true := want_none rfl
  have ec : ∀ v, c.eval (.const v) = v := fun _ => rfl
  have ef : ∀ f, c.eval (.func f) = .func (.func f) #[] #[] := fun _ => rfl
  refine does_value ho hw (v := .bool true) ?_ rfl (Below.refl _ _)
  generalize c.eval = ρ at *
  clear hF hb hW hw ho
  go_simp

set_option maxRecDepth 10000 in
theorem oN3_28 (b : Nat) (s key sp t : ByteArray) (k ii n : Int) (nm rs is : Bool) (Q : Exit → Act → World → Prop) (c : Act) (w : World) (hb : BaseN3 b s key sp t k ii n nm rs is c) (hW : WorldN3 b s key sp t k ii n nm rs is w) (hF : ∀ q0 ∈ ancN3 28, factsAt (factsN3 b s key sp t k ii n nm rs is) q0 (val RN3 c q0) w) :
    Does Tryz.prog RN3 Q (factsAt (factsN3 b s key sp t k ii n nm rs is)) 28 c w := by
  have ho : RN3[28]? = some ({ dst := some 50, op := Op.move (Operand.tmp 49), type := 4, pos := "law.go:94", after := #[{ on := 27, ground := Ground.data }, { on := 25, ground := Ground.chain }], guard := none } : Oper) := by kernel_rfl
  have e49 : c.eval (.tmp 49) = .bool true := fact_at (p := eqv (.bool true)) (by kernel_rfl) rfl (hF 27 (by decide))
  have hw : Region.wanted ({ dst := some 50, op := Op.move (Operand.tmp 49), type := 4, pos := "law.go:94", after := #[{ on := 27, ground := Ground.data }, { on := 25, ground := Ground.chain }], guard := none } : Oper) (yielded RN3 c.tmps) = true := want_none rfl
  have ec : ∀ v, c.eval (.const v) = v := fun _ => rfl
  have ef : ∀ f, c.eval (.func f) = .func (.func f) #[] #[] := fun _ => rfl
  refine does_value ho hw (v := .bool true) ?_ rfl (Below.refl _ _)
  generalize c.eval = ρ at *
  clear hF hb hW hw ho
  go_simp

set_option maxRecDepth 10000 in
theorem oN3_29 (b : Nat) (s key sp t : ByteArray) (k ii n : Int) (nm rs is : Bool) (Q : Exit → Act → World → Prop) (c : Act) (w : World) (hb : BaseN3 b s key sp t k ii n nm rs is c) (hW : WorldN3 b s key sp t k ii n nm rs is w) (hF : ∀ q0 ∈ ancN3 29, factsAt (factsN3 b s key sp t k ii n nm rs is) q0 (val RN3 c q0) w) :
    Does Tryz.prog RN3 Q (factsAt (factsN3 b s key sp t k ii n nm rs is)) 29 c w := by
  have ho : RN3[29]? = some ({ dst := some 51, op := Op.call { callee := Callee.value (Operand.func 11), args := #[], argTypes := #[] }, type := 4, pos := "law.go:94", after := #[{ on := 28, ground := Ground.chain }, { on := 28, ground := Ground.guard }], guard := some (28, true) } : Oper) := by kernel_rfl
  have hg : val RN3 c 28 = .bool true := hF 28 (by decide)
  have hw : Region.wanted ({ dst := some 51, op := Op.call { callee := Callee.value (Operand.func 11), args := #[], argTypes := #[] }, type := 4, pos := "law.go:94", after := #[{ on := 28, ground := Ground.chain }, { on := 28, ground := Ground.guard }], guard := some (28, true) } : Oper) (yielded RN3 c.tmps) = true := want_eq rfl hg
  have ec : ∀ v, c.eval (.const v) = v := fun _ => rfl
  have ef : ∀ f, c.eval (.func f) = .func (.func f) #[] #[] := fun _ => rfl
  refine does_call ho hw (f := 11) (args := #[]) ?_ (Calls.mono (hW.k29) fun e w' ⟨h1, h2⟩ => ⟨_, h1, rfl, h2⟩)
  generalize c.eval = ρ at *
  clear hF hb hW hw ho hg
  go_simp

set_option maxRecDepth 10000 in
theorem oN3_30 (b : Nat) (s key sp t : ByteArray) (k ii n : Int) (nm rs is : Bool) (Q : Exit → Act → World → Prop) (c : Act) (w : World) (hb : BaseN3 b s key sp t k ii n nm rs is c) (hW : WorldN3 b s key sp t k ii n nm rs is w) (hF : ∀ q0 ∈ ancN3 30, factsAt (factsN3 b s key sp t k ii n nm rs is) q0 (val RN3 c q0) w) :
    Does Tryz.prog RN3 Q (factsAt (factsN3 b s key sp t k ii n nm rs is)) 30 c w := by
  have ho : RN3[30]? = some ({ dst := some 52, op := Op.pick (Operand.tmp 50) (Operand.tmp 51) (Operand.const (Value.bool false)), type := 4, pos := "law.go:94", after := #[{ on := 28, ground := Ground.data }, { on := 29, ground := Ground.data }], guard := none } : Oper) := by kernel_rfl
  have e50 : c.eval (.tmp 50) = .bool true := fact_at (p := eqv (.bool true)) (by kernel_rfl) rfl (hF 28 (by decide))
  have e51 : c.eval (.tmp 51) = .bool true := fact_at (p := eqv (.bool true)) (by kernel_rfl) rfl (hF 29 (by decide))
  have hw : Region.wanted ({ dst := some 52, op := Op.pick (Operand.tmp 50) (Operand.tmp 51) (Operand.const (Value.bool false)), type := 4, pos := "law.go:94", after := #[{ on := 28, ground := Ground.data }, { on := 29, ground := Ground.data }], guard := none } : Oper) (yielded RN3 c.tmps) = true := want_none rfl
  have ec : ∀ v, c.eval (.const v) = v := fun _ => rfl
  have ef : ∀ f, c.eval (.func f) = .func (.func f) #[] #[] := fun _ => rfl
  refine does_value ho hw (v := .bool true) ?_ rfl (Below.refl _ _)
  generalize c.eval = ρ at *
  clear hF hb hW hw ho
  go_simp

set_option maxRecDepth 10000 in
theorem oN3_31 (b : Nat) (s key sp t : ByteArray) (k ii n : Int) (nm rs is : Bool) (Q : Exit → Act → World → Prop) (c : Act) (w : World) (hb : BaseN3 b s key sp t k ii n nm rs is c) (hW : WorldN3 b s key sp t k ii n nm rs is w) (hF : ∀ q0 ∈ ancN3 31, factsAt (factsN3 b s key sp t k ii n nm rs is) q0 (val RN3 c q0) w) :
    Does Tryz.prog RN3 Q (factsAt (factsN3 b s key sp t k ii n nm rs is)) 31 c w := by
  have ho : RN3[31]? = some ({ dst := some 6, op := Op.assign (Operand.tmp 52), type := 4, pos := "law.go:94", after := #[{ on := 30, ground := Ground.data }, { on := 29, ground := Ground.chain }, { on := 0, ground := Ground.phase }, { on := 1, ground := Ground.phase }, { on := 2, ground := Ground.phase }, { on := 3, ground := Ground.phase }, { on := 4, ground := Ground.phase }, { on := 5, ground := Ground.phase }, { on := 6, ground := Ground.phase }, { on := 7, ground := Ground.phase }, { on := 8, ground := Ground.phase }, { on := 9, ground := Ground.phase }, { on := 10, ground := Ground.phase }, { on := 11, ground := Ground.phase }, { on := 12, ground := Ground.phase }, { on := 13, ground := Ground.phase }, { on := 14, ground := Ground.phase }, { on := 15, ground := Ground.phase }, { on := 16, ground := Ground.phase }, { on := 17, ground := Ground.phase }, { on := 18, ground := Ground.phase }, { on := 19, ground := Ground.phase }, { on := 20, ground := Ground.phase }, { on := 21, ground := Ground.phase }, { on := 22, ground := Ground.phase }, { on := 23, ground := Ground.phase }, { on := 24, ground := Ground.phase }, { on := 25, ground := Ground.phase }, { on := 26, ground := Ground.phase }, { on := 27, ground := Ground.phase }, { on := 28, ground := Ground.phase }, { on := 29, ground := Ground.phase }, { on := 30, ground := Ground.phase }], guard := none } : Oper) := by kernel_rfl
  have e52 : c.eval (.tmp 52) = .bool true := fact_at (p := eqv (.bool true)) (by kernel_rfl) rfl (hF 30 (by decide))
  have hw : Region.wanted ({ dst := some 6, op := Op.assign (Operand.tmp 52), type := 4, pos := "law.go:94", after := #[{ on := 30, ground := Ground.data }, { on := 29, ground := Ground.chain }, { on := 0, ground := Ground.phase }, { on := 1, ground := Ground.phase }, { on := 2, ground := Ground.phase }, { on := 3, ground := Ground.phase }, { on := 4, ground := Ground.phase }, { on := 5, ground := Ground.phase }, { on := 6, ground := Ground.phase }, { on := 7, ground := Ground.phase }, { on := 8, ground := Ground.phase }, { on := 9, ground := Ground.phase }, { on := 10, ground := Ground.phase }, { on := 11, ground := Ground.phase }, { on := 12, ground := Ground.phase }, { on := 13, ground := Ground.phase }, { on := 14, ground := Ground.phase }, { on := 15, ground := Ground.phase }, { on := 16, ground := Ground.phase }, { on := 17, ground := Ground.phase }, { on := 18, ground := Ground.phase }, { on := 19, ground := Ground.phase }, { on := 20, ground := Ground.phase }, { on := 21, ground := Ground.phase }, { on := 22, ground := Ground.phase }, { on := 23, ground := Ground.phase }, { on := 24, ground := Ground.phase }, { on := 25, ground := Ground.phase }, { on := 26, ground := Ground.phase }, { on := 27, ground := Ground.phase }, { on := 28, ground := Ground.phase }, { on := 29, ground := Ground.phase }, { on := 30, ground := Ground.phase }], guard := none } : Oper) (yielded RN3 c.tmps) = true := want_none rfl
  have ec : ∀ v, c.eval (.const v) = v := fun _ => rfl
  have ef : ∀ f, c.eval (.func f) = .func (.func f) #[] #[] := fun _ => rfl
  refine does_value ho hw (v := .bool true) ?_ rfl (Below.refl _ _)
  generalize c.eval = ρ at *
  clear hF hb hW hw ho
  go_simp

theorem stableN3 (b : Nat) (s key sp t : ByteArray) (k ii n : Int) (nm rs is : Bool) : ∀ pr ∈ factsN3 b s key sp t k ii n nm rs is, Stable pr := by
  unfold factsN3
  refine List.forall_mem_cons.2 ⟨eqv_stable _, ?_⟩
  refine List.forall_mem_cons.2 ⟨eqv_stable _, ?_⟩
  refine List.forall_mem_cons.2 ⟨eqv_stable _, ?_⟩
  refine List.forall_mem_cons.2 ⟨eqv_stable _, ?_⟩
  refine List.forall_mem_cons.2 ⟨eqv_stable _, ?_⟩
  refine List.forall_mem_cons.2 ⟨eqv_stable _, ?_⟩
  refine List.forall_mem_cons.2 ⟨eqv_stable _, ?_⟩
  refine List.forall_mem_cons.2 ⟨eqv_stable _, ?_⟩
  refine List.forall_mem_cons.2 ⟨eqv_stable _, ?_⟩
  refine List.forall_mem_cons.2 ⟨eqv_stable _, ?_⟩
  refine List.forall_mem_cons.2 ⟨eqv_stable _, ?_⟩
  refine List.forall_mem_cons.2 ⟨eqv_stable _, ?_⟩
  refine List.forall_mem_cons.2 ⟨eqv_stable _, ?_⟩
  refine List.forall_mem_cons.2 ⟨eqv_stable _, ?_⟩
  refine List.forall_mem_cons.2 ⟨eqv_stable _, ?_⟩
  refine List.forall_mem_cons.2 ⟨eqv_stable _, ?_⟩
  refine List.forall_mem_cons.2 ⟨eqv_stable _, ?_⟩
  refine List.forall_mem_cons.2 ⟨eqv_stable _, ?_⟩
  refine List.forall_mem_cons.2 ⟨eqv_stable _, ?_⟩
  refine List.forall_mem_cons.2 ⟨eqv_stable _, ?_⟩
  refine List.forall_mem_cons.2 ⟨eqv_stable _, ?_⟩
  refine List.forall_mem_cons.2 ⟨eqv_stable _, ?_⟩
  refine List.forall_mem_cons.2 ⟨eqv_stable _, ?_⟩
  refine List.forall_mem_cons.2 ⟨eqv_stable _, ?_⟩
  refine List.forall_mem_cons.2 ⟨eqv_stable _, ?_⟩
  refine List.forall_mem_cons.2 ⟨eqv_stable _, ?_⟩
  refine List.forall_mem_cons.2 ⟨eqv_stable _, ?_⟩
  refine List.forall_mem_cons.2 ⟨eqv_stable _, ?_⟩
  refine List.forall_mem_cons.2 ⟨eqv_stable _, ?_⟩
  refine List.forall_mem_cons.2 ⟨eqv_stable _, ?_⟩
  refine List.forall_mem_cons.2 ⟨eqv_stable _, ?_⟩
  refine List.forall_mem_cons.2 ⟨eqv_stable _, ?_⟩
  exact List.forall_mem_nil _

set_option maxRecDepth 100000 in
theorem allN3 (b : Nat) (s key sp t : ByteArray) (k ii n : Int) (nm rs is : Bool) (Q : Exit → Act → World → Prop) : ∀ i, i < 32 → (fun i => ∀ c w, BaseN3 b s key sp t k ii n nm rs is c → WorldN3 b s key sp t k ii n nm rs is w → (∀ q0 ∈ ancN3 i, factsAt (factsN3 b s key sp t k ii n nm rs is) q0 (val RN3 c q0) w) → Does Tryz.prog RN3 Q (factsAt (factsN3 b s key sp t k ii n nm rs is)) i c w) i := by
  refine below_succ ?_ (fun c w => oN3_31 b s key sp t k ii n nm rs is Q c w)
  refine below_succ ?_ (fun c w => oN3_30 b s key sp t k ii n nm rs is Q c w)
  refine below_succ ?_ (fun c w => oN3_29 b s key sp t k ii n nm rs is Q c w)
  refine below_succ ?_ (fun c w => oN3_28 b s key sp t k ii n nm rs is Q c w)
  refine below_succ ?_ (fun c w => oN3_27 b s key sp t k ii n nm rs is Q c w)
  refine below_succ ?_ (fun c w => oN3_26 b s key sp t k ii n nm rs is Q c w)
  refine below_succ ?_ (fun c w => oN3_25 b s key sp t k ii n nm rs is Q c w)
  refine below_succ ?_ (fun c w => oN3_24 b s key sp t k ii n nm rs is Q c w)
  refine below_succ ?_ (fun c w => oN3_23 b s key sp t k ii n nm rs is Q c w)
  refine below_succ ?_ (fun c w => oN3_22 b s key sp t k ii n nm rs is Q c w)
  refine below_succ ?_ (fun c w => oN3_21 b s key sp t k ii n nm rs is Q c w)
  refine below_succ ?_ (fun c w => oN3_20 b s key sp t k ii n nm rs is Q c w)
  refine below_succ ?_ (fun c w => oN3_19 b s key sp t k ii n nm rs is Q c w)
  refine below_succ ?_ (fun c w => oN3_18 b s key sp t k ii n nm rs is Q c w)
  refine below_succ ?_ (fun c w => oN3_17 b s key sp t k ii n nm rs is Q c w)
  refine below_succ ?_ (fun c w => oN3_16 b s key sp t k ii n nm rs is Q c w)
  refine below_succ ?_ (fun c w => oN3_15 b s key sp t k ii n nm rs is Q c w)
  refine below_succ ?_ (fun c w => oN3_14 b s key sp t k ii n nm rs is Q c w)
  refine below_succ ?_ (fun c w => oN3_13 b s key sp t k ii n nm rs is Q c w)
  refine below_succ ?_ (fun c w => oN3_12 b s key sp t k ii n nm rs is Q c w)
  refine below_succ ?_ (fun c w => oN3_11 b s key sp t k ii n nm rs is Q c w)
  refine below_succ ?_ (fun c w => oN3_10 b s key sp t k ii n nm rs is Q c w)
  refine below_succ ?_ (fun c w => oN3_9 b s key sp t k ii n nm rs is Q c w)
  refine below_succ ?_ (fun c w => oN3_8 b s key sp t k ii n nm rs is Q c w)
  refine below_succ ?_ (fun c w => oN3_7 b s key sp t k ii n nm rs is Q c w)
  refine below_succ ?_ (fun c w => oN3_6 b s key sp t k ii n nm rs is Q c w)
  refine below_succ ?_ (fun c w => oN3_5 b s key sp t k ii n nm rs is Q c w)
  refine below_succ ?_ (fun c w => oN3_4 b s key sp t k ii n nm rs is Q c w)
  refine below_succ ?_ (fun c w => oN3_3 b s key sp t k ii n nm rs is Q c w)
  refine below_succ ?_ (fun c w => oN3_2 b s key sp t k ii n nm rs is Q c w)
  refine below_succ ?_ (fun c w => oN3_1 b s key sp t k ii n nm rs is Q c w)
  refine below_succ ?_ (fun c w => oN3_0 b s key sp t k ii n nm rs is Q c w)
  exact below_zero

theorem regionN3 (b : Nat) (s key sp t : ByteArray) (k ii n : Int) (nm rs is : Bool) (Q : Exit → Act → World → Prop) (base : Act) (w0 : World) (hsz : base.tmps.size = 53) (hb : BaseN3 b s key sp t k ii n nm rs is base)
    (hW : ∀ w, Below w0.heap.size w0 w → WorldN3 b s key sp t k ii n nm rs is w) (hQ : ∀ c w, Same RN3 base c → Below w0.heap.size w0 w → c.eval (.tmp 6) = .bool true → Q .normal c w) : (Code.region 3 RN3 true).wp Tryz.prog Q base w0 := by
  refine facts_rule (A := ancN3) (F := factsAt (factsN3 b s key sp t k ii n nm rs is)) (by kernel_rfl) (by rw [hsz]; kernel_rfl) (fun i v w w' => factsAt_stable (stableN3 b s key sp t k ii n nm rs is) i v w w') ?_ ?_
  · intro i hi c w hS hB hF
    exact allN3 b s key sp t k ii n nm rs is Q i (by rwa [show RN3.size = 32 by kernel_rfl] at hi) c w ⟨(same_eval hS (by kernel_rfl)).trans hb.t0, (same_eval hS (by kernel_rfl)).trans hb.t2, (same_eval hS (by kernel_rfl)).trans hb.t4⟩ (hW w hB) hF
  · intro c w hS hB hF
    exact hQ c w hS hB (fact_at (p := eqv (.bool true)) (by kernel_rfl) rfl (hF 31 (by rw [show RN3.size = 32 by kernel_rfl]; omega)))
end Go.Proofs.YtbjcdpenfijfoaaGreatDoor
