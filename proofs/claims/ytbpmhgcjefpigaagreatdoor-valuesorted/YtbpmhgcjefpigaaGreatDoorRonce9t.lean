/- A statement that reads, calls and lays rows of its own: operation by operation, in whatever order. -/
import Derived.Test.YtbpmhgcjefpigaaGreatDoorJoin24
import Derived.Test.YtbpmhgcjefpigaaGreatDoorJoin19
namespace Go.Proofs.YtbpmhgcjefpigaaGreatDoor
open Go.RowKit Go.WideShapes Go.Shelf
set_option linter.unusedVariables false
set_option linter.unusedSimpArgs false

noncomputable def RU9t : Array Oper := regionAt Tryz.f49 9
def ancU9t (i : Nat) : List Nat := ([[], [0], [1], [1], [1, 2, 3], [1, 4], [1], [1], [1, 6, 7], [1, 8], [1, 5, 9], [1, 10], [1, 11], [0, 1, 2, 3, 4, 5, 6, 7, 8, 9, 10, 11, 12]] : List (List Nat)).getD i []
def factsU9t (g n cap j bl off m lc ii : Nat) (cm : Int) (n0 n1 n2 n3 n4 n5 a0 a1 a2 a3 a4 a5 : Value) : List (Value → World → Prop) :=
  [eqv (.bool true), eqv (.bool true), eqv undef, eqv undef, eqv undef, eqv undef, eqv undef, eqv undef, eqv undef, eqv undef, eqv undef, eqv undef, eqv (.bool true), eqv (.bool true)]
structure BaseU9t (g n cap j bl off m lc ii : Nat) (cm : Int) (n0 n1 n2 n3 n4 n5 a0 a1 a2 a3 a4 a5 : Value) (c : Act) : Prop where
  t0 : c.eval (.tmp 0) = .slice (some ⟨bl, off, none⟩) m lc
  t3 : c.eval (.tmp 3) = .slice (some ⟨g, 0, none⟩) n cap
  t4 : c.eval (.tmp 4) = .int .i64 (ii : Int)
  t6 : c.eval (.tmp 6) = .int .i64 (j : Int)
  t5 : c.eval (.tmp 5) = .bool true
structure WorldU9t (g n cap j bl off m lc ii : Nat) (cm : Int) (n0 n1 n2 n3 n4 n5 a0 a1 a2 a3 a4 a5 : Value) (w : World) : Prop where
  ok : True

set_option maxRecDepth 10000 in
theorem oU9t_0 (g n cap j bl off m lc ii : Nat) (cm : Int) (n0 n1 n2 n3 n4 n5 a0 a1 a2 a3 a4 a5 : Value) (Q : Exit → Act → World → Prop) (c : Act) (w : World) (hb : BaseU9t g n cap j bl off m lc ii cm n0 n1 n2 n3 n4 n5 a0 a1 a2 a3 a4 a5 c) (hW : WorldU9t g n cap j bl off m lc ii cm n0 n1 n2 n3 n4 n5 a0 a1 a2 a3 a4 a5 w) (hF : ∀ q0 ∈ ancU9t 0, factsAt (factsU9t g n cap j bl off m lc ii cm n0 n1 n2 n3 n4 n5 a0 a1 a2 a3 a4 a5) q0 (val RU9t c q0) w) :
    Does Tryz.prog RU9t Q (factsAt (factsU9t g n cap j bl off m lc ii cm n0 n1 n2 n3 n4 n5 a0 a1 a2 a3 a4 a5)) 0 c w := by
  have ho : RU9t[0]? = some ({ dst := some 19, op := Op.move (Operand.tmp 5), type := 4, pos := "ref.go:380", after := #[], guard := none } : Oper) := by kernel_rfl
  have e5 := hb.t5
  have hw : Region.wanted ({ dst := some 19, op := Op.move (Operand.tmp 5), type := 4, pos := "ref.go:380", after := #[], guard := none } : Oper) (yielded RU9t c.tmps) = true := want_none rfl
  have ec : ∀ v, c.eval (.const v) = v := fun _ => rfl
  have ef : ∀ f, c.eval (.func f) = .func (.func f) #[] #[] := fun _ => rfl
  refine does_value ho hw (v := .bool true) ?_ rfl (Below.refl _ _)
  generalize c.eval = ρ at *
  clear hF hb hW hw ho
  go_simp

set_option maxRecDepth 10000 in
theorem oU9t_1 (g n cap j bl off m lc ii : Nat) (cm : Int) (n0 n1 n2 n3 n4 n5 a0 a1 a2 a3 a4 a5 : Value) (Q : Exit → Act → World → Prop) (c : Act) (w : World) (hb : BaseU9t g n cap j bl off m lc ii cm n0 n1 n2 n3 n4 n5 a0 a1 a2 a3 a4 a5 c) (hW : WorldU9t g n cap j bl off m lc ii cm n0 n1 n2 n3 n4 n5 a0 a1 a2 a3 a4 a5 w) (hF : ∀ q0 ∈ ancU9t 1, factsAt (factsU9t g n cap j bl off m lc ii cm n0 n1 n2 n3 n4 n5 a0 a1 a2 a3 a4 a5) q0 (val RU9t c q0) w) :
    Does Tryz.prog RU9t Q (factsAt (factsU9t g n cap j bl off m lc ii cm n0 n1 n2 n3 n4 n5 a0 a1 a2 a3 a4 a5)) 1 c w := by
  have ho : RU9t[1]? = some ({ dst := some 20, op := Op.move (Operand.tmp 19), type := 4, pos := "ref.go:380", after := #[{ on := 0, ground := Ground.data }], guard := none } : Oper) := by kernel_rfl
  have e19 : c.eval (.tmp 19) = .bool true := fact_at (p := eqv (.bool true)) (by kernel_rfl) rfl (hF 0 (by decide))
  have hw : Region.wanted ({ dst := some 20, op := Op.move (Operand.tmp 19), type := 4, pos := "ref.go:380", after := #[{ on := 0, ground := Ground.data }], guard := none } : Oper) (yielded RU9t c.tmps) = true := want_none rfl
  have ec : ∀ v, c.eval (.const v) = v := fun _ => rfl
  have ef : ∀ f, c.eval (.func f) = .func (.func f) #[] #[] := fun _ => rfl
  refine does_value ho hw (v := .bool true) ?_ rfl (Below.refl _ _)
  generalize c.eval = ρ at *
  clear hF hb hW hw ho
  go_simp

set_option maxRecDepth 10000 in
theorem oU9t_2 (g n cap j bl off m lc ii : Nat) (cm : Int) (n0 n1 n2 n3 n4 n5 a0 a1 a2 a3 a4 a5 : Value) (Q : Exit → Act → World → Prop) (c : Act) (w : World) (hb : BaseU9t g n cap j bl off m lc ii cm n0 n1 n2 n3 n4 n5 a0 a1 a2 a3 a4 a5 c) (hW : WorldU9t g n cap j bl off m lc ii cm n0 n1 n2 n3 n4 n5 a0 a1 a2 a3 a4 a5 w) (hF : ∀ q0 ∈ ancU9t 2, factsAt (factsU9t g n cap j bl off m lc ii cm n0 n1 n2 n3 n4 n5 a0 a1 a2 a3 a4 a5) q0 (val RU9t c q0) w) :
    Does Tryz.prog RU9t Q (factsAt (factsU9t g n cap j bl off m lc ii cm n0 n1 n2 n3 n4 n5 a0 a1 a2 a3 a4 a5)) 2 c w := by
  have ho : RU9t[2]? = some ({ dst := some 21, op := Op.move (Operand.tmp 3), type := 24, pos := "ref.go:380", after := #[{ on := 1, ground := Ground.guard }], guard := some (1, false) } : Oper) := by kernel_rfl
  have hg : val RU9t c 1 = .bool true := hF 1 (by decide)
  refine does_not ho ((want_val rfl hg).trans rfl) rfl

set_option maxRecDepth 10000 in
theorem oU9t_3 (g n cap j bl off m lc ii : Nat) (cm : Int) (n0 n1 n2 n3 n4 n5 a0 a1 a2 a3 a4 a5 : Value) (Q : Exit → Act → World → Prop) (c : Act) (w : World) (hb : BaseU9t g n cap j bl off m lc ii cm n0 n1 n2 n3 n4 n5 a0 a1 a2 a3 a4 a5 c) (hW : WorldU9t g n cap j bl off m lc ii cm n0 n1 n2 n3 n4 n5 a0 a1 a2 a3 a4 a5 w) (hF : ∀ q0 ∈ ancU9t 3, factsAt (factsU9t g n cap j bl off m lc ii cm n0 n1 n2 n3 n4 n5 a0 a1 a2 a3 a4 a5) q0 (val RU9t c q0) w) :
    Does Tryz.prog RU9t Q (factsAt (factsU9t g n cap j bl off m lc ii cm n0 n1 n2 n3 n4 n5 a0 a1 a2 a3 a4 a5)) 3 c w := by
  have ho : RU9t[3]? = some ({ dst := some 22, op := Op.move (Operand.tmp 6), type := 3, pos := "ref.go:380", after := #[{ on := 1, ground := Ground.guard }], guard := some (1, false) } : Oper) := by kernel_rfl
  have hg : val RU9t c 1 = .bool true := hF 1 (by decide)
  refine does_not ho ((want_val rfl hg).trans rfl) rfl

set_option maxRecDepth 10000 in
theorem oU9t_4 (g n cap j bl off m lc ii : Nat) (cm : Int) (n0 n1 n2 n3 n4 n5 a0 a1 a2 a3 a4 a5 : Value) (Q : Exit → Act → World → Prop) (c : Act) (w : World) (hb : BaseU9t g n cap j bl off m lc ii cm n0 n1 n2 n3 n4 n5 a0 a1 a2 a3 a4 a5 c) (hW : WorldU9t g n cap j bl off m lc ii cm n0 n1 n2 n3 n4 n5 a0 a1 a2 a3 a4 a5 w) (hF : ∀ q0 ∈ ancU9t 4, factsAt (factsU9t g n cap j bl off m lc ii cm n0 n1 n2 n3 n4 n5 a0 a1 a2 a3 a4 a5) q0 (val RU9t c q0) w) :
    Does Tryz.prog RU9t Q (factsAt (factsU9t g n cap j bl off m lc ii cm n0 n1 n2 n3 n4 n5 a0 a1 a2 a3 a4 a5)) 4 c w := by
  have ho : RU9t[4]? = some ({ dst := some 23, op := Op.indexAddr 24 (Operand.tmp 21) (Operand.tmp 22), type := 0, pos := "ref.go:380", after := #[{ on := 2, ground := Ground.data }, { on := 3, ground := Ground.data }, { on := 1, ground := Ground.guard }], guard := some (1, false) } : Oper) := by kernel_rfl
  have hg : val RU9t c 1 = .bool true := hF 1 (by decide)
  refine does_not ho ((want_val rfl hg).trans rfl) rfl

set_option maxRecDepth 10000 in
theorem oU9t_5 (g n cap j bl off m lc ii : Nat) (cm : Int) (n0 n1 n2 n3 n4 n5 a0 a1 a2 a3 a4 a5 : Value) (Q : Exit → Act → World → Prop) (c : Act) (w : World) (hb : BaseU9t g n cap j bl off m lc ii cm n0 n1 n2 n3 n4 n5 a0 a1 a2 a3 a4 a5 c) (hW : WorldU9t g n cap j bl off m lc ii cm n0 n1 n2 n3 n4 n5 a0 a1 a2 a3 a4 a5 w) (hF : ∀ q0 ∈ ancU9t 5, factsAt (factsU9t g n cap j bl off m lc ii cm n0 n1 n2 n3 n4 n5 a0 a1 a2 a3 a4 a5) q0 (val RU9t c q0) w) :
    Does Tryz.prog RU9t Q (factsAt (factsU9t g n cap j bl off m lc ii cm n0 n1 n2 n3 n4 n5 a0 a1 a2 a3 a4 a5)) 5 c w := by
  have ho : RU9t[5]? = some ({ dst := some 24, op := Op.load 26 (Operand.tmp 23), type := 26, pos := "ref.go:380", after := #[{ on := 4, ground := Ground.data }, { on := 1, ground := Ground.guard }], guard := some (1, false) } : Oper) := by kernel_rfl
  have hg : val RU9t c 1 = .bool true := hF 1 (by decide)
  refine does_not ho ((want_val rfl hg).trans rfl) rfl

set_option maxRecDepth 10000 in
theorem oU9t_6 (g n cap j bl off m lc ii : Nat) (cm : Int) (n0 n1 n2 n3 n4 n5 a0 a1 a2 a3 a4 a5 : Value) (Q : Exit → Act → World → Prop) (c : Act) (w : World) (hb : BaseU9t g n cap j bl off m lc ii cm n0 n1 n2 n3 n4 n5 a0 a1 a2 a3 a4 a5 c) (hW : WorldU9t g n cap j bl off m lc ii cm n0 n1 n2 n3 n4 n5 a0 a1 a2 a3 a4 a5 w) (hF : ∀ q0 ∈ ancU9t 6, factsAt (factsU9t g n cap j bl off m lc ii cm n0 n1 n2 n3 n4 n5 a0 a1 a2 a3 a4 a5) q0 (val RU9t c q0) w) :
    Does Tryz.prog RU9t Q (factsAt (factsU9t g n cap j bl off m lc ii cm n0 n1 n2 n3 n4 n5 a0 a1 a2 a3 a4 a5)) 6 c w := by
  have ho : RU9t[6]? = some ({ dst := some 25, op := Op.move (Operand.tmp 0), type := 24, pos := "ref.go:380", after := #[{ on := 1, ground := Ground.guard }], guard := some (1, false) } : Oper) := by kernel_rfl
  have hg : val RU9t c 1 = .bool true := hF 1 (by decide)
  refine does_not ho ((want_val rfl hg).trans rfl) rfl

set_option maxRecDepth 10000 in
theorem oU9t_7 (g n cap j bl off m lc ii : Nat) (cm : Int) (n0 n1 n2 n3 n4 n5 a0 a1 a2 a3 a4 a5 : Value) (Q : Exit → Act → World → Prop) (c : Act) (w : World) (hb : BaseU9t g n cap j bl off m lc ii cm n0 n1 n2 n3 n4 n5 a0 a1 a2 a3 a4 a5 c) (hW : WorldU9t g n cap j bl off m lc ii cm n0 n1 n2 n3 n4 n5 a0 a1 a2 a3 a4 a5 w) (hF : ∀ q0 ∈ ancU9t 7, factsAt (factsU9t g n cap j bl off m lc ii cm n0 n1 n2 n3 n4 n5 a0 a1 a2 a3 a4 a5) q0 (val RU9t c q0) w) :
    Does Tryz.prog RU9t Q (factsAt (factsU9t g n cap j bl off m lc ii cm n0 n1 n2 n3 n4 n5 a0 a1 a2 a3 a4 a5)) 7 c w := by
  have ho : RU9t[7]? = some ({ dst := some 26, op := Op.move (Operand.tmp 4), type := 3, pos := "ref.go:380", after := #[{ on := 1, ground := Ground.guard }], guard := some (1, false) } : Oper) := by kernel_rfl
  have hg : val RU9t c 1 = .bool true := hF 1 (by decide)
  refine does_not ho ((want_val rfl hg).trans rfl) rfl

set_option maxRecDepth 10000 in
theorem oU9t_8 (g n cap j bl off m lc ii : Nat) (cm : Int) (n0 n1 n2 n3 n4 n5 a0 a1 a2 a3 a4 a5 : Value) (Q : Exit → Act → World → Prop) (c : Act) (w : World) (hb : BaseU9t g n cap j bl off m lc ii cm n0 n1 n2 n3 n4 n5 a0 a1 a2 a3 a4 a5 c) (hW : WorldU9t g n cap j bl off m lc ii cm n0 n1 n2 n3 n4 n5 a0 a1 a2 a3 a4 a5 w) (hF : ∀ q0 ∈ ancU9t 8, factsAt (factsU9t g n cap j bl off m lc ii cm n0 n1 n2 n3 n4 n5 a0 a1 a2 a3 a4 a5) q0 (val RU9t c q0) w) :
    Does Tryz.prog RU9t Q (factsAt (factsU9t g n cap j bl off m lc ii cm n0 n1 n2 n3 n4 n5 a0 a1 a2 a3 a4 a5)) 8 c w := by
  have ho : RU9t[8]? = some ({ dst := some 27, op := Op.indexAddr 24 (Operand.tmp 25) (Operand.tmp 26), type := 0, pos := "ref.go:380", after := #[{ on := 6, ground := Ground.data }, { on := 7, ground := Ground.data }, { on := 1, ground := Ground.guard }], guard := some (1, false) } : Oper) := by kernel_rfl
  have hg : val RU9t c 1 = .bool true := hF 1 (by decide)
  refine does_not ho ((want_val rfl hg).trans rfl) rfl

set_option maxRecDepth 10000 in
theorem oU9t_9 (g n cap j bl off m lc ii : Nat) (cm : Int) (n0 n1 n2 n3 n4 n5 a0 a1 a2 a3 a4 a5 : Value) (Q : Exit → Act → World → Prop) (c : Act) (w : World) (hb : BaseU9t g n cap j bl off m lc ii cm n0 n1 n2 n3 n4 n5 a0 a1 a2 a3 a4 a5 c) (hW : WorldU9t g n cap j bl off m lc ii cm n0 n1 n2 n3 n4 n5 a0 a1 a2 a3 a4 a5 w) (hF : ∀ q0 ∈ ancU9t 9, factsAt (factsU9t g n cap j bl off m lc ii cm n0 n1 n2 n3 n4 n5 a0 a1 a2 a3 a4 a5) q0 (val RU9t c q0) w) :
    Does Tryz.prog RU9t Q (factsAt (factsU9t g n cap j bl off m lc ii cm n0 n1 n2 n3 n4 n5 a0 a1 a2 a3 a4 a5)) 9 c w := by
  have ho : RU9t[9]? = some ({ dst := some 28, op := Op.load 26 (Operand.tmp 27), type := 26, pos := "ref.go:380", after := #[{ on := 8, ground := Ground.data }, { on := 1, ground := Ground.guard }], guard := some (1, false) } : Oper) := by kernel_rfl
  have hg : val RU9t c 1 = .bool true := hF 1 (by decide)
  refine does_not ho ((want_val rfl hg).trans rfl) rfl

set_option maxRecDepth 10000 in
theorem oU9t_10 (g n cap j bl off m lc ii : Nat) (cm : Int) (n0 n1 n2 n3 n4 n5 a0 a1 a2 a3 a4 a5 : Value) (Q : Exit → Act → World → Prop) (c : Act) (w : World) (hb : BaseU9t g n cap j bl off m lc ii cm n0 n1 n2 n3 n4 n5 a0 a1 a2 a3 a4 a5 c) (hW : WorldU9t g n cap j bl off m lc ii cm n0 n1 n2 n3 n4 n5 a0 a1 a2 a3 a4 a5 w) (hF : ∀ q0 ∈ ancU9t 10, factsAt (factsU9t g n cap j bl off m lc ii cm n0 n1 n2 n3 n4 n5 a0 a1 a2 a3 a4 a5) q0 (val RU9t c q0) w) :
    Does Tryz.prog RU9t Q (factsAt (factsU9t g n cap j bl off m lc ii cm n0 n1 n2 n3 n4 n5 a0 a1 a2 a3 a4 a5)) 10 c w := by
  have ho : RU9t[10]? = some ({ dst := some 29, op := Op.call { callee := Callee.value (Operand.func 30), args := #[Operand.tmp 24, Operand.tmp 28], argTypes := #[26, 26] }, type := 3, pos := "ref.go:380", after := #[{ on := 5, ground := Ground.data }, { on := 9, ground := Ground.data }, { on := 1, ground := Ground.chain }, { on := 1, ground := Ground.guard }], guard := some (1, false) } : Oper) := by kernel_rfl
  have hg : val RU9t c 1 = .bool true := hF 1 (by decide)
  refine does_not ho ((want_val rfl hg).trans rfl) rfl

set_option maxRecDepth 10000 in
theorem oU9t_11 (g n cap j bl off m lc ii : Nat) (cm : Int) (n0 n1 n2 n3 n4 n5 a0 a1 a2 a3 a4 a5 : Value) (Q : Exit → Act → World → Prop) (c : Act) (w : World) (hb : BaseU9t g n cap j bl off m lc ii cm n0 n1 n2 n3 n4 n5 a0 a1 a2 a3 a4 a5 c) (hW : WorldU9t g n cap j bl off m lc ii cm n0 n1 n2 n3 n4 n5 a0 a1 a2 a3 a4 a5 w) (hF : ∀ q0 ∈ ancU9t 11, factsAt (factsU9t g n cap j bl off m lc ii cm n0 n1 n2 n3 n4 n5 a0 a1 a2 a3 a4 a5) q0 (val RU9t c q0) w) :
    Does Tryz.prog RU9t Q (factsAt (factsU9t g n cap j bl off m lc ii cm n0 n1 n2 n3 n4 n5 a0 a1 a2 a3 a4 a5)) 11 c w := by
  have ho : RU9t[11]? = some ({ dst := some 30, op := Op.binOp BinOp.eql 3 (Operand.tmp 29) (Operand.const (Value.int IntKind.i64 0)) 3, type := 4, pos := "ref.go:380", after := #[{ on := 10, ground := Ground.data }, { on := 1, ground := Ground.guard }], guard := some (1, false) } : Oper) := by kernel_rfl
  have hg : val RU9t c 1 = .bool true := hF 1 (by decide)
  refine does_not ho ((want_val rfl hg).trans rfl) rfl

set_option maxRecDepth 10000 in
theorem oU9t_12 (g n cap j bl off m lc ii : Nat) (cm : Int) (n0 n1 n2 n3 n4 n5 a0 a1 a2 a3 a4 a5 : Value) (Q : Exit → Act → World → Prop) (c : Act) (w : World) (hb : BaseU9t g n cap j bl off m lc ii cm n0 n1 n2 n3 n4 n5 a0 a1 a2 a3 a4 a5 c) (hW : WorldU9t g n cap j bl off m lc ii cm n0 n1 n2 n3 n4 n5 a0 a1 a2 a3 a4 a5 w) (hF : ∀ q0 ∈ ancU9t 12, factsAt (factsU9t g n cap j bl off m lc ii cm n0 n1 n2 n3 n4 n5 a0 a1 a2 a3 a4 a5) q0 (val RU9t c q0) w) :
    Does Tryz.prog RU9t Q (factsAt (factsU9t g n cap j bl off m lc ii cm n0 n1 n2 n3 n4 n5 a0 a1 a2 a3 a4 a5)) 12 c w := by
  have ho : RU9t[12]? = some ({ dst := some 31, op := Op.pick (Operand.tmp 20) (Operand.const (Value.bool true)) (Operand.tmp 30), type := 4, pos := "ref.go:380", after := #[{ on := 1, ground := Ground.data }, { on := 11, ground := Ground.data }], guard := none } : Oper) := by kernel_rfl
  have e20 : c.eval (.tmp 20) = .bool true := fact_at (p := eqv (.bool true)) (by kernel_rfl) rfl (hF 1 (by decide))
  have e30 : c.eval (.tmp 30) = undef := fact_at (p := eqv undef) (by kernel_rfl) rfl (hF 11 (by decide))
  have hw : Region.wanted ({ dst := some 31, op := Op.pick (Operand.tmp 20) (Operand.const (Value.bool true)) (Operand.tmp 30), type := 4, pos := "ref.go:380", after := #[{ on := 1, ground := Ground.data }, { on := 11, ground := Ground.data }], guard := none } : Oper) (yielded RU9t c.tmps) = true := want_none rfl
  have ec : ∀ v, c.eval (.const v) = v := fun _ => rfl
  have ef : ∀ f, c.eval (.func f) = .func (.func f) #[] #[] := fun _ => rfl
  refine does_value ho hw (v := .bool true) ?_ rfl (Below.refl _ _)
  generalize c.eval = ρ at *
  clear hF hb hW hw ho
  go_simp

set_option maxRecDepth 10000 in
theorem oU9t_13 (g n cap j bl off m lc ii : Nat) (cm : Int) (n0 n1 n2 n3 n4 n5 a0 a1 a2 a3 a4 a5 : Value) (Q : Exit → Act → World → Prop) (c : Act) (w : World) (hb : BaseU9t g n cap j bl off m lc ii cm n0 n1 n2 n3 n4 n5 a0 a1 a2 a3 a4 a5 c) (hW : WorldU9t g n cap j bl off m lc ii cm n0 n1 n2 n3 n4 n5 a0 a1 a2 a3 a4 a5 w) (hF : ∀ q0 ∈ ancU9t 13, factsAt (factsU9t g n cap j bl off m lc ii cm n0 n1 n2 n3 n4 n5 a0 a1 a2 a3 a4 a5) q0 (val RU9t c q0) w) :
    Does Tryz.prog RU9t Q (factsAt (factsU9t g n cap j bl off m lc ii cm n0 n1 n2 n3 n4 n5 a0 a1 a2 a3 a4 a5)) 13 c w := by
  have ho : RU9t[13]? = some ({ dst := some 5, op := Op.assign (Operand.tmp 31), type := 4, pos := "ref.go:380", after := #[{ on := 12, ground := Ground.data }, { on := 10, ground := Ground.chain }, { on := 0, ground := Ground.phase }, { on := 1, ground := Ground.phase }, { on := 2, ground := Ground.phase }, { on := 3, ground := Ground.phase }, { on := 4, ground := Ground.phase }, { on := 5, ground := Ground.phase }, { on := 6, ground := Ground.phase }, { on := 7, ground := Ground.phase }, { on := 8, ground := Ground.phase }, { on := 9, ground := Ground.phase }, { on := 10, ground := Ground.phase }, { on := 11, ground := Ground.phase }, { on := 12, ground := Ground.phase }], guard := none } : Oper) := by kernel_rfl
  have e31 : c.eval (.tmp 31) = .bool true := fact_at (p := eqv (.bool true)) (by kernel_rfl) rfl (hF 12 (by decide))
  have hw : Region.wanted ({ dst := some 5, op := Op.assign (Operand.tmp 31), type := 4, pos := "ref.go:380", after := #[{ on := 12, ground := Ground.data }, { on := 10, ground := Ground.chain }, { on := 0, ground := Ground.phase }, { on := 1, ground := Ground.phase }, { on := 2, ground := Ground.phase }, { on := 3, ground := Ground.phase }, { on := 4, ground := Ground.phase }, { on := 5, ground := Ground.phase }, { on := 6, ground := Ground.phase }, { on := 7, ground := Ground.phase }, { on := 8, ground := Ground.phase }, { on := 9, ground := Ground.phase }, { on := 10, ground := Ground.phase }, { on := 11, ground := Ground.phase }, { on := 12, ground := Ground.phase }], guard := none } : Oper) (yielded RU9t c.tmps) = true := want_none rfl
  have ec : ∀ v, c.eval (.const v) = v := fun _ => rfl
  have ef : ∀ f, c.eval (.func f) = .func (.func f) #[] #[] := fun _ => rfl
  refine does_value ho hw (v := .bool true) ?_ rfl (Below.refl _ _)
  generalize c.eval = ρ at *
  clear hF hb hW hw ho
  go_simp

theorem stableU9t (g n cap j bl off m lc ii : Nat) (cm : Int) (n0 n1 n2 n3 n4 n5 a0 a1 a2 a3 a4 a5 : Value) : ∀ pr ∈ factsU9t g n cap j bl off m lc ii cm n0 n1 n2 n3 n4 n5 a0 a1 a2 a3 a4 a5, Stable pr := by
  unfold factsU9t
  refine List.forall_mem_cons.2 ⟨eqv_stable _, ?_⟩
  refine List.forall_mem_cons.2 ⟨eqv_stable _, ?_⟩
  refine List.forall_mem_cons.2 ⟨eqv_stable _, ?_⟩
  refine List.forall_mem_cons.2 ⟨eqv_stable _, ?_⟩
  refine List.forall_mem_cons.2 ⟨eqv_stable _, ?_⟩
  refine List.forall_mem_cons.2 ⟨eqv_stable _, ?_⟩
  refine List.forall_mem_cons.2 ⟨eqv_stable _, ?_⟩
  refine List.forall_mem_cons.2 ⟨eqv_stable _, ?_⟩
  refine List.forall_mem_cons.2 ⟨eqv_stable _, ?_⟩
  refine List.forall_mem_cons.2 ⟨eqv_stable _, ?_⟩
  refine List.forall_mem_cons.2 ⟨eqv_stable _, ?_⟩
  refine List.forall_mem_cons.2 ⟨eqv_stable _, ?_⟩
  refine List.forall_mem_cons.2 ⟨eqv_stable _, ?_⟩
  refine List.forall_mem_cons.2 ⟨eqv_stable _, ?_⟩
  exact List.forall_mem_nil _

set_option maxRecDepth 100000 in
theorem allU9t (g n cap j bl off m lc ii : Nat) (cm : Int) (n0 n1 n2 n3 n4 n5 a0 a1 a2 a3 a4 a5 : Value) (Q : Exit → Act → World → Prop) : ∀ i, i < 14 → (fun i => ∀ c w, BaseU9t g n cap j bl off m lc ii cm n0 n1 n2 n3 n4 n5 a0 a1 a2 a3 a4 a5 c → WorldU9t g n cap j bl off m lc ii cm n0 n1 n2 n3 n4 n5 a0 a1 a2 a3 a4 a5 w → (∀ q0 ∈ ancU9t i, factsAt (factsU9t g n cap j bl off m lc ii cm n0 n1 n2 n3 n4 n5 a0 a1 a2 a3 a4 a5) q0 (val RU9t c q0) w) → Does Tryz.prog RU9t Q (factsAt (factsU9t g n cap j bl off m lc ii cm n0 n1 n2 n3 n4 n5 a0 a1 a2 a3 a4 a5)) i c w) i := by
  refine below_succ ?_ (fun c w => oU9t_13 g n cap j bl off m lc ii cm n0 n1 n2 n3 n4 n5 a0 a1 a2 a3 a4 a5 Q c w)
  refine below_succ ?_ (fun c w => oU9t_12 g n cap j bl off m lc ii cm n0 n1 n2 n3 n4 n5 a0 a1 a2 a3 a4 a5 Q c w)
  refine below_succ ?_ (fun c w => oU9t_11 g n cap j bl off m lc ii cm n0 n1 n2 n3 n4 n5 a0 a1 a2 a3 a4 a5 Q c w)
  refine below_succ ?_ (fun c w => oU9t_10 g n cap j bl off m lc ii cm n0 n1 n2 n3 n4 n5 a0 a1 a2 a3 a4 a5 Q c w)
  refine below_succ ?_ (fun c w => oU9t_9 g n cap j bl off m lc ii cm n0 n1 n2 n3 n4 n5 a0 a1 a2 a3 a4 a5 Q c w)
  refine below_succ ?_ (fun c w => oU9t_8 g n cap j bl off m lc ii cm n0 n1 n2 n3 n4 n5 a0 a1 a2 a3 a4 a5 Q c w)
  refine below_succ ?_ (fun c w => oU9t_7 g n cap j bl off m lc ii cm n0 n1 n2 n3 n4 n5 a0 a1 a2 a3 a4 a5 Q c w)
  refine below_succ ?_ (fun c w => oU9t_6 g n cap j bl off m lc ii cm n0 n1 n2 n3 n4 n5 a0 a1 a2 a3 a4 a5 Q c w)
  refine below_succ ?_ (fun c w => oU9t_5 g n cap j bl off m lc ii cm n0 n1 n2 n3 n4 n5 a0 a1 a2 a3 a4 a5 Q c w)
  refine below_succ ?_ (fun c w => oU9t_4 g n cap j bl off m lc ii cm n0 n1 n2 n3 n4 n5 a0 a1 a2 a3 a4 a5 Q c w)
  refine below_succ ?_ (fun c w => oU9t_3 g n cap j bl off m lc ii cm n0 n1 n2 n3 n4 n5 a0 a1 a2 a3 a4 a5 Q c w)
  refine below_succ ?_ (fun c w => oU9t_2 g n cap j bl off m lc ii cm n0 n1 n2 n3 n4 n5 a0 a1 a2 a3 a4 a5 Q c w)
  refine below_succ ?_ (fun c w => oU9t_1 g n cap j bl off m lc ii cm n0 n1 n2 n3 n4 n5 a0 a1 a2 a3 a4 a5 Q c w)
  refine below_succ ?_ (fun c w => oU9t_0 g n cap j bl off m lc ii cm n0 n1 n2 n3 n4 n5 a0 a1 a2 a3 a4 a5 Q c w)
  exact below_zero

theorem dstU9t : ∀ i, i < RU9t.size → ∃ d, slotOf RU9t i = some d := by
  intro i hi
  rw [show RU9t.size = 14 by kernel_rfl] at hi
  match i, hi with
  | 0, _ => exact ⟨19, by kernel_rfl⟩
  | 1, _ => exact ⟨20, by kernel_rfl⟩
  | 2, _ => exact ⟨21, by kernel_rfl⟩
  | 3, _ => exact ⟨22, by kernel_rfl⟩
  | 4, _ => exact ⟨23, by kernel_rfl⟩
  | 5, _ => exact ⟨24, by kernel_rfl⟩
  | 6, _ => exact ⟨25, by kernel_rfl⟩
  | 7, _ => exact ⟨26, by kernel_rfl⟩
  | 8, _ => exact ⟨27, by kernel_rfl⟩
  | 9, _ => exact ⟨28, by kernel_rfl⟩
  | 10, _ => exact ⟨29, by kernel_rfl⟩
  | 11, _ => exact ⟨30, by kernel_rfl⟩
  | 12, _ => exact ⟨31, by kernel_rfl⟩
  | 13, _ => exact ⟨5, by kernel_rfl⟩
theorem regionU9t (g n cap j bl off m lc ii : Nat) (cm : Int) (n0 n1 n2 n3 n4 n5 a0 a1 a2 a3 a4 a5 : Value) (Q : Exit → Act → World → Prop) (base : Act) (w0 : World) (hsz : base.tmps.size = 42) (hb : BaseU9t g n cap j bl off m lc ii cm n0 n1 n2 n3 n4 n5 a0 a1 a2 a3 a4 a5 base)
    (hW : ∀ w, Below w0.heap.size w0 w → WorldU9t g n cap j bl off m lc ii cm n0 n1 n2 n3 n4 n5 a0 a1 a2 a3 a4 a5 w) (hQ : ∀ c w, Same RU9t base c → Below w0.heap.size w0 w → c.eval (.tmp 5) = .bool true → Q .normal c w) : (Code.region 9 RU9t true).wp Tryz.prog Q base w0 := by
  refine facts_ruleK 13 (.bool true) ((val_eq (show slotOf RU9t 13 = some 5 by kernel_rfl)).trans hb.t5) (A := ancU9t) (F := factsAt (factsU9t g n cap j bl off m lc ii cm n0 n1 n2 n3 n4 n5 a0 a1 a2 a3 a4 a5)) (by kernel_rfl) (by rw [hsz]; kernel_rfl) (dstU9t) (fun i v w w' => factsAt_stable (stableU9t g n cap j bl off m lc ii cm n0 n1 n2 n3 n4 n5 a0 a1 a2 a3 a4 a5) i v w w') ?_ ?_
  · intro i hi c w hS hB hold hF
    have hlt : i < 14 := by rwa [show RU9t.size = 14 by kernel_rfl] at hi
    exact allU9t g n cap j bl off m lc ii cm n0 n1 n2 n3 n4 n5 a0 a1 a2 a3 a4 a5 Q i (by rwa [show RU9t.size = 14 by kernel_rfl] at hi) c w ⟨(same_eval hS (by kernel_rfl)).trans hb.t0, (same_eval hS (by kernel_rfl)).trans hb.t3, (same_eval hS (by kernel_rfl)).trans hb.t4, (same_eval hS (by kernel_rfl)).trans hb.t6, (val_eq (show slotOf RU9t 13 = some 5 by kernel_rfl)).symm.trans (hold ((show ∀ i, i < 14 → (i ∈ ancU9t 13 ∨ i = 13) by decide) i hlt))⟩ (hW w hB) hF
  · intro c w hS hB hF
    exact hQ c w hS hB (fact_at (p := eqv (.bool true)) (by kernel_rfl) rfl (hF 13 (by rw [show RU9t.size = 14 by kernel_rfl]; omega)))
end Go.Proofs.YtbpmhgcjefpigaaGreatDoor
