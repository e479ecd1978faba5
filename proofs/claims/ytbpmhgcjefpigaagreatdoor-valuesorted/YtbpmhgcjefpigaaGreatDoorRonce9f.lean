/- A statement that reads, calls and lays rows of its own: operation by operation, in whatever order. -/
import Derived.Test.YtbpmhgcjefpigaaGreatDoorJoin24
import Derived.Test.YtbpmhgcjefpigaaGreatDoorJoin19
namespace Go.Proofs.YtbpmhgcjefpigaaGreatDoor
open Go.RowKit Go.WideShapes Go.Shelf
set_option linter.unusedVariables false
set_option linter.unusedSimpArgs false

noncomputable def RU9f : Array Oper := regionAt Tryz.f49 9
def ancU9f (i : Nat) : List Nat := ([[], [0], [1], [1], [1, 2, 3], [1, 4], [1], [1], [1, 6, 7], [1, 8], [1, 5, 9], [1, 10], [1, 11], [0, 1, 2, 3, 4, 5, 6, 7, 8, 9, 10, 11, 12]] : List (List Nat)).getD i []
def factsU9f (g n cap j bl off m lc ii : Nat) (cm : Int) (n0 n1 n2 n3 n4 n5 a0 a1 a2 a3 a4 a5 : Value) : List (Value → World → Prop) :=
  [eqv (.bool false), eqv (.bool false), eqv (.slice (some ⟨g, 0, none⟩) n cap), eqv (.int .i64 (j : Int)), eqv (.pointer (some ⟨g, j * 6, none⟩)), eqv (.agg #[n0, n1, n2, n3, n4, n5]), eqv (.slice (some ⟨bl, off, none⟩) m lc), eqv (.int .i64 (ii : Int)), eqv (.pointer (some ⟨bl, off + ii * 6, none⟩)), eqv (.agg #[a0, a1, a2, a3, a4, a5]), eqv (.int .i64 cm), eqv (.bool (cm == 0)), eqv (.bool (cm == 0)), eqv (.bool (cm == 0))]
structure BaseU9f (g n cap j bl off m lc ii : Nat) (cm : Int) (n0 n1 n2 n3 n4 n5 a0 a1 a2 a3 a4 a5 : Value) (c : Act) : Prop where
  t0 : c.eval (.tmp 0) = .slice (some ⟨bl, off, none⟩) m lc
  t3 : c.eval (.tmp 3) = .slice (some ⟨g, 0, none⟩) n cap
  t4 : c.eval (.tmp 4) = .int .i64 (ii : Int)
  t6 : c.eval (.tmp 6) = .int .i64 (j : Int)
  t5 : c.eval (.tmp 5) = .bool false
structure WorldU9f (g n cap j bl off m lc ii : Nat) (cm : Int) (n0 n1 n2 n3 n4 n5 a0 a1 a2 a3 a4 a5 : Value) (w : World) : Prop where
  xn0 : w.cell? ⟨g, j * 6, none⟩ = some n0
  xn1 : w.cell? ⟨g, j * 6 + 1, none⟩ = some n1
  xn2 : w.cell? ⟨g, j * 6 + 2, none⟩ = some n2
  xn3 : w.cell? ⟨g, j * 6 + 3, none⟩ = some n3
  xn4 : w.cell? ⟨g, j * 6 + 4, none⟩ = some n4
  xn5 : w.cell? ⟨g, j * 6 + 5, none⟩ = some n5
  xa0 : w.cell? ⟨bl, off + ii * 6, none⟩ = some a0
  xa1 : w.cell? ⟨bl, off + ii * 6 + 1, none⟩ = some a1
  xa2 : w.cell? ⟨bl, off + ii * 6 + 2, none⟩ = some a2
  xa3 : w.cell? ⟨bl, off + ii * 6 + 3, none⟩ = some a3
  xa4 : w.cell? ⟨bl, off + ii * 6 + 4, none⟩ = some a4
  xa5 : w.cell? ⟨bl, off + ii * 6 + 5, none⟩ = some a5
  k1 : Calls Tryz.prog 30 #[.agg #[n0, n1, n2, n3, n4, n5], .agg #[a0, a1, a2, a3, a4, a5]] w fun e w' => e = .returned (.int .i64 cm) ∧ Below w.heap.size w w'
  hj : j < n
  hi : ii < m

set_option maxRecDepth 10000 in
theorem oU9f_0 (g n cap j bl off m lc ii : Nat) (cm : Int) (n0 n1 n2 n3 n4 n5 a0 a1 a2 a3 a4 a5 : Value) (Q : Exit → Act → World → Prop) (c : Act) (w : World) (hb : BaseU9f g n cap j bl off m lc ii cm n0 n1 n2 n3 n4 n5 a0 a1 a2 a3 a4 a5 c) (hW : WorldU9f g n cap j bl off m lc ii cm n0 n1 n2 n3 n4 n5 a0 a1 a2 a3 a4 a5 w) (hF : ∀ q0 ∈ ancU9f 0, factsAt (factsU9f g n cap j bl off m lc ii cm n0 n1 n2 n3 n4 n5 a0 a1 a2 a3 a4 a5) q0 (val RU9f c q0) w) :
    Does Tryz.prog RU9f Q (factsAt (factsU9f g n cap j bl off m lc ii cm n0 n1 n2 n3 n4 n5 a0 a1 a2 a3 a4 a5)) 0 c w := by
  have ho : RU9f[0]? = some ({ dst := some 19, op := Op.move (Operand.tmp 5), type := 4, pos := "ref.go:380", after := #[], guard := none } : Oper) := by kernel_rfl
  have e5 := hb.t5
  have hw : Region.wanted ({ dst := some 19, op := Op.move (Operand.tmp 5), type := 4, pos := "ref.go:380", after := #[], guard := none } : Oper) (yielded RU9f c.tmps) = true := want_none rfl
  have ec : ∀ v, c.eval (.const v) = v := fun _ => rfl
  have ef : ∀ f, c.eval (.func f) = .func (.func f) #[] #[] := fun _ => rfl
  refine does_value ho hw (v := .bool false) ?_ rfl (Below.refl _ _)
  generalize c.eval = ρ at *
  clear hF hb hW hw ho
  go_simp

set_option maxRecDepth 10000 in
theorem oU9f_1 (g n cap j bl off m lc ii : Nat) (cm : Int) (n0 n1 n2 n3 n4 n5 a0 a1 a2 a3 a4 a5 : Value) (Q : Exit → Act → World → Prop) (c : Act) (w : World) (hb : BaseU9f g n cap j bl off m lc ii cm n0 n1 n2 n3 n4 n5 a0 a1 a2 a3 a4 a5 c) (hW : WorldU9f g n cap j bl off m lc ii cm n0 n1 n2 n3 n4 n5 a0 a1 a2 a3 a4 a5 w) (hF : ∀ q0 ∈ ancU9f 1, factsAt (factsU9f g n cap j bl off m lc ii cm n0 n1 n2 n3 n4 n5 a0 a1 a2 a3 a4 a5) q0 (val RU9f c q0) w) :
    Does Tryz.prog RU9f Q (factsAt (factsU9f g n cap j bl off m lc ii cm n0 n1 n2 n3 n4 n5 a0 a1 a2 a3 a4 a5)) 1 c w := by
  have ho : RU9f[1]? = some ({ dst := some 20, op := Op.move (Operand.tmp 19), type := 4, pos := "ref.go:380", after := #[{ on := 0, ground := Ground.data }], guard := none } : Oper) := by kernel_rfl
  have e19 : c.eval (.tmp 19) = .bool false := fact_at (p := eqv (.bool false)) (by kernel_rfl) rfl (hF 0 (by decide))
  have hw : Region.wanted ({ dst := some 20, op := Op.move (Operand.tmp 19), type := 4, pos := "ref.go:380", after := #[{ on := 0, ground := Ground.data }], guard := none } : Oper) (yielded RU9f c.tmps) = true := want_none rfl
  have ec : ∀ v, c.eval (.const v) = v := fun _ => rfl
  have ef : ∀ f, c.eval (.func f) = .func (.func f) #[] #[] := fun _ => rfl
  refine does_value ho hw (v := .bool false) ?_ rfl (Below.refl _ _)
  generalize c.eval = ρ at *
  clear hF hb hW hw ho
  go_simp

set_option maxRecDepth 10000 in
theorem oU9f_2 (g n cap j bl off m lc ii : Nat) (cm : Int) (n0 n1 n2 n3 n4 n5 a0 a1 a2 a3 a4 a5 : Value) (Q : Exit → Act → World → Prop) (c : Act) (w : World) (hb : BaseU9f g n cap j bl off m lc ii cm n0 n1 n2 n3 n4 n5 a0 a1 a2 a3 a4 a5 c) (hW : WorldU9f g n cap j bl off m lc ii cm n0 n1 n2 n3 n4 n5 a0 a1 a2 a3 a4 a5 w) (hF : ∀ q0 ∈ ancU9f 2, factsAt (factsU9f g n cap j bl off m lc ii cm n0 n1 n2 n3 n4 n5 a0 a1 a2 a3 a4 a5) q0 (val RU9f c q0) w) :
    Does Tryz.prog RU9f Q (factsAt (factsU9f g n cap j bl off m lc ii cm n0 n1 n2 n3 n4 n5 a0 a1 a2 a3 a4 a5)) 2 c w := by
  have ho : RU9f[2]? = some ({ dst := some 21, op := Op.move (Operand.tmp 3), type := 24, pos := "ref.go:380", after := #[{ on := 1, ground := Ground.guard }], guard := some (1, false) } : Oper) := by kernel_rfl
  have e3 := hb.t3
  have hg : val RU9f c 1 = .bool false := hF 1 (by decide)
  have hw : Region.wanted ({ dst := some 21, op := Op.move (Operand.tmp 3), type := 24, pos := "ref.go:380", after := #[{ on := 1, ground := Ground.guard }], guard := some (1, false) } : Oper) (yielded RU9f c.tmps) = true := want_eq rfl hg
  have ec : ∀ v, c.eval (.const v) = v := fun _ => rfl
  have ef : ∀ f, c.eval (.func f) = .func (.func f) #[] #[] := fun _ => rfl
  refine does_value ho hw (v := .slice (some ⟨g, 0, none⟩) n cap) ?_ rfl (Below.refl _ _)
  generalize c.eval = ρ at *
  clear hF hb hW hw ho hg
  go_simp

set_option maxRecDepth 10000 in
theorem oU9f_3 (g n cap j bl off m lc ii : Nat) (cm : Int) (n0 n1 n2 n3 n4 n5 a0 a1 a2 a3 a4 a5 : Value) (Q : Exit → Act → World → Prop) (c : Act) (w : World) (hb : BaseU9f g n cap j bl off m lc ii cm n0 n1 n2 n3 n4 n5 a0 a1 a2 a3 a4 a5 c) (hW : WorldU9f g n cap j bl off m lc ii cm n0 n1 n2 n3 n4 n5 a0 a1 a2 a3 a4 a5 w) (hF : ∀ q0 ∈ ancU9f 3, factsAt (factsU9f g n cap j bl off m lc ii cm n0 n1 n2 n3 n4 n5 a0 a1 a2 a3 a4 a5) q0 (val RU9f c q0) w) :
    Does Tryz.prog RU9f Q (factsAt (factsU9f g n cap j bl off m lc ii cm n0 n1 n2 n3 n4 n5 a0 a1 a2 a3 a4 a5)) 3 c w := by
  have ho : RU9f[3]? = some ({ dst := some 22, op := Op.move (Operand.tmp 6), type := 3, pos := "ref.go:380", after := #[{ on := 1, ground := Ground.guard }], guard := some (1, false) } : Oper) := by kernel_rfl
  have e6 := hb.t6
  have hg : val RU9f c 1 = .bool false := hF 1 (by decide)
  have hw : Region.wanted ({ dst := some 22, op := Op.move (Operand.tmp 6), type := 3, pos := "ref.go:380", after := #[{ on := 1, ground := Ground.guard }], guard := some (1, false) } : Oper) (yielded RU9f c.tmps) = true := want_eq rfl hg
  have ec : ∀ v, c.eval (.const v) = v := fun _ => rfl
  have ef : ∀ f, c.eval (.func f) = .func (.func f) #[] #[] := fun _ => rfl
  refine does_value ho hw (v := .int .i64 (j : Int)) ?_ rfl (Below.refl _ _)
  generalize c.eval = ρ at *
  clear hF hb hW hw ho hg
  go_simp

set_option maxRecDepth 10000 in
theorem oU9f_4 (g n cap j bl off m lc ii : Nat) (cm : Int) (n0 n1 n2 n3 n4 n5 a0 a1 a2 a3 a4 a5 : Value) (Q : Exit → Act → World → Prop) (c : Act) (w : World) (hb : BaseU9f g n cap j bl off m lc ii cm n0 n1 n2 n3 n4 n5 a0 a1 a2 a3 a4 a5 c) (hW : WorldU9f g n cap j bl off m lc ii cm n0 n1 n2 n3 n4 n5 a0 a1 a2 a3 a4 a5 w) (hF : ∀ q0 ∈ ancU9f 4, factsAt (factsU9f g n cap j bl off m lc ii cm n0 n1 n2 n3 n4 n5 a0 a1 a2 a3 a4 a5) q0 (val RU9f c q0) w) :
    Does Tryz.prog RU9f Q (factsAt (factsU9f g n cap j bl off m lc ii cm n0 n1 n2 n3 n4 n5 a0 a1 a2 a3 a4 a5)) 4 c w := by
  have ho : RU9f[4]? = some ({ dst := some 23, op := Op.indexAddr 24 (Operand.tmp 21) (Operand.tmp 22), type := 0, pos := "ref.go:380", after := #[{ on := 2, ground := Ground.data }, { on := 3, ground := Ground.data }, { on := 1, ground := Ground.guard }], guard := some (1, false) } : Oper) := by kernel_rfl
  have e21 : c.eval (.tmp 21) = .slice (some ⟨g, 0, none⟩) n cap := fact_at (p := eqv (.slice (some ⟨g, 0, none⟩) n cap)) (by kernel_rfl) rfl (hF 2 (by decide))
  have e22 : c.eval (.tmp 22) = .int .i64 (j : Int) := fact_at (p := eqv (.int .i64 (j : Int))) (by kernel_rfl) rfl (hF 3 (by decide))
  have hg : val RU9f c 1 = .bool false := hF 1 (by decide)
  have hw : Region.wanted ({ dst := some 23, op := Op.indexAddr 24 (Operand.tmp 21) (Operand.tmp 22), type := 0, pos := "ref.go:380", after := #[{ on := 2, ground := Ground.data }, { on := 3, ground := Ground.data }, { on := 1, ground := Ground.guard }], guard := some (1, false) } : Oper) (yielded RU9f c.tmps) = true := want_eq rfl hg
  have ec : ∀ v, c.eval (.const v) = v := fun _ => rfl
  have ef : ∀ f, c.eval (.func f) = .func (.func f) #[] #[] := fun _ => rfl
  have hj := hW.hj
  refine does_value ho hw (v := .pointer (some ⟨g, j * 6, none⟩)) ?_ rfl (Below.refl _ _)
  generalize c.eval = ρ at *
  clear hF hb hW hw ho hg
  go_simp

set_option maxRecDepth 10000 in
theorem oU9f_5 (g n cap j bl off m lc ii : Nat) (cm : Int) (n0 n1 n2 n3 n4 n5 a0 a1 a2 a3 a4 a5 : Value) (Q : Exit → Act → World → Prop) (c : Act) (w : World) (hb : BaseU9f g n cap j bl off m lc ii cm n0 n1 n2 n3 n4 n5 a0 a1 a2 a3 a4 a5 c) (hW : WorldU9f g n cap j bl off m lc ii cm n0 n1 n2 n3 n4 n5 a0 a1 a2 a3 a4 a5 w) (hF : ∀ q0 ∈ ancU9f 5, factsAt (factsU9f g n cap j bl off m lc ii cm n0 n1 n2 n3 n4 n5 a0 a1 a2 a3 a4 a5) q0 (val RU9f c q0) w) :
    Does Tryz.prog RU9f Q (factsAt (factsU9f g n cap j bl off m lc ii cm n0 n1 n2 n3 n4 n5 a0 a1 a2 a3 a4 a5)) 5 c w := by
  have ho : RU9f[5]? = some ({ dst := some 24, op := Op.load 26 (Operand.tmp 23), type := 26, pos := "ref.go:380", after := #[{ on := 4, ground := Ground.data }, { on := 1, ground := Ground.guard }], guard := some (1, false) } : Oper) := by kernel_rfl
  have e23 : c.eval (.tmp 23) = .pointer (some ⟨g, j * 6, none⟩) := fact_at (p := eqv (.pointer (some ⟨g, j * 6, none⟩))) (by kernel_rfl) rfl (hF 4 (by decide))
  have hg : val RU9f c 1 = .bool false := hF 1 (by decide)
  have hw : Region.wanted ({ dst := some 24, op := Op.load 26 (Operand.tmp 23), type := 26, pos := "ref.go:380", after := #[{ on := 4, ground := Ground.data }, { on := 1, ground := Ground.guard }], guard := some (1, false) } : Oper) (yielded RU9f c.tmps) = true := want_eq rfl hg
  have ec : ∀ v, c.eval (.const v) = v := fun _ => rfl
  have ef : ∀ f, c.eval (.func f) = .func (.func f) #[] #[] := fun _ => rfl
  have xn0 := hW.xn0
  have xn1 := hW.xn1
  have xn2 := hW.xn2
  have xn3 := hW.xn3
  have xn4 := hW.xn4
  have xn5 := hW.xn5
  refine does_value ho hw (v := .agg #[n0, n1, n2, n3, n4, n5]) ?_ rfl (Below.refl _ _)
  generalize c.eval = ρ at *
  clear hF hb hW hw ho hg
  go_simp

set_option maxRecDepth 10000 in
theorem oU9f_6 (g n cap j bl off m lc ii : Nat) (cm : Int) (n0 n1 n2 n3 n4 n5 a0 a1 a2 a3 a4 a5 : Value) (Q : Exit → Act → World → Prop) (c : Act) (w : World) (hb : BaseU9f g n cap j bl off m lc ii cm n0 n1 n2 n3 n4 n5 a0 a1 a2 a3 a4 a5 c) (hW : WorldU9f g n cap j bl off m lc ii cm n0 n1 n2 n3 n4 n5 a0 a1 a2 a3 a4 a5 w) (hF : ∀ q0 ∈ ancU9f 6, factsAt (factsU9f g n cap j bl off m lc ii cm n0 n1 n2 n3 n4 n5 a0 a1 a2 a3 a4 a5) q0 (val RU9f c q0) w) :
    Does Tryz.prog RU9f Q (factsAt (factsU9f g n cap j bl off m lc ii cm n0 n1 n2 n3 n4 n5 a0 a1 a2 a3 a4 a5)) 6 c w := by
  have ho : RU9f[6]? = some ({ dst := some 25, op := Op.move (Operand.tmp 0), type := 24, pos := "ref.go:380", after := #[{ on := 1, ground := Ground.guard }], guard := some (1, false) } : Oper) := by kernel_rfl
  have e0 := hb.t0
  have hg : val RU9f c 1 = .bool false := hF 1 (by decide)
  have hw : Region.wanted ({ dst := some 25, op := Op.move (Operand.tmp 0), type := 24, pos := "ref.go:380", after := #[{ on := 1, ground := Ground.guard }], guard := some (1, false) } : Oper) (yielded RU9f c.tmps) = true := want_eq rfl hg
  have ec : ∀ v, c.eval (.const v) = v := fun _ => rfl
  have ef : ∀ f, c.eval (.func f) = .func (.func f) #[] #[] := fun _ => rfl
  refine does_value ho hw (v := .slice (some ⟨bl, off, none⟩) m lc) ?_ rfl (Below.refl _ _)
  generalize c.eval = ρ at *
  clear hF hb hW hw ho hg
  go_simp

set_option maxRecDepth 10000 in
theorem oU9f_7 (g n cap j bl off m lc ii : Nat) (cm : Int) (n0 n1 n2 n3 n4 n5 a0 a1 a2 a3 a4 a5 : Value) (Q : Exit → Act → World → Prop) (c : Act) (w : World) (hb : BaseU9f g n cap j bl off m lc ii cm n0 n1 n2 n3 n4 n5 a0 a1 a2 a3 a4 a5 c) (hW : WorldU9f g n cap j bl off m lc ii cm n0 n1 n2 n3 n4 n5 a0 a1 a2 a3 a4 a5 w) (hF : ∀ q0 ∈ ancU9f 7, factsAt (factsU9f g n cap j bl off m lc ii cm n0 n1 n2 n3 n4 n5 a0 a1 a2 a3 a4 a5) q0 (val RU9f c q0) w) :
    Does Tryz.prog RU9f Q (factsAt (factsU9f g n cap j bl off m lc ii cm n0 n1 n2 n3 n4 n5 a0 a1 a2 a3 a4 a5)) 7 c w := by
  have ho : RU9f[7]? = some ({ dst := some 26, op := Op.move (Operand.tmp 4), type := 3, pos := "ref.go:380", after := #[{ on := 1, ground := Ground.guard }], guard := some (1, false) } : Oper) := by kernel_rfl
  have e4 := hb.t4
  have hg : val RU9f c 1 = .bool false := hF 1 (by decide)
  have hw : Region.wanted ({ dst := some 26, op := Op.move (Operand.tmp 4), type := 3, pos := "ref.go:380", after := #[{ on := 1, ground := Ground.guard }], guard := some (1, false) } : Oper) (yielded RU9f c.tmps) = true := want_eq rfl hg
  have ec : ∀ v, c.eval (.const v) = v := fun _ => rfl
  have ef : ∀ f, c.eval (.func f) = .func (.func f) #[] #[] := fun _ => rfl
  refine does_value ho hw (v := .int .i64 (ii : Int)) ?_ rfl (Below.refl _ _)
  generalize c.eval = ρ at *
  clear hF hb hW hw ho hg
  go_simp

set_option maxRecDepth 10000 in
theorem oU9f_8 (g n cap j bl off m lc ii : Nat) (cm : Int) (n0 n1 n2 n3 n4 n5 a0 a1 a2 a3 a4 a5 : Value) (Q : Exit → Act → World → Prop) (c : Act) (w : World) (hb : BaseU9f g n cap j bl off m lc ii cm n0 n1 n2 n3 n4 n5 a0 a1 a2 a3 a4 a5 c) (hW : WorldU9f g n cap j bl off m lc ii cm n0 n1 n2 n3 n4 n5 a0 a1 a2 a3 a4 a5 w) (hF : ∀ q0 ∈ ancU9f 8, factsAt (factsU9f g n cap j bl off m lc ii cm n0 n1 n2 n3 n4 n5 a0 a1 a2 a3 a4 a5) q0 (val RU9f c q0) w) :
    Does Tryz.prog RU9f Q (factsAt (factsU9f g n cap j bl off m lc ii cm n0 n1 n2 n3 n4 n5 a0 a1 a2 a3 a4 a5)) 8 c w := by
  have ho : RU9f[8]? = some ({ dst := some 27, op := Op.indexAddr 24 (Operand.tmp 25) (Operand.tmp 26), type := 0, pos := "ref.go:380", after := #[{ on := 6, ground := Ground.data }, { on := 7, ground := Ground.data }, { on := 1, ground := Ground.guard }], guard := some (1, false) } : Oper) := by kernel_rfl
  have e25 : c.eval (.tmp 25) = .slice (some ⟨bl, off, none⟩) m lc := fact_at (p := eqv (.slice (some ⟨bl, off, none⟩) m lc)) (by kernel_rfl) rfl (hF 6 (by decide))
  have e26 : c.eval (.tmp 26) = .int .i64 (ii : Int) := fact_at (p := eqv (.int .i64 (ii : Int))) (by kernel_rfl) rfl (hF 7 (by decide))
  have hg : val RU9f c 1 = .bool false := hF 1 (by decide)
  have hw : Region.wanted ({ dst := some 27, op := Op.indexAddr 24 (Operand.tmp 25) (Operand.tmp 26), type := 0, pos := "ref.go:380", after := #[{ on := 6, ground := Ground.data }, { on := 7, ground := Ground.data }, { on := 1, ground := Ground.guard }], guard := some (1, false) } : Oper) (yielded RU9f c.tmps) = true := want_eq rfl hg
  have ec : ∀ v, c.eval (.const v) = v := fun _ => rfl
  have ef : ∀ f, c.eval (.func f) = .func (.func f) #[] #[] := fun _ => rfl
  have hi := hW.hi
  refine does_value ho hw (v := .pointer (some ⟨bl, off + ii * 6, none⟩)) ?_ rfl (Below.refl _ _)
  generalize c.eval = ρ at *
  clear hF hb hW hw ho hg
  go_simp

set_option maxRecDepth 10000 in
theorem oU9f_9 (g n cap j bl off m lc ii : Nat) (cm : Int) (n0 n1 n2 n3 n4 n5 a0 a1 a2 a3 a4 a5 : Value) (Q : Exit → Act → World → Prop) (c : Act) (w : World) (hb : BaseU9f g n cap j bl off m lc ii cm n0 n1 n2 n3 n4 n5 a0 a1 a2 a3 a4 a5 c) (hW : WorldU9f g n cap j bl off m lc ii cm n0 n1 n2 n3 n4 n5 a0 a1 a2 a3 a4 a5 w) (hF : ∀ q0 ∈ ancU9f 9, factsAt (factsU9f g n cap j bl off m lc ii cm n0 n1 n2 n3 n4 n5 a0 a1 a2 a3 a4 a5) q0 (val RU9f c q0) w) :
    Does Tryz.prog RU9f Q (factsAt (factsU9f g n cap j bl off m lc ii cm n0 n1 n2 n3 n4 n5 a0 a1 a2 a3 a4 a5)) 9 c w := by
  have ho : RU9f[9]? = some ({ dst := some 28, op := Op.load 26 (Operand.tmp 27), type := 26, pos := "ref.go:380", after := #[{ on := 8, ground := Ground.data }, { on := 1, ground := Ground.guard }], guard := some (1, false) } : Oper) := by kernel_rfl
  have e27 : c.eval (.tmp 27) = .pointer (some ⟨bl, off + ii * 6, none⟩) := fact_at (p := eqv (.pointer (some ⟨bl, off + ii * 6, none⟩))) (by kernel_rfl) rfl (hF 8 (by decide))
  have hg : val RU9f c 1 = .bool false := hF 1 (by decide)
  have hw : Region.wanted ({ dst := some 28, op := Op.load 26 (Operand.tmp 27), type := 26, pos := "ref.go:380", after := #[{ on := 8, ground := Ground.data }, { on := 1, ground := Ground.guard }], guard := some (1, false) } : Oper) (yielded RU9f c.tmps) = true := want_eq rfl hg
  have ec : ∀ v, c.eval (.const v) = v := fun _ => rfl
  have ef : ∀ f, c.eval (.func f) = .func (.func f) #[] #[] := fun _ => rfl
  have xa0 := hW.xa0
  have xa1 := hW.xa1
  have xa2 := hW.xa2
  have xa3 := hW.xa3
  have xa4 := hW.xa4
  have xa5 := hW.xa5
  refine does_value ho hw (v := .agg #[a0, a1, a2, a3, a4, a5]) ?_ rfl (Below.refl _ _)
  generalize c.eval = ρ at *
  clear hF hb hW hw ho hg
  go_simp

set_option maxRecDepth 10000 in
theorem oU9f_10 (g n cap j bl off m lc ii : Nat) (cm : Int) (n0 n1 n2 n3 n4 n5 a0 a1 a2 a3 a4 a5 : Value) (Q : Exit → Act → World → Prop) (c : Act) (w : World) (hb : BaseU9f g n cap j bl off m lc ii cm n0 n1 n2 n3 n4 n5 a0 a1 a2 a3 a4 a5 c) (hW : WorldU9f g n cap j bl off m lc ii cm n0 n1 n2 n3 n4 n5 a0 a1 a2 a3 a4 a5 w) (hF : ∀ q0 ∈ ancU9f 10, factsAt (factsU9f g n cap j bl off m lc ii cm n0 n1 n2 n3 n4 n5 a0 a1 a2 a3 a4 a5) q0 (val RU9f c q0) w) :
    Does Tryz.prog RU9f Q (factsAt (factsU9f g n cap j bl off m lc ii cm n0 n1 n2 n3 n4 n5 a0 a1 a2 a3 a4 a5)) 10 c w := by
  have ho : RU9f[10]? = some ({ dst := some 29, op := Op.call { callee := Callee.value (Operand.func 30), args := #[Operand.tmp 24, Operand.tmp 28], argTypes := #[26, 26] }, type := 3, pos := "ref.go:380", after := #[{ on := 5, ground := Ground.data }, { on := 9, ground := Ground.data }, { on := 1, ground := Ground.chain }, { on := 1, ground := Ground.guard }], guard := some (1, false) } : Oper) := by kernel_rfl
  have e24 : c.eval (.tmp 24) = .agg #[n0, n1, n2, n3, n4, n5] := fact_at (p := eqv (.agg #[n0, n1, n2, n3, n4, n5])) (by kernel_rfl) rfl (hF 5 (by decide))
  have e28 : c.eval (.tmp 28) = .agg #[a0, a1, a2, a3, a4, a5] := fact_at (p := eqv (.agg #[a0, a1, a2, a3, a4, a5])) (by kernel_rfl) rfl (hF 9 (by decide))
  have hg : val RU9f c 1 = .bool false := hF 1 (by decide)
  have hw : Region.wanted ({ dst := some 29, op := Op.call { callee := Callee.value (Operand.func 30), args := #[Operand.tmp 24, Operand.tmp 28], argTypes := #[26, 26] }, type := 3, pos := "ref.go:380", after := #[{ on := 5, ground := Ground.data }, { on := 9, ground := Ground.data }, { on := 1, ground := Ground.chain }, { on := 1, ground := Ground.guard }], guard := some (1, false) } : Oper) (yielded RU9f c.tmps) = true := want_eq rfl hg
  have ec : ∀ v, c.eval (.const v) = v := fun _ => rfl
  have ef : ∀ f, c.eval (.func f) = .func (.func f) #[] #[] := fun _ => rfl
  refine does_call ho hw (f := 30) (args := #[.agg #[n0, n1, n2, n3, n4, n5], .agg #[a0, a1, a2, a3, a4, a5]]) ?_ (Calls.mono (hW.k1) fun e w' ⟨h1, h2⟩ => ⟨_, h1, rfl, h2⟩)
  generalize c.eval = ρ at *
  clear hF hb hW hw ho hg
  go_simp

set_option maxRecDepth 10000 in
theorem oU9f_11 (g n cap j bl off m lc ii : Nat) (cm : Int) (n0 n1 n2 n3 n4 n5 a0 a1 a2 a3 a4 a5 : Value) (Q : Exit → Act → World → Prop) (c : Act) (w : World) (hb : BaseU9f g n cap j bl off m lc ii cm n0 n1 n2 n3 n4 n5 a0 a1 a2 a3 a4 a5 c) (hW : WorldU9f g n cap j bl off m lc ii cm n0 n1 n2 n3 n4 n5 a0 a1 a2 a3 a4 a5 w) (hF : ∀ q0 ∈ ancU9f 11, factsAt (factsU9f g n cap j bl off m lc ii cm n0 n1 n2 n3 n4 n5 a0 a1 a2 a3 a4 a5) q0 (val RU9f c q0) w) :
    Does Tryz.prog RU9f Q (factsAt (factsU9f g n cap j bl off m lc ii cm n0 n1 n2 n3 n4 n5 a0 a1 a2 a3 a4 a5)) 11 c w := by
  have ho : RU9f[11]? = some ({ dst := some 30, op := Op.binOp BinOp.eql 3 (Operand.tmp 29) (Operand.const (Value.int IntKind.i64 0)) 3, type := 4, pos := "ref.go:380", after := #[{ on := 10, ground := Ground.data }, { on := 1, ground := Ground.guard }], guard := some (1, false) } : Oper) := by kernel_rfl
  have e29 : c.eval (.tmp 29) = .int .i64 cm := fact_at (p := eqv (.int .i64 cm)) (by kernel_rfl) rfl (hF 10 (by decide))
  have hg : val RU9f c 1 = .bool false := hF 1 (by decide)
  have hw : Region.wanted ({ dst := some 30, op := Op.binOp BinOp.eql 3 (Operand.tmp 29) (Operand.const (Value.int IntKind.i64 0)) 3, type := 4, pos := "ref.go:380", after := #[{ on := 10, ground := Ground.data }, { on := 1, ground := Ground.guard }], guard := some (1, false) } : Oper) (yielded RU9f c.tmps) = true := want_eq rfl hg
  have ec : ∀ v, c.eval (.const v) = v := fun _ => rfl
  have ef : ∀ f, c.eval (.func f) = .func (.func f) #[] #[] := fun _ => rfl
  refine does_value ho hw (v := .bool (cm == 0)) ?_ rfl (Below.refl _ _)
  generalize c.eval = ρ at *
  clear hF hb hW hw ho hg
  go_simp

set_option maxRecDepth 10000 in
theorem oU9f_12 (g n cap j bl off m lc ii : Nat) (cm : Int) (n0 n1 n2 n3 n4 n5 a0 a1 a2 a3 a4 a5 : Value) (Q : Exit → Act → World → Prop) (c : Act) (w : World) (hb : BaseU9f g n cap j bl off m lc ii cm n0 n1 n2 n3 n4 n5 a0 a1 a2 a3 a4 a5 c) (hW : WorldU9f g n cap j bl off m lc ii cm n0 n1 n2 n3 n4 n5 a0 a1 a2 a3 a4 a5 w) (hF : ∀ q0 ∈ ancU9f 12, factsAt (factsU9f g n cap j bl off m lc ii cm n0 n1 n2 n3 n4 n5 a0 a1 a2 a3 a4 a5) q0 (val RU9f c q0) w) :
    Does Tryz.prog RU9f Q (factsAt (factsU9f g n cap j bl off m lc ii cm n0 n1 n2 n3 n4 n5 a0 a1 a2 a3 a4 a5)) 12 c w := by
  have ho : RU9f[12]? = some ({ dst := some 31, op := Op.pick (Operand.tmp 20) (Operand.const (Value.bool true)) (Operand.tmp 30), type := 4, pos := "ref.go:380", after := #[{ on := 1, ground := Ground.data }, { on := 11, ground := Ground.data }], guard := none } : Oper) := by kernel_rfl
  have e20 : c.eval (.tmp 20) = .bool false := fact_at (p := eqv (.bool false)) (by kernel_rfl) rfl (hF 1 (by decide))
  have e30 : c.eval (.tmp 30) = .bool (cm == 0) := fact_at (p := eqv (.bool (cm == 0))) (by kernel_rfl) rfl (hF 11 (by decide))
  have hw : Region.wanted ({ dst := some 31, op := Op.pick (Operand.tmp 20) (Operand.const (Value.bool true)) (Operand.tmp 30), type := 4, pos := "ref.go:380", after := #[{ on := 1, ground := Ground.data }, { on := 11, ground := Ground.data }], guard := none } : Oper) (yielded RU9f c.tmps) = true := want_none rfl
  have ec : ∀ v, c.eval (.const v) = v := fun _ => rfl
  have ef : ∀ f, c.eval (.func f) = .func (.func f) #[] #[] := fun _ => rfl
  refine does_value ho hw (v := .bool (cm == 0)) ?_ rfl (Below.refl _ _)
  generalize c.eval = ρ at *
  clear hF hb hW hw ho
  go_simp

set_option maxRecDepth 10000 in
theorem oU9f_13 (g n cap j bl off m lc ii : Nat) (cm : Int) (n0 n1 n2 n3 n4 n5 a0 a1 a2 a3 a4 a5 : Value) (Q : Exit → Act → World → Prop) (c : Act) (w : World) (hb : BaseU9f g n cap j bl off m lc ii cm n0 n1 n2 n3 n4 n5 a0 a1 a2 a3 a4 a5 c) (hW : WorldU9f g n cap j bl off m lc ii cm n0 n1 n2 n3 n4 n5 a0 a1 a2 a3 a4 a5 w) (hF : ∀ q0 ∈ ancU9f 13, factsAt (factsU9f g n cap j bl off m lc ii cm n0 n1 n2 n3 n4 n5 a0 a1 a2 a3 a4 a5) q0 (val RU9f c q0) w) :
    Does Tryz.prog RU9f Q (factsAt (factsU9f g n cap j bl off m lc ii cm n0 n1 n2 n3 n4 n5 a0 a1 a2 a3 a4 a5)) 13 c w := by
  have ho : RU9f[13]? = some ({ dst := some 5, op := Op.assign (Operand.tmp 31), type := 4, pos := "ref.go:380", after := #[{ on := 12, ground := Ground.data }, { on := 10, ground := Ground.chain }, { on := 0, ground := Ground.phase }, { on := 1, ground := Ground.phase }, { on := 2, ground := Ground.phase }, { on := 3, ground := Ground.phase }, { on := 4, ground := Ground.phase }, { on := 5, ground := Ground.phase }, { on := 6, ground := Ground.phase }, { on := 7, ground := Ground.phase }, { on := 8, ground := Ground.phase }, { on := 9, ground := Ground.phase }, { on := 10, ground := Ground.phase }, { on := 11, ground := Ground.phase }, { on := 12, ground := Ground.phase }], guard := none } : Oper) := by kernel_rfl
  have e31 : c.eval (.tmp 31) = .bool (cm == 0) := fact_at (p := eqv (.bool (cm == 0))) (by kernel_rfl) rfl (hF 12 (by decide))
  have hw : Region.wanted ({ dst := some 5, op := Op.assign (Operand.tmp 31), type := 4, pos := "ref.go:380", after := #[{ on := 12, ground := Ground.data }, { on := 10, ground := Ground.chain }, { on := 0, ground := Ground.phase }, { on := 1, ground := Ground.phase }, { on := 2, ground := Ground.phase }, { on := 3, ground := Ground.phase }, { on := 4, ground := Ground.phase }, { on := 5, ground := Ground.phase }, { on := 6, ground := Ground.phase }, { on := 7, ground := Ground.phase }, { on := 8, ground := Ground.phase }, { on := 9, ground := Ground.phase }, { on := 10, ground := Ground.phase }, { on := 11, ground := Ground.phase }, { on := 12, ground := Ground.phase }], guard := none } : Oper) (yielded RU9f c.tmps) = true := want_none rfl
  have ec : ∀ v, c.eval (.const v) = v := fun _ => rfl
  have ef : ∀ f, c.eval (.func f) = .func (.func f) #[] #[] := fun _ => rfl
  refine does_value ho hw (v := .bool (cm == 0)) ?_ rfl (Below.refl _ _)
  generalize c.eval = ρ at *
  clear hF hb hW hw ho
  go_simp

theorem stableU9f (g n cap j bl off m lc ii : Nat) (cm : Int) (n0 n1 n2 n3 n4 n5 a0 a1 a2 a3 a4 a5 : Value) : ∀ pr ∈ factsU9f g n cap j bl off m lc ii cm n0 n1 n2 n3 n4 n5 a0 a1 a2 a3 a4 a5, Stable pr := by
  unfold factsU9f
  refine List.forall_mem_cons.2 ⟨eqv_stable _, ?_⟩
  refine List.forall_mem_cons.2 ⟨eqv_stable _, ?_⟩
  refine List.forall_mem_cons.2 ⟨eqv_stable _, ?_⟩
  refine List.forall_mem_cons.2 ⟨eqv_stable _, ?_⟩
  refine List.forall_mem_cons.2 ⟨eqv_stable _, ?_⟩
  refine List.forall_mem_cons.2 ⟨eqv_stable _, ?_⟩
  refine List.forall_mem_cons.2 ⟨eqv_stable _, ?_⟩
  refine List.forall_mem_cons.2 ⟨eqv_stable _, ?_⟩
  refine List.forall_mem_cons.2 ⟨eqv_stable _, ?_⟩
  refine List.forall_mem_cons.2 ⟨eqv_stable _, ?_⟩
  refine List.forall_mem_cons.2 ⟨eqv_stable _, ?_⟩
  refine List.forall_mem_cons.2 ⟨eqv_stable _, ?_⟩
  refine List.forall_mem_cons.2 ⟨eqv_stable _, ?_⟩
  refine List.forall_mem_cons.2 ⟨eqv_stable _, ?_⟩
  exact List.forall_mem_nil _

set_option maxRecDepth 100000 in
theorem allU9f (g n cap j bl off m lc ii : Nat) (cm : Int) (n0 n1 n2 n3 n4 n5 a0 a1 a2 a3 a4 a5 : Value) (Q : Exit → Act → World → Prop) : ∀ i, i < 14 → (fun i => ∀ c w, BaseU9f g n cap j bl off m lc ii cm n0 n1 n2 n3 n4 n5 a0 a1 a2 a3 a4 a5 c → WorldU9f g n cap j bl off m lc ii cm n0 n1 n2 n3 n4 n5 a0 a1 a2 a3 a4 a5 w → (∀ q0 ∈ ancU9f i, factsAt (factsU9f g n cap j bl off m lc ii cm n0 n1 n2 n3 n4 n5 a0 a1 a2 a3 a4 a5) q0 (val RU9f c q0) w) → Does Tryz.prog RU9f Q (factsAt (factsU9f g n cap j bl off m lc ii cm n0 n1 n2 n3 n4 n5 a0 a1 a2 a3 a4 a5)) i c w) i := by
  refine below_succ ?_ (fun c w => oU9f_13 g n cap j bl off m lc ii cm n0 n1 n2 n3 n4 n5 a0 a1 a2 a3 a4 a5 Q c w)
  refine below_succ ?_ (fun c w => oU9f_12 g n cap j bl off m lc ii cm n0 n1 n2 n3 n4 n5 a0 a1 a2 a3 a4 a5 Q c w)
  refine below_succ ?_ (fun c w => oU9f_11 g n cap j bl off m lc ii cm n0 n1 n2 n3 n4 n5 a0 a1 a2 a3 a4 a5 Q c w)
  refine below_succ ?_ (fun c w => oU9f_10 g n cap j bl off m lc ii cm n0 n1 n2 n3 n4 n5 a0 a1 a2 a3 a4 a5 Q c w)
  refine below_succ ?_ (fun c w => oU9f_9 g n cap j bl off m lc ii cm n0 n1 n2 n3 n4 n5 a0 a1 a2 a3 a4 a5 Q c w)
  refine below_succ ?_ (fun c w => oU9f_8 g n cap j bl off m lc ii cm n0 n1 n2 n3 n4 n5 a0 a1 a2 a3 a4 a5 Q c w)
  refine below_succ ?_ (fun c w => oU9f_7 g n cap j bl off m lc ii cm n0 n1 n2 n3 n4 n5 a0 a1 a2 a3 a4 a5 Q c w)
  refine below_succ ?_ (fun c w => oU9f_6 g n cap j bl off m lc ii cm n0 n1 n2 n3 n4 n5 a0 a1 a2 a3 a4 a5 Q c w)
  refine below_succ ?_ (fun c w => oU9f_5 g n cap j bl off m lc ii cm n0 n1 n2 n3 n4 n5 a0 a1 a2 a3 a4 a5 Q c w)
  refine below_succ ?_ (fun c w => oU9f_4 g n cap j bl off m lc ii cm n0 n1 n2 n3 n4 n5 a0 a1 a2 a3 a4 a5 Q c w)
  refine below_succ ?_ (fun c w => oU9f_3 g n cap j bl off m lc ii cm n0 n1 n2 n3 n4 n5 a0 a1 a2 a3 a4 a5 Q c w)
  refine below_succ ?_ (fun c w => oU9f_2 g n cap j bl off m lc ii cm n0 n1 n2 n3 n4 n5 a0 a1 a2 a3 a4 a5 Q c w)
  refine below_succ ?_ (fun c w => oU9f_1 g n cap j bl off m lc ii cm n0 n1 n2 n3 n4 n5 a0 a1 a2 a3 a4 a5 Q c w)
  refine below_succ ?_ (fun c w => oU9f_0 g n cap j bl off m lc ii cm n0 n1 n2 n3 n4 n5 a0 a1 a2 a3 a4 a5 Q c w)
  exact below_zero

theorem dstU9f : ∀ i, i < RU9f.size → ∃ d, slotOf RU9f i = some d := by
  intro i hi
  rw [show RU9f.size = 14 by kernel_rfl] at hi
  match i, hi with
  | 0, _ => exact ⟨19, by kernel_rfl⟩
  | 1, _ => exact ⟨20, by kernel_rfl⟩
  | 2, _ => exact ⟨21, by kernel_rfl⟩
  | 3, _ => exact ⟨22, by kernel_rfl⟩
  | 4, _ => exact ⟨23, by kernel_rfl⟩
  | 5, _ => exact ⟨24, by kernel_rfl⟩
  | 6, _ => exact ⟨25, by kernel_rfl⟩
  | 7, _ => exact ⟨26, by kernel_rfl⟩
  | 8, _ => exact ⟨27, by kernel_rfl⟩
  | 9, _ => exact ⟨28, by kernel_rfl⟩
  | 10, _ => exact ⟨29, by kernel_rfl⟩
  | 11, _ => exact ⟨30, by kernel_rfl⟩
  | 12, _ => exact ⟨31, by kernel_rfl⟩
  | 13, _ => exact ⟨5, by kernel_rfl⟩
theorem regionU9f (g n cap j bl off m lc ii : Nat) (cm : Int) (n0 n1 n2 n3 n4 n5 a0 a1 a2 a3 a4 a5 : Value) (Q : Exit → Act → World → Prop) (base : Act) (w0 : World) (hsz : base.tmps.size = 42) (hb : BaseU9f g n cap j bl off m lc ii cm n0 n1 n2 n3 n4 n5 a0 a1 a2 a3 a4 a5 base)
    (hW : ∀ w, Below w0.heap.size w0 w → WorldU9f g n cap j bl off m lc ii cm n0 n1 n2 n3 n4 n5 a0 a1 a2 a3 a4 a5 w) (hQ : ∀ c w, Same RU9f base c → Below w0.heap.size w0 w → c.eval (.tmp 5) = .bool (cm == 0) → Q .normal c w) : (Code.region 9 RU9f true).wp Tryz.prog Q base w0 := by
  refine facts_ruleK 13 (.bool false) ((val_eq (show slotOf RU9f 13 = some 5 by kernel_rfl)).trans hb.t5) (A := ancU9f) (F := factsAt (factsU9f g n cap j bl off m lc ii cm n0 n1 n2 n3 n4 n5 a0 a1 a2 a3 a4 a5)) (by kernel_rfl) (by rw [hsz]; kernel_rfl) (dstU9f) (fun i v w w' => factsAt_stable (stableU9f g n cap j bl off m lc ii cm n0 n1 n2 n3 n4 n5 a0 a1 a2 a3 a4 a5) i v w w') ?_ ?_
  · intro i hi c w hS hB hold hF
    have hlt : i < 14 := by rwa [show RU9f.size = 14 by kernel_rfl] at hi
    exact allU9f g n cap j bl off m lc ii cm n0 n1 n2 n3 n4 n5 a0 a1 a2 a3 a4 a5 Q i (by rwa [show RU9f.size = 14 by kernel_rfl] at hi) c w ⟨(same_eval hS (by kernel_rfl)).trans hb.t0, (same_eval hS (by kernel_rfl)).trans hb.t3, (same_eval hS (by kernel_rfl)).trans hb.t4, (same_eval hS (by kernel_rfl)).trans hb.t6, (val_eq (show slotOf RU9f 13 = some 5 by kernel_rfl)).symm.trans (hold ((show ∀ i, i < 14 → (i ∈ ancU9f 13 ∨ i = 13) by decide) i hlt))⟩ (hW w hB) hF
  · intro c w hS hB hF
    exact hQ c w hS hB (fact_at (p := eqv (.bool (cm == 0))) (by kernel_rfl) rfl (hF 13 (by rw [show RU9f.size = 14 by kernel_rfl]; omega)))
end Go.Proofs.YtbpmhgcjefpigaaGreatDoor
