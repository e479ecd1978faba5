/- A statement that reads, calls and lays rows of its own: operation by operation, in whatever order. -/
import Derived.Test.YtbpmhgcjefpigaaGreatDoorJoin10
namespace Go.Proofs.YtbpmhgcjefpigaaGreatDoor
open Go.RowKit Go.WideShapes Go.Shelf
set_option linter.unusedVariables false
set_option linter.unusedSimpArgs false
noncomputable def RS24t : Array Oper := regionAt Tryz.f14 24
def ancS24t (i : Nat) : List Nat := ([[], [], [0, 1], [2], [3], [3, 4], [3, 5], [6], [7], [7], [7, 8, 9], [7, 10], [7], [7], [7, 12, 13], [7, 14], [7, 11, 15], [7, 16], [7, 17], [18], [19], [19, 20], [19, 21], [22], [22], [22, 24], [22, 23, 25], [22, 26], [22], [22], [22, 28, 29], [22, 30], [22, 27, 31], [22, 32], [19, 22, 33], [19, 34]] : List (List Nat)).getD i []
def factsS24t (ga oa gb ob n ca cb k ii : Nat) (cm : Int) (x0 x1 x2 x3 x4 x5 y0 y1 y2 y3 y4 y5 z0 z1 z2 z3 z4 z5 : Value) : List (Value → World → Prop) :=
  [eqv (.int .i64 (k : Int)), eqv (.int .i64 (k : Int)), eqv (.bool false), eqv (.bool false), eqv (.int .i64 (k : Int)), eqv (.bool false), eqv (.bool false), eqv (.bool false), eqv (.slice (some ⟨ga, oa, none⟩) n ca), eqv (.int .i64 ((ii + 1 : Nat) : Int)), eqv (.pointer (some ⟨ga, oa + (ii + 1) * 6, none⟩)), eqv (.agg #[x0, x1, x2, x3, x4, x5]), eqv (.slice (some ⟨gb, ob, none⟩) n cb), eqv (.int .i64 ((ii + 1 : Nat) : Int)), eqv (.pointer (some ⟨gb, ob + (ii + 1) * 6, none⟩)), eqv (.agg #[y0, y1, y2, y3, y4, y5]), eqv (.bool true), eqv (.bool false), eqv (.bool false), eqv (.bool false), eqv (.int .i64 ((ii + 1 : Nat) : Int)), eqv (.bool true), eqv (.bool true), eqv (.slice (some ⟨ga, oa, none⟩) n ca), eqv (.int .i64 ((ii + 1 : Nat) : Int)), eqv (.int .i64 (ii : Int)), eqv (.pointer (some ⟨ga, oa + ii * 6, none⟩)), eqv (.agg #[z0, z1, z2, z3, z4, z5]), eqv (.slice (some ⟨ga, oa, none⟩) n ca), eqv (.int .i64 ((ii + 1 : Nat) : Int)), eqv (.pointer (some ⟨ga, oa + (ii + 1) * 6, none⟩)), eqv (.agg #[x0, x1, x2, x3, x4, x5]), eqv (.int .i64 cm), eqv (.bool false), eqv (.bool false), eqv (.bool false)]
structure BaseS24t (ga oa gb ob n ca cb k ii : Nat) (cm : Int) (x0 x1 x2 x3 x4 x5 y0 y1 y2 y3 y4 y5 z0 z1 z2 z3 z4 z5 : Value) (c : Act) : Prop where
  t5 : c.eval (.tmp 5) = .slice (some ⟨ga, oa, none⟩) n ca
  t6 : c.eval (.tmp 6) = .slice (some ⟨gb, ob, none⟩) n cb
  t7 : c.eval (.tmp 7) = .int .i64 ((ii + 1 : Nat) : Int)
  t8 : c.eval (.tmp 8) = .int .i64 (k : Int)
  t9 : c.eval (.tmp 9) = .int .i64 (k : Int)
structure WorldS24t (ga oa gb ob n ca cb k ii : Nat) (cm : Int) (x0 x1 x2 x3 x4 x5 y0 y1 y2 y3 y4 y5 z0 z1 z2 z3 z4 z5 : Value) (w : World) : Prop where
  wx0 : w.cell? ⟨ga, oa + (ii + 1) * 6, none⟩ = some x0
  wx1 : w.cell? ⟨ga, oa + (ii + 1) * 6 + 1, none⟩ = some x1
  wx2 : w.cell? ⟨ga, oa + (ii + 1) * 6 + 2, none⟩ = some x2
  wx3 : w.cell? ⟨ga, oa + (ii + 1) * 6 + 3, none⟩ = some x3
  wx4 : w.cell? ⟨ga, oa + (ii + 1) * 6 + 4, none⟩ = some x4
  wx5 : w.cell? ⟨ga, oa + (ii + 1) * 6 + 5, none⟩ = some x5
  wy0 : w.cell? ⟨gb, ob + (ii + 1) * 6, none⟩ = some y0
  wy1 : w.cell? ⟨gb, ob + (ii + 1) * 6 + 1, none⟩ = some y1
  wy2 : w.cell? ⟨gb, ob + (ii + 1) * 6 + 2, none⟩ = some y2
  wy3 : w.cell? ⟨gb, ob + (ii + 1) * 6 + 3, none⟩ = some y3
  wy4 : w.cell? ⟨gb, ob + (ii + 1) * 6 + 4, none⟩ = some y4
  wy5 : w.cell? ⟨gb, ob + (ii + 1) * 6 + 5, none⟩ = some y5
  k1 : Calls Tryz.prog 32 #[.agg #[x0, x1, x2, x3, x4, x5], .agg #[y0, y1, y2, y3, y4, y5]] w fun e w' => e = .returned (.bool true) ∧ Below w.heap.size w w'
  hk : ((k : Int) == 0) = false
  hi : ii + 1 < n
  hca : n ≤ ca
  hcb : n ≤ cb
  wz0 : w.cell? ⟨ga, oa + ii * 6, none⟩ = some z0
  wz1 : w.cell? ⟨ga, oa + ii * 6 + 1, none⟩ = some z1
  wz2 : w.cell? ⟨ga, oa + ii * 6 + 2, none⟩ = some z2
  wz3 : w.cell? ⟨ga, oa + ii * 6 + 3, none⟩ = some z3
  wz4 : w.cell? ⟨ga, oa + ii * 6 + 4, none⟩ = some z4
  wz5 : w.cell? ⟨ga, oa + ii * 6 + 5, none⟩ = some z5
  k2 : Calls Tryz.prog 31 #[.agg #[z0, z1, z2, z3, z4, z5], .agg #[x0, x1, x2, x3, x4, x5]] w fun e w' => e = .returned (.int .i64 cm) ∧ Below w.heap.size w w'
  hcm : ¬ (0 : Int) < cm
  hn : n ≤ 1000
set_option maxRecDepth 10000 in
theorem oS24t_0 (ga oa gb ob n ca cb k ii : Nat) (cm : Int) (x0 x1 x2 x3 x4 x5 y0 y1 y2 y3 y4 y5 z0 z1 z2 z3 z4 z5 : Value) (Q : Exit → Act → World → Prop) (c : Act) (w : World) (hb : BaseS24t ga oa gb ob n ca cb k ii cm x0 x1 x2 x3 x4 x5 y0 y1 y2 y3 y4 y5 z0 z1 z2 z3 z4 z5 c) (hW : WorldS24t ga oa gb ob n ca cb k ii cm x0 x1 x2 x3 x4 x5 y0 y1 y2 y3 y4 y5 z0 z1 z2 z3 z4 z5 w) (hF : ∀ q0 ∈ ancS24t 0, factsAt (factsS24t ga oa gb ob n ca cb k ii cm x0 x1 x2 x3 x4 x5 y0 y1 y2 y3 y4 y5 z0 z1 z2 z3 z4 z5) q0 (val RS24t c q0) w) :
    Does Tryz.prog RS24t Q (factsAt (factsS24t ga oa gb ob n ca cb k ii cm x0 x1 x2 x3 x4 x5 y0 y1 y2 y3 y4 y5 z0 z1 z2 z3 z4 z5)) 0 c w := by
  have ho : RS24t[0]? = some ({ dst := some 94, op := Op.move (Operand.tmp 8), type := 3, pos := "outright.go:101", after := #[], guard := none } : Oper) := by kernel_rfl
  have e8 := hb.t8
  have hw : Region.wanted ({ dst := some 94, op := Op.move (Operand.tmp 8), type := 3, pos := "outright.go:101", after := #[], guard := none } : Oper) (yielded RS24t c.tmps) = true := want_none rfl
  have ec : ∀ v, c.eval (.const v) = v := fun _ => rfl
  have ef : ∀ f, c.eval (.func f) = .func (.func f) #[] #[] := fun _ => rfl
  refine does_value ho hw (v := .int .i64 (k : Int)) ?_ rfl (Below.refl _ _)
  generalize c.eval = ρ at *
  clear hF hb hW hw ho
  go_simp
set_option maxRecDepth 10000 in
theorem oS24t_1 (ga oa gb ob n ca cb k ii : Nat) (cm : Int) (x0 x1 x2 x3 x4 x5 y0 y1 y2 y3 y4 y5 z0 z1 z2 z3 z4 z5 : Value) (Q : Exit → Act → World → Prop) (c : Act) (w : World) (hb : BaseS24t ga oa gb ob n ca cb k ii cm x0 x1 x2 x3 x4 x5 y0 y1 y2 y3 y4 y5 z0 z1 z2 z3 z4 z5 c) (hW : WorldS24t ga oa gb ob n ca cb k ii cm x0 x1 x2 x3 x4 x5 y0 y1 y2 y3 y4 y5 z0 z1 z2 z3 z4 z5 w) (hF : ∀ q0 ∈ ancS24t 1, factsAt (factsS24t ga oa gb ob n ca cb k ii cm x0 x1 x2 x3 x4 x5 y0 y1 y2 y3 y4 y5 z0 z1 z2 z3 z4 z5) q0 (val RS24t c q0) w) :
    Does Tryz.prog RS24t Q (factsAt (factsS24t ga oa gb ob n ca cb k ii cm x0 x1 x2 x3 x4 x5 y0 y1 y2 y3 y4 y5 z0 z1 z2 z3 z4 z5)) 1 c w := by
  have ho : RS24t[1]? = some ({ dst := some 95, op := Op.move (Operand.tmp 9), type := 3, pos := "outright.go:101", after := #[], guard := none } : Oper) := by kernel_rfl
  have e9 := hb.t9
  have hw : Region.wanted ({ dst := some 95, op := Op.move (Operand.tmp 9), type := 3, pos := "outright.go:101", after := #[], guard := none } : Oper) (yielded RS24t c.tmps) = true := want_none rfl
  have ec : ∀ v, c.eval (.const v) = v := fun _ => rfl
  have ef : ∀ f, c.eval (.func f) = .func (.func f) #[] #[] := fun _ => rfl
  refine does_value ho hw (v := .int .i64 (k : Int)) ?_ rfl (Below.refl _ _)
  generalize c.eval = ρ at *
  clear hF hb hW hw ho
  go_simp
set_option maxRecDepth 10000 in
theorem oS24t_2 (ga oa gb ob n ca cb k ii : Nat) (cm : Int) (x0 x1 x2 x3 x4 x5 y0 y1 y2 y3 y4 y5 z0 z1 z2 z3 z4 z5 : Value) (Q : Exit → Act → World → Prop) (c : Act) (w : World) (hb : BaseS24t ga oa gb ob n ca cb k ii cm x0 x1 x2 x3 x4 x5 y0 y1 y2 y3 y4 y5 z0 z1 z2 z3 z4 z5 c) (hW : WorldS24t ga oa gb ob n ca cb k ii cm x0 x1 x2 x3 x4 x5 y0 y1 y2 y3 y4 y5 z0 z1 z2 z3 z4 z5 w) (hF : ∀ q0 ∈ ancS24t 2, factsAt (factsS24t ga oa gb ob n ca cb k ii cm x0 x1 x2 x3 x4 x5 y0 y1 y2 y3 y4 y5 z0 z1 z2 z3 z4 z5) q0 (val RS24t c q0) w) :
    Does Tryz.prog RS24t Q (factsAt (factsS24t ga oa gb ob n ca cb k ii cm x0 x1 x2 x3 x4 x5 y0 y1 y2 y3 y4 y5 z0 z1 z2 z3 z4 z5)) 2 c w := by
  have ho : RS24t[2]? = some ({ dst := some 96, op := Op.binOp BinOp.neq 3 (Operand.tmp 94) (Operand.tmp 95) 3, type := 4, pos := "outright.go:101", after := #[{ on := 0, ground := Ground.data }, { on := 1, ground := Ground.data }], guard := none } : Oper) := by kernel_rfl
  have e94 : c.eval (.tmp 94) = .int .i64 (k : Int) := fact_at (p := eqv (.int .i64 (k : Int))) (by kernel_rfl) rfl (hF 0 (by decide))
  have e95 : c.eval (.tmp 95) = .int .i64 (k : Int) := fact_at (p := eqv (.int .i64 (k : Int))) (by kernel_rfl) rfl (hF 1 (by decide))
  have hw : Region.wanted ({ dst := some 96, op := Op.binOp BinOp.neq 3 (Operand.tmp 94) (Operand.tmp 95) 3, type := 4, pos := "outright.go:101", after := #[{ on := 0, ground := Ground.data }, { on := 1, ground := Ground.data }], guard := none } : Oper) (yielded RS24t c.tmps) = true := want_none rfl
  have ec : ∀ v, c.eval (.const v) = v := fun _ => rfl
  have ef : ∀ f, c.eval (.func f) = .func (.func f) #[] #[] := fun _ => rfl
  refine does_value ho hw (v := .bool false) ?_ rfl (Below.refl _ _)
  generalize c.eval = ρ at *
  clear hF hb hW hw ho
  go_simp
set_option maxRecDepth 10000 in
theorem oS24t_3 (ga oa gb ob n ca cb k ii : Nat) (cm : Int) (x0 x1 x2 x3 x4 x5 y0 y1 y2 y3 y4 y5 z0 z1 z2 z3 z4 z5 : Value) (Q : Exit → Act → World → Prop) (c : Act) (w : World) (hb : BaseS24t ga oa gb ob n ca cb k ii cm x0 x1 x2 x3 x4 x5 y0 y1 y2 y3 y4 y5 z0 z1 z2 z3 z4 z5 c) (hW : WorldS24t ga oa gb ob n ca cb k ii cm x0 x1 x2 x3 x4 x5 y0 y1 y2 y3 y4 y5 z0 z1 z2 z3 z4 z5 w) (hF : ∀ q0 ∈ ancS24t 3, factsAt (factsS24t ga oa gb ob n ca cb k ii cm x0 x1 x2 x3 x4 x5 y0 y1 y2 y3 y4 y5 z0 z1 z2 z3 z4 z5) q0 (val RS24t c q0) w) :
    Does Tryz.prog RS24t Q (factsAt (factsS24t ga oa gb ob n ca cb k ii cm x0 x1 x2 x3 x4 x5 y0 y1 y2 y3 y4 y5 z0 z1 z2 z3 z4 z5)) 3 c w := by
  have ho : RS24t[3]? = some ({ dst := some 97, op := Op.move (Operand.tmp 96), type := 4, pos := "outright.go:101", after := #[{ on := 2, ground := Ground.data }], guard := none } : Oper) := by kernel_rfl
  have e96 : c.eval (.tmp 96) = .bool false := fact_at (p := eqv (.bool false)) (by kernel_rfl) rfl (hF 2 (by decide))
  have hw : Region.wanted ({ dst := some 97, op := Op.move (Operand.tmp 96), type := 4, pos := "outright.go:101", after := #[{ on := 2, ground := Ground.data }], guard := none } : Oper) (yielded RS24t c.tmps) = true := want_none rfl
  have ec : ∀ v, c.eval (.const v) = v := fun _ => rfl
  have ef : ∀ f, c.eval (.func f) = .func (.func f) #[] #[] := fun _ => rfl
  refine does_value ho hw (v := .bool false) ?_ rfl (Below.refl _ _)
  generalize c.eval = ρ at *
  clear hF hb hW hw ho
  go_simp
set_option maxRecDepth 10000 in
theorem oS24t_4 (ga oa gb ob n ca cb k ii : Nat) (cm : Int) (x0 x1 x2 x3 x4 x5 y0 y1 y2 y3 y4 y5 z0 z1 z2 z3 z4 z5 : Value) (Q : Exit → Act → World → Prop) (c : Act) (w : World) (hb : BaseS24t ga oa gb ob n ca cb k ii cm x0 x1 x2 x3 x4 x5 y0 y1 y2 y3 y4 y5 z0 z1 z2 z3 z4 z5 c) (hW : WorldS24t ga oa gb ob n ca cb k ii cm x0 x1 x2 x3 x4 x5 y0 y1 y2 y3 y4 y5 z0 z1 z2 z3 z4 z5 w) (hF : ∀ q0 ∈ ancS24t 4, factsAt (factsS24t ga oa gb ob n ca cb k ii cm x0 x1 x2 x3 x4 x5 y0 y1 y2 y3 y4 y5 z0 z1 z2 z3 z4 z5) q0 (val RS24t c q0) w) :
    Does Tryz.prog RS24t Q (factsAt (factsS24t ga oa gb ob n ca cb k ii cm x0 x1 x2 x3 x4 x5 y0 y1 y2 y3 y4 y5 z0 z1 z2 z3 z4 z5)) 4 c w := by
  have ho : RS24t[4]? = some ({ dst := some 98, op := Op.move (Operand.tmp 8), type := 3, pos := "outright.go:101", after := #[{ on := 3, ground := Ground.guard }], guard := some (3, false) } : Oper) := by kernel_rfl
  have e8 := hb.t8
  have hg : val RS24t c 3 = .bool false := hF 3 (by decide)
  have hw : Region.wanted ({ dst := some 98, op := Op.move (Operand.tmp 8), type := 3, pos := "outright.go:101", after := #[{ on := 3, ground := Ground.guard }], guard := some (3, false) } : Oper) (yielded RS24t c.tmps) = true := want_eq rfl hg
  have ec : ∀ v, c.eval (.const v) = v := fun _ => rfl
  have ef : ∀ f, c.eval (.func f) = .func (.func f) #[] #[] := fun _ => rfl
  refine does_value ho hw (v := .int .i64 (k : Int)) ?_ rfl (Below.refl _ _)
  generalize c.eval = ρ at *
  clear hF hb hW hw ho hg
  go_simp
set_option maxRecDepth 10000 in
theorem oS24t_5 (ga oa gb ob n ca cb k ii : Nat) (cm : Int) (x0 x1 x2 x3 x4 x5 y0 y1 y2 y3 y4 y5 z0 z1 z2 z3 z4 z5 : Value) (Q : Exit → Act → World → Prop) (c : Act) (w : World) (hb : BaseS24t ga oa gb ob n ca cb k ii cm x0 x1 x2 x3 x4 x5 y0 y1 y2 y3 y4 y5 z0 z1 z2 z3 z4 z5 c) (hW : WorldS24t ga oa gb ob n ca cb k ii cm x0 x1 x2 x3 x4 x5 y0 y1 y2 y3 y4 y5 z0 z1 z2 z3 z4 z5 w) (hF : ∀ q0 ∈ ancS24t 5, factsAt (factsS24t ga oa gb ob n ca cb k ii cm x0 x1 x2 x3 x4 x5 y0 y1 y2 y3 y4 y5 z0 z1 z2 z3 z4 z5) q0 (val RS24t c q0) w) :
    Does Tryz.prog RS24t Q (factsAt (factsS24t ga oa gb ob n ca cb k ii cm x0 x1 x2 x3 x4 x5 y0 y1 y2 y3 y4 y5 z0 z1 z2 z3 z4 z5)) 5 c w := by
  have ho : RS24t[5]? = some ({ dst := some 99, op := Op.binOp BinOp.eql 3 (Operand.tmp 98) (Operand.const (Value.int IntKind.i64 0)) 3, type := 4, pos := "outright.go:101", after := #[{ on := 4, ground := Ground.data }, { on := 3, ground := Ground.guard }], guard := some (3, false) } : Oper) := by kernel_rfl
  have e98 : c.eval (.tmp 98) = .int .i64 (k : Int) := fact_at (p := eqv (.int .i64 (k : Int))) (by kernel_rfl) rfl (hF 4 (by decide))
  have hg : val RS24t c 3 = .bool false := hF 3 (by decide)
  have hw : Region.wanted ({ dst := some 99, op := Op.binOp BinOp.eql 3 (Operand.tmp 98) (Operand.const (Value.int IntKind.i64 0)) 3, type := 4, pos := "outright.go:101", after := #[{ on := 4, ground := Ground.data }, { on := 3, ground := Ground.guard }], guard := some (3, false) } : Oper) (yielded RS24t c.tmps) = true := want_eq rfl hg
  have ec : ∀ v, c.eval (.const v) = v := fun _ => rfl
  have ef : ∀ f, c.eval (.func f) = .func (.func f) #[] #[] := fun _ => rfl
  have hk := hW.hk
  refine does_value ho hw (v := .bool false) ?_ rfl (Below.refl _ _)
  generalize c.eval = ρ at *
  clear hF hb hW hw ho hg
  go_simp
set_option maxRecDepth 10000 in
theorem oS24t_6 (ga oa gb ob n ca cb k ii : Nat) (cm : Int) (x0 x1 x2 x3 x4 x5 y0 y1 y2 y3 y4 y5 z0 z1 z2 z3 z4 z5 : Value) (Q : Exit → Act → World → Prop) (c : Act) (w : World) (hb : BaseS24t ga oa gb ob n ca cb k ii cm x0 x1 x2 x3 x4 x5 y0 y1 y2 y3 y4 y5 z0 z1 z2 z3 z4 z5 c) (hW : WorldS24t ga oa gb ob n ca cb k ii cm x0 x1 x2 x3 x4 x5 y0 y1 y2 y3 y4 y5 z0 z1 z2 z3 z4 z5 w) (hF : ∀ q0 ∈ ancS24t 6, factsAt (factsS24t ga oa gb ob n ca cb k ii cm x0 x1 x2 x3 x4 x5 y0 y1 y2 y3 y4 y5 z0 z1 z2 z3 z4 z5) q0 (val RS24t c q0) w) :
    Does Tryz.prog RS24t Q (factsAt (factsS24t ga oa gb ob n ca cb k ii cm x0 x1 x2 x3 x4 x5 y0 y1 y2 y3 y4 y5 z0 z1 z2 z3 z4 z5)) 6 c w := by
  have ho : RS24t[6]? = some ({ dst := some 100, op := Op.pick (Operand.tmp 97) (Operand.const (Value.bool true)) (Operand.tmp 99), type := 4, pos := "outright.go:101", after := #[{ on := 3, ground := Ground.data }, { on := 5, ground := Ground.data }], guard := none } : Oper) := by kernel_rfl
  have e97 : c.eval (.tmp 97) = .bool false := fact_at (p := eqv (.bool false)) (by kernel_rfl) rfl (hF 3 (by decide))
  have e99 : c.eval (.tmp 99) = .bool false := fact_at (p := eqv (.bool false)) (by kernel_rfl) rfl (hF 5 (by decide))
  have hw : Region.wanted ({ dst := some 100, op := Op.pick (Operand.tmp 97) (Operand.const (Value.bool true)) (Operand.tmp 99), type := 4, pos := "outright.go:101", after := #[{ on := 3, ground := Ground.data }, { on := 5, ground := Ground.data }], guard := none } : Oper) (yielded RS24t c.tmps) = true := want_none rfl
  have ec : ∀ v, c.eval (.const v) = v := fun _ => rfl
  have ef : ∀ f, c.eval (.func f) = .func (.func f) #[] #[] := fun _ => rfl
  refine does_value ho hw (v := .bool false) ?_ rfl (Below.refl _ _)
  generalize c.eval = ρ at *
  clear hF hb hW hw ho
  go_simp
set_option maxRecDepth 10000 in
theorem oS24t_7 (ga oa gb ob n ca cb k ii : Nat) (cm : Int) (x0 x1 x2 x3 x4 x5 y0 y1 y2 y3 y4 y5 z0 z1 z2 z3 z4 z5 : Value) (Q : Exit → Act → World → Prop) (c : Act) (w : World) (hb : BaseS24t ga oa gb ob n ca cb k ii cm x0 x1 x2 x3 x4 x5 y0 y1 y2 y3 y4 y5 z0 z1 z2 z3 z4 z5 c) (hW : WorldS24t ga oa gb ob n ca cb k ii cm x0 x1 x2 x3 x4 x5 y0 y1 y2 y3 y4 y5 z0 z1 z2 z3 z4 z5 w) (hF : ∀ q0 ∈ ancS24t 7, factsAt (factsS24t ga oa gb ob n ca cb k ii cm x0 x1 x2 x3 x4 x5 y0 y1 y2 y3 y4 y5 z0 z1 z2 z3 z4 z5) q0 (val RS24t c q0) w) :
    Does Tryz.prog RS24t Q (factsAt (factsS24t ga oa gb ob n ca cb k ii cm x0 x1 x2 x3 x4 x5 y0 y1 y2 y3 y4 y5 z0 z1 z2 z3 z4 z5)) 7 c w := by
  have ho : RS24t[7]? = some ({ dst := some 101, op := Op.move (Operand.tmp 100), type := 4, pos := "outright.go:101", after := #[{ on := 6, ground := Ground.data }, { on := 3, ground := Ground.chain }], guard := none } : Oper) := by kernel_rfl
  have e100 : c.eval (.tmp 100) = .bool false := fact_at (p := eqv (.bool false)) (by kernel_rfl) rfl (hF 6 (by decide))
  have hw : Region.wanted ({ dst := some 101, op := Op.move (Operand.tmp 100), type := 4, pos := "outright.go:101", after := #[{ on := 6, ground := Ground.data }, { on := 3, ground := Ground.chain }], guard := none } : Oper) (yielded RS24t c.tmps) = true := want_none rfl
  have ec : ∀ v, c.eval (.const v) = v := fun _ => rfl
  have ef : ∀ f, c.eval (.func f) = .func (.func f) #[] #[] := fun _ => rfl
  refine does_value ho hw (v := .bool false) ?_ rfl (Below.refl _ _)
  generalize c.eval = ρ at *
  clear hF hb hW hw ho
  go_simp
set_option maxRecDepth 10000 in
theorem oS24t_8 (ga oa gb ob n ca cb k ii : Nat) (cm : Int) (x0 x1 x2 x3 x4 x5 y0 y1 y2 y3 y4 y5 z0 z1 z2 z3 z4 z5 : Value) (Q : Exit → Act → World → Prop) (c : Act) (w : World) (hb : BaseS24t ga oa gb ob n ca cb k ii cm x0 x1 x2 x3 x4 x5 y0 y1 y2 y3 y4 y5 z0 z1 z2 z3 z4 z5 c) (hW : WorldS24t ga oa gb ob n ca cb k ii cm x0 x1 x2 x3 x4 x5 y0 y1 y2 y3 y4 y5 z0 z1 z2 z3 z4 z5 w) (hF : ∀ q0 ∈ ancS24t 8, factsAt (factsS24t ga oa gb ob n ca cb k ii cm x0 x1 x2 x3 x4 x5 y0 y1 y2 y3 y4 y5 z0 z1 z2 z3 z4 z5) q0 (val RS24t c q0) w) :
    Does Tryz.prog RS24t Q (factsAt (factsS24t ga oa gb ob n ca cb k ii cm x0 x1 x2 x3 x4 x5 y0 y1 y2 y3 y4 y5 z0 z1 z2 z3 z4 z5)) 8 c w := by
  have ho : RS24t[8]? = some ({ dst := some 102, op := Op.move (Operand.tmp 5), type := 24, pos := "outright.go:101", after := #[{ on := 7, ground := Ground.guard }], guard := some (7, false) } : Oper) := by kernel_rfl
  have e5 := hb.t5
  have hg : val RS24t c 7 = .bool false := hF 7 (by decide)
  have hw : Region.wanted ({ dst := some 102, op := Op.move (Operand.tmp 5), type := 24, pos := "outright.go:101", after := #[{ on := 7, ground := Ground.guard }], guard := some (7, false) } : Oper) (yielded RS24t c.tmps) = true := want_eq rfl hg
  have ec : ∀ v, c.eval (.const v) = v := fun _ => rfl
  have ef : ∀ f, c.eval (.func f) = .func (.func f) #[] #[] := fun _ => rfl
  refine does_value ho hw (v := .slice (some ⟨ga, oa, none⟩) n ca) ?_ rfl (Below.refl _ _)
  generalize c.eval = ρ at *
  clear hF hb hW hw ho hg
  go_simp
set_option maxRecDepth 10000 in
theorem oS24t_9 (ga oa gb ob n ca cb k ii : Nat) (cm : Int) (x0 x1 x2 x3 x4 x5 y0 y1 y2 y3 y4 y5 z0 z1 z2 z3 z4 z5 : Value) (Q : Exit → Act → World → Prop) (c : Act) (w : World) (hb : BaseS24t ga oa gb ob n ca cb k ii cm x0 x1 x2 x3 x4 x5 y0 y1 y2 y3 y4 y5 z0 z1 z2 z3 z4 z5 c) (hW : WorldS24t ga oa gb ob n ca cb k ii cm x0 x1 x2 x3 x4 x5 y0 y1 y2 y3 y4 y5 z0 z1 z2 z3 z4 z5 w) (hF : ∀ q0 ∈ ancS24t 9, factsAt (factsS24t ga oa gb ob n ca cb k ii cm x0 x1 x2 x3 x4 x5 y0 y1 y2 y3 y4 y5 z0 z1 z2 z3 z4 z5) q0 (val RS24t c q0) w) :
    Does Tryz.prog RS24t Q (factsAt (factsS24t ga oa gb ob n ca cb k ii cm x0 x1 x2 x3 x4 x5 y0 y1 y2 y3 y4 y5 z0 z1 z2 z3 z4 z5)) 9 c w := by
  have ho : RS24t[9]? = some ({ dst := some 103, op := Op.move (Operand.tmp 7), type := 3, pos := "outright.go:101", after := #[{ on := 7, ground := Ground.guard }], guard := some (7, false) } : Oper) := by kernel_rfl
  have e7 := hb.t7
  have hg : val RS24t c 7 = .bool false := hF 7 (by decide)
  have hw : Region.wanted ({ dst := some 103, op := Op.move (Operand.tmp 7), type := 3, pos := "outright.go:101", after := #[{ on := 7, ground := Ground.guard }], guard := some (7, false) } : Oper) (yielded RS24t c.tmps) = true := want_eq rfl hg
  have ec : ∀ v, c.eval (.const v) = v := fun _ => rfl
  have ef : ∀ f, c.eval (.func f) = .func (.func f) #[] #[] := fun _ => rfl
  refine does_value ho hw (v := .int .i64 ((ii + 1 : Nat) : Int)) ?_ rfl (Below.refl _ _)
  generalize c.eval = ρ at *
  clear hF hb hW hw ho hg
  go_simp
set_option maxRecDepth 10000 in
theorem oS24t_10 (ga oa gb ob n ca cb k ii : Nat) (cm : Int) (x0 x1 x2 x3 x4 x5 y0 y1 y2 y3 y4 y5 z0 z1 z2 z3 z4 z5 : Value) (Q : Exit → Act → World → Prop) (c : Act) (w : World) (hb : BaseS24t ga oa gb ob n ca cb k ii cm x0 x1 x2 x3 x4 x5 y0 y1 y2 y3 y4 y5 z0 z1 z2 z3 z4 z5 c) (hW : WorldS24t ga oa gb ob n ca cb k ii cm x0 x1 x2 x3 x4 x5 y0 y1 y2 y3 y4 y5 z0 z1 z2 z3 z4 z5 w) (hF : ∀ q0 ∈ ancS24t 10, factsAt (factsS24t ga oa gb ob n ca cb k ii cm x0 x1 x2 x3 x4 x5 y0 y1 y2 y3 y4 y5 z0 z1 z2 z3 z4 z5) q0 (val RS24t c q0) w) :
    Does Tryz.prog RS24t Q (factsAt (factsS24t ga oa gb ob n ca cb k ii cm x0 x1 x2 x3 x4 x5 y0 y1 y2 y3 y4 y5 z0 z1 z2 z3 z4 z5)) 10 c w := by
  have ho : RS24t[10]? = some ({ dst := some 104, op := Op.indexAddr 24 (Operand.tmp 102) (Operand.tmp 103), type := 0, pos := "outright.go:101", after := #[{ on := 8, ground := Ground.data }, { on := 9, ground := Ground.data }, { on := 7, ground := Ground.guard }], guard := some (7, false) } : Oper) := by kernel_rfl
  have e102 : c.eval (.tmp 102) = .slice (some ⟨ga, oa, none⟩) n ca := fact_at (p := eqv (.slice (some ⟨ga, oa, none⟩) n ca)) (by kernel_rfl) rfl (hF 8 (by decide))
  have e103 : c.eval (.tmp 103) = .int .i64 ((ii + 1 : Nat) : Int) := fact_at (p := eqv (.int .i64 ((ii + 1 : Nat) : Int))) (by kernel_rfl) rfl (hF 9 (by decide))
  have hg : val RS24t c 7 = .bool false := hF 7 (by decide)
  have hw : Region.wanted ({ dst := some 104, op := Op.indexAddr 24 (Operand.tmp 102) (Operand.tmp 103), type := 0, pos := "outright.go:101", after := #[{ on := 8, ground := Ground.data }, { on := 9, ground := Ground.data }, { on := 7, ground := Ground.guard }], guard := some (7, false) } : Oper) (yielded RS24t c.tmps) = true := want_eq rfl hg
  have ec : ∀ v, c.eval (.const v) = v := fun _ => rfl
  have ef : ∀ f, c.eval (.func f) = .func (.func f) #[] #[] := fun _ => rfl
  have hi := hW.hi
  refine does_value ho hw (v := .pointer (some ⟨ga, oa + (ii + 1) * 6, none⟩)) ?_ rfl (Below.refl _ _)
  generalize c.eval = ρ at *
  clear hF hb hW hw ho hg
  go_simp
  intro h; omega
set_option maxRecDepth 10000 in
theorem oS24t_11 (ga oa gb ob n ca cb k ii : Nat) (cm : Int) (x0 x1 x2 x3 x4 x5 y0 y1 y2 y3 y4 y5 z0 z1 z2 z3 z4 z5 : Value) (Q : Exit → Act → World → Prop) (c : Act) (w : World) (hb : BaseS24t ga oa gb ob n ca cb k ii cm x0 x1 x2 x3 x4 x5 y0 y1 y2 y3 y4 y5 z0 z1 z2 z3 z4 z5 c) (hW : WorldS24t ga oa gb ob n ca cb k ii cm x0 x1 x2 x3 x4 x5 y0 y1 y2 y3 y4 y5 z0 z1 z2 z3 z4 z5 w) (hF : ∀ q0 ∈ ancS24t 11, factsAt (factsS24t ga oa gb ob n ca cb k ii cm x0 x1 x2 x3 x4 x5 y0 y1 y2 y3 y4 y5 z0 z1 z2 z3 z4 z5) q0 (val RS24t c q0) w) :
    Does Tryz.prog RS24t Q (factsAt (factsS24t ga oa gb ob n ca cb k ii cm x0 x1 x2 x3 x4 x5 y0 y1 y2 y3 y4 y5 z0 z1 z2 z3 z4 z5)) 11 c w := by
  have ho : RS24t[11]? = some ({ dst := some 105, op := Op.load 26 (Operand.tmp 104), type := 26, pos := "outright.go:101", after := #[{ on := 10, ground := Ground.data }, { on := 7, ground := Ground.guard }], guard := some (7, false) } : Oper) := by kernel_rfl
  have e104 : c.eval (.tmp 104) = .pointer (some ⟨ga, oa + (ii + 1) * 6, none⟩) := fact_at (p := eqv (.pointer (some ⟨ga, oa + (ii + 1) * 6, none⟩))) (by kernel_rfl) rfl (hF 10 (by decide))
  have hg : val RS24t c 7 = .bool false := hF 7 (by decide)
  have hw : Region.wanted ({ dst := some 105, op := Op.load 26 (Operand.tmp 104), type := 26, pos := "outright.go:101", after := #[{ on := 10, ground := Ground.data }, { on := 7, ground := Ground.guard }], guard := some (7, false) } : Oper) (yielded RS24t c.tmps) = true := want_eq rfl hg
  have ec : ∀ v, c.eval (.const v) = v := fun _ => rfl
  have ef : ∀ f, c.eval (.func f) = .func (.func f) #[] #[] := fun _ => rfl
  have wx0 := hW.wx0
  have wx1 := hW.wx1
  have wx2 := hW.wx2
  have wx3 := hW.wx3
  have wx4 := hW.wx4
  have wx5 := hW.wx5
  refine does_value ho hw (v := .agg #[x0, x1, x2, x3, x4, x5]) ?_ rfl (Below.refl _ _)
  generalize c.eval = ρ at *
  clear hF hb hW hw ho hg
  go_simp
set_option maxRecDepth 10000 in
theorem oS24t_12 (ga oa gb ob n ca cb k ii : Nat) (cm : Int) (x0 x1 x2 x3 x4 x5 y0 y1 y2 y3 y4 y5 z0 z1 z2 z3 z4 z5 : Value) (Q : Exit → Act → World → Prop) (c : Act) (w : World) (hb : BaseS24t ga oa gb ob n ca cb k ii cm x0 x1 x2 x3 x4 x5 y0 y1 y2 y3 y4 y5 z0 z1 z2 z3 z4 z5 c) (hW : WorldS24t ga oa gb ob n ca cb k ii cm x0 x1 x2 x3 x4 x5 y0 y1 y2 y3 y4 y5 z0 z1 z2 z3 z4 z5 w) (hF : ∀ q0 ∈ ancS24t 12, factsAt (factsS24t ga oa gb ob n ca cb k ii cm x0 x1 x2 x3 x4 x5 y0 y1 y2 y3 y4 y5 z0 z1 z2 z3 z4 z5) q0 (val RS24t c q0) w) :
    Does Tryz.prog RS24t Q (factsAt (factsS24t ga oa gb ob n ca cb k ii cm x0 x1 x2 x3 x4 x5 y0 y1 y2 y3 y4 y5 z0 z1 z2 z3 z4 z5)) 12 c w := by
  have ho : RS24t[12]? = some ({ dst := some 106, op := Op.move (Operand.tmp 6), type := 24, pos := "outright.go:101", after := #[{ on := 7, ground := Ground.guard }], guard := some (7, false) } : Oper) := by kernel_rfl
  have e6 := hb.t6
  have hg : val RS24t c 7 = .bool false := hF 7 (by decide)
  have hw : Region.wanted ({ dst := some 106, op := Op.move (Operand.tmp 6), type := 24, pos := "outright.go:101", after := #[{ on := 7, ground := Ground.guard }], guard := some (7, false) } : Oper) (yielded RS24t c.tmps) = true := want_eq rfl hg
  have ec : ∀ v, c.eval (.const v) = v := fun _ => rfl
  have ef : ∀ f, c.eval (.func f) = .func (.func f) #[] #[] := fun _ => rfl
  refine does_value ho hw (v := .slice (some ⟨gb, ob, none⟩) n cb) ?_ rfl (Below.refl _ _)
  generalize c.eval = ρ at *
  clear hF hb hW hw ho hg
  go_simp
set_option maxRecDepth 10000 in
theorem oS24t_13 (ga oa gb ob n ca cb k ii : Nat) (cm : Int) (x0 x1 x2 x3 x4 x5 y0 y1 y2 y3 y4 y5 z0 z1 z2 z3 z4 z5 : Value) (Q : Exit → Act → World → Prop) (c : Act) (w : World) (hb : BaseS24t ga oa gb ob n ca cb k ii cm x0 x1 x2 x3 x4 x5 y0 y1 y2 y3 y4 y5 z0 z1 z2 z3 z4 z5 c) (hW : WorldS24t ga oa gb ob n ca cb k ii cm x0 x1 x2 x3 x4 x5 y0 y1 y2 y3 y4 y5 z0 z1 z2 z3 z4 z5 w) (hF : ∀ q0 ∈ ancS24t 13, factsAt (factsS24t ga oa gb ob n ca cb k ii cm x0 x1 x2 x3 x4 x5 y0 y1 y2 y3 y4 y5 z0 z1 z2 z3 z4 z5) q0 (val RS24t c q0) w) :
    Does Tryz.prog RS24t Q (factsAt (factsS24t ga oa gb ob n ca cb k ii cm x0 x1 x2 x3 x4 x5 y0 y1 y2 y3 y4 y5 z0 z1 z2 z3 z4 z5)) 13 c w := by
  have ho : RS24t[13]? = some ({ dst := some 107, op := Op.move (Operand.tmp 7), type := 3, pos := "outright.go:101", after := #[{ on := 7, ground := Ground.guard }], guard := some (7, false) } : Oper) := by kernel_rfl
  have e7 := hb.t7
  have hg : val RS24t c 7 = .bool false := hF 7 (by decide)
  have hw : Region.wanted ({ dst := some 107, op := Op.move (Operand.tmp 7), type := 3, pos := "outright.go:101", after := #[{ on := 7, ground := Ground.guard }], guard := some (7, false) } : Oper) (yielded RS24t c.tmps) = true := want_eq rfl hg
  have ec : ∀ v, c.eval (.const v) = v := fun _ => rfl
  have ef : ∀ f, c.eval (.func f) = .func (.func f) #[] #[] := fun _ => rfl
  refine does_value ho hw (v := .int .i64 ((ii + 1 : Nat) : Int)) ?_ rfl (Below.refl _ _)
  generalize c.eval = ρ at *
  clear hF hb hW hw ho hg
  go_simp
set_option maxRecDepth 10000 in
theorem oS24t_14 (ga oa gb ob n ca cb k ii : Nat) (cm : Int) (x0 x1 x2 x3 x4 x5 y0 y1 y2 y3 y4 y5 z0 z1 z2 z3 z4 z5 : Value) (Q : Exit → Act → World → Prop) (c : Act) (w : World) (hb : BaseS24t ga oa gb ob n ca cb k ii cm x0 x1 x2 x3 x4 x5 y0 y1 y2 y3 y4 y5 z0 z1 z2 z3 z4 z5 c) (hW : WorldS24t ga oa gb ob n ca cb k ii cm x0 x1 x2 x3 x4 x5 y0 y1 y2 y3 y4 y5 z0 z1 z2 z3 z4 z5 w) (hF : ∀ q0 ∈ ancS24t 14, factsAt (factsS24t ga oa gb ob n ca cb k ii cm x0 x1 x2 x3 x4 x5 y0 y1 y2 y3 y4 y5 z0 z1 z2 z3 z4 z5) q0 (val RS24t c q0) w) :
    Does Tryz.prog RS24t Q (factsAt (factsS24t ga oa gb ob n ca cb k ii cm x0 x1 x2 x3 x4 x5 y0 y1 y2 y3 y4 y5 z0 z1 z2 z3 z4 z5)) 14 c w := by
  have ho : RS24t[14]? = some ({ dst := some 108, op := Op.indexAddr 24 (Operand.tmp 106) (Operand.tmp 107), type := 0, pos := "outright.go:101", after := #[{ on := 12, ground := Ground.data }, { on := 13, ground := Ground.data }, { on := 7, ground := Ground.guard }], guard := some (7, false) } : Oper) := by kernel_rfl
  have e106 : c.eval (.tmp 106) = .slice (some ⟨gb, ob, none⟩) n cb := fact_at (p := eqv (.slice (some ⟨gb, ob, none⟩) n cb)) (by kernel_rfl) rfl (hF 12 (by decide))
  have e107 : c.eval (.tmp 107) = .int .i64 ((ii + 1 : Nat) : Int) := fact_at (p := eqv (.int .i64 ((ii + 1 : Nat) : Int))) (by kernel_rfl) rfl (hF 13 (by decide))
  have hg : val RS24t c 7 = .bool false := hF 7 (by decide)
  have hw : Region.wanted ({ dst := some 108, op := Op.indexAddr 24 (Operand.tmp 106) (Operand.tmp 107), type := 0, pos := "outright.go:101", after := #[{ on := 12, ground := Ground.data }, { on := 13, ground := Ground.data }, { on := 7, ground := Ground.guard }], guard := some (7, false) } : Oper) (yielded RS24t c.tmps) = true := want_eq rfl hg
  have ec : ∀ v, c.eval (.const v) = v := fun _ => rfl
  have ef : ∀ f, c.eval (.func f) = .func (.func f) #[] #[] := fun _ => rfl
  have hi := hW.hi
  refine does_value ho hw (v := .pointer (some ⟨gb, ob + (ii + 1) * 6, none⟩)) ?_ rfl (Below.refl _ _)
  generalize c.eval = ρ at *
  clear hF hb hW hw ho hg
  go_simp
  intro h; omega
set_option maxRecDepth 10000 in
theorem oS24t_15 (ga oa gb ob n ca cb k ii : Nat) (cm : Int) (x0 x1 x2 x3 x4 x5 y0 y1 y2 y3 y4 y5 z0 z1 z2 z3 z4 z5 : Value) (Q : Exit → Act → World → Prop) (c : Act) (w : World) (hb : BaseS24t ga oa gb ob n ca cb k ii cm x0 x1 x2 x3 x4 x5 y0 y1 y2 y3 y4 y5 z0 z1 z2 z3 z4 z5 c) (hW : WorldS24t ga oa gb ob n ca cb k ii cm x0 x1 x2 x3 x4 x5 y0 y1 y2 y3 y4 y5 z0 z1 z2 z3 z4 z5 w) (hF : ∀ q0 ∈ ancS24t 15, factsAt (factsS24t ga oa gb ob n ca cb k ii cm x0 x1 x2 x3 x4 x5 y0 y1 y2 y3 y4 y5 z0 z1 z2 z3 z4 z5) q0 (val RS24t c q0) w) :
    Does Tryz.prog RS24t Q (factsAt (factsS24t ga oa gb ob n ca cb k ii cm x0 x1 x2 x3 x4 x5 y0 y1 y2 y3 y4 y5 z0 z1 z2 z3 z4 z5)) 15 c w := by
  have ho : RS24t[15]? = some ({ dst := some 109, op := Op.load 26 (Operand.tmp 108), type := 26, pos := "outright.go:101", after := #[{ on := 14, ground := Ground.data }, { on := 7, ground := Ground.guard }], guard := some (7, false) } : Oper) := by kernel_rfl
  have e108 : c.eval (.tmp 108) = .pointer (some ⟨gb, ob + (ii + 1) * 6, none⟩) := fact_at (p := eqv (.pointer (some ⟨gb, ob + (ii + 1) * 6, none⟩))) (by kernel_rfl) rfl (hF 14 (by decide))
  have hg : val RS24t c 7 = .bool false := hF 7 (by decide)
  have hw : Region.wanted ({ dst := some 109, op := Op.load 26 (Operand.tmp 108), type := 26, pos := "outright.go:101", after := #[{ on := 14, ground := Ground.data }, { on := 7, ground := Ground.guard }], guard := some (7, false) } : Oper) (yielded RS24t c.tmps) = true := want_eq rfl hg
  have ec : ∀ v, c.eval (.const v) = v := fun _ => rfl
  have ef : ∀ f, c.eval (.func f) = .func (.func f) #[] #[] := fun _ => rfl
  have wy0 := hW.wy0
  have wy1 := hW.wy1
  have wy2 := hW.wy2
  have wy3 := hW.wy3
  have wy4 := hW.wy4
  have wy5 := hW.wy5
  refine does_value ho hw (v := .agg #[y0, y1, y2, y3, y4, y5]) ?_ rfl (Below.refl _ _)
  generalize c.eval = ρ at *
  clear hF hb hW hw ho hg
  go_simp
set_option maxRecDepth 10000 in
theorem oS24t_16 (ga oa gb ob n ca cb k ii : Nat) (cm : Int) (x0 x1 x2 x3 x4 x5 y0 y1 y2 y3 y4 y5 z0 z1 z2 z3 z4 z5 : Value) (Q : Exit → Act → World → Prop) (c : Act) (w : World) (hb : BaseS24t ga oa gb ob n ca cb k ii cm x0 x1 x2 x3 x4 x5 y0 y1 y2 y3 y4 y5 z0 z1 z2 z3 z4 z5 c) (hW : WorldS24t ga oa gb ob n ca cb k ii cm x0 x1 x2 x3 x4 x5 y0 y1 y2 y3 y4 y5 z0 z1 z2 z3 z4 z5 w) (hF : ∀ q0 ∈ ancS24t 16, factsAt (factsS24t ga oa gb ob n ca cb k ii cm x0 x1 x2 x3 x4 x5 y0 y1 y2 y3 y4 y5 z0 z1 z2 z3 z4 z5) q0 (val RS24t c q0) w) :
    Does Tryz.prog RS24t Q (factsAt (factsS24t ga oa gb ob n ca cb k ii cm x0 x1 x2 x3 x4 x5 y0 y1 y2 y3 y4 y5 z0 z1 z2 z3 z4 z5)) 16 c w := by
  have ho : RS24t[16]? = some ({ dst := some 110, op := Op.call { callee := Callee.value (Operand.func 32), args := #[Operand.tmp 105, Operand.tmp 109], argTypes := #[26, 26] }, type := 4, pos := "outright.go:101", after := #[{ on := 11, ground := Ground.data }, { on := 15, ground := Ground.data }, { on := 7, ground := Ground.chain }, { on := 7, ground := Ground.guard }], guard := some (7, false) } : Oper) := by kernel_rfl
  have e105 : c.eval (.tmp 105) = .agg #[x0, x1, x2, x3, x4, x5] := fact_at (p := eqv (.agg #[x0, x1, x2, x3, x4, x5])) (by kernel_rfl) rfl (hF 11 (by decide))
  have e109 : c.eval (.tmp 109) = .agg #[y0, y1, y2, y3, y4, y5] := fact_at (p := eqv (.agg #[y0, y1, y2, y3, y4, y5])) (by kernel_rfl) rfl (hF 15 (by decide))
  have hg : val RS24t c 7 = .bool false := hF 7 (by decide)
  have hw : Region.wanted ({ dst := some 110, op := Op.call { callee := Callee.value (Operand.func 32), args := #[Operand.tmp 105, Operand.tmp 109], argTypes := #[26, 26] }, type := 4, pos := "outright.go:101", after := #[{ on := 11, ground := Ground.data }, { on := 15, ground := Ground.data }, { on := 7, ground := Ground.chain }, { on := 7, ground := Ground.guard }], guard := some (7, false) } : Oper) (yielded RS24t c.tmps) = true := want_eq rfl hg
  have ec : ∀ v, c.eval (.const v) = v := fun _ => rfl
  have ef : ∀ f, c.eval (.func f) = .func (.func f) #[] #[] := fun _ => rfl
  refine does_call ho hw (f := 32) (args := #[.agg #[x0, x1, x2, x3, x4, x5], .agg #[y0, y1, y2, y3, y4, y5]]) ?_ (Calls.mono (hW.k1) fun e w' ⟨h1, h2⟩ => ⟨_, h1, rfl, h2⟩)
  generalize c.eval = ρ at *
  clear hF hb hW hw ho hg
  go_simp
set_option maxRecDepth 10000 in
theorem oS24t_17 (ga oa gb ob n ca cb k ii : Nat) (cm : Int) (x0 x1 x2 x3 x4 x5 y0 y1 y2 y3 y4 y5 z0 z1 z2 z3 z4 z5 : Value) (Q : Exit → Act → World → Prop) (c : Act) (w : World) (hb : BaseS24t ga oa gb ob n ca cb k ii cm x0 x1 x2 x3 x4 x5 y0 y1 y2 y3 y4 y5 z0 z1 z2 z3 z4 z5 c) (hW : WorldS24t ga oa gb ob n ca cb k ii cm x0 x1 x2 x3 x4 x5 y0 y1 y2 y3 y4 y5 z0 z1 z2 z3 z4 z5 w) (hF : ∀ q0 ∈ ancS24t 17, factsAt (factsS24t ga oa gb ob n ca cb k ii cm x0 x1 x2 x3 x4 x5 y0 y1 y2 y3 y4 y5 z0 z1 z2 z3 z4 z5) q0 (val RS24t c q0) w) :
    Does Tryz.prog RS24t Q (factsAt (factsS24t ga oa gb ob n ca cb k ii cm x0 x1 x2 x3 x4 x5 y0 y1 y2 y3 y4 y5 z0 z1 z2 z3 z4 z5)) 17 c w := by
  have ho : RS24t[17]? = some ({ dst := some 111, op := Op.unOp UnOp.not 4 (Operand.tmp 110), type := 4, pos := "outright.go:101", after := #[{ on := 16, ground := Ground.data }, { on := 7, ground := Ground.guard }], guard := some (7, false) } : Oper) := by kernel_rfl
  have e110 : c.eval (.tmp 110) = .bool true := fact_at (p := eqv (.bool true)) (by kernel_rfl) rfl (hF 16 (by decide))
  have hg : val RS24t c 7 = .bool false := hF 7 (by decide)
  have hw : Region.wanted ({ dst := some 111, op := Op.unOp UnOp.not 4 (Operand.tmp 110), type := 4, pos := "outright.go:101", after := #[{ on := 16, ground := Ground.data }, { on := 7, ground := Ground.guard }], guard := some (7, false) } : Oper) (yielded RS24t c.tmps) = true := want_eq rfl hg
  have ec : ∀ v, c.eval (.const v) = v := fun _ => rfl
  have ef : ∀ f, c.eval (.func f) = .func (.func f) #[] #[] := fun _ => rfl
  refine does_value ho hw (v := .bool false) ?_ rfl (Below.refl _ _)
  generalize c.eval = ρ at *
  clear hF hb hW hw ho hg
  go_simp
set_option maxRecDepth 10000 in
theorem oS24t_18 (ga oa gb ob n ca cb k ii : Nat) (cm : Int) (x0 x1 x2 x3 x4 x5 y0 y1 y2 y3 y4 y5 z0 z1 z2 z3 z4 z5 : Value) (Q : Exit → Act → World → Prop) (c : Act) (w : World) (hb : BaseS24t ga oa gb ob n ca cb k ii cm x0 x1 x2 x3 x4 x5 y0 y1 y2 y3 y4 y5 z0 z1 z2 z3 z4 z5 c) (hW : WorldS24t ga oa gb ob n ca cb k ii cm x0 x1 x2 x3 x4 x5 y0 y1 y2 y3 y4 y5 z0 z1 z2 z3 z4 z5 w) (hF : ∀ q0 ∈ ancS24t 18, factsAt (factsS24t ga oa gb ob n ca cb k ii cm x0 x1 x2 x3 x4 x5 y0 y1 y2 y3 y4 y5 z0 z1 z2 z3 z4 z5) q0 (val RS24t c q0) w) :
    Does Tryz.prog RS24t Q (factsAt (factsS24t ga oa gb ob n ca cb k ii cm x0 x1 x2 x3 x4 x5 y0 y1 y2 y3 y4 y5 z0 z1 z2 z3 z4 z5)) 18 c w := by
  have ho : RS24t[18]? = some ({ dst := some 112, op := Op.pick (Operand.tmp 101) (Operand.const (Value.bool true)) (Operand.tmp 111), type := 4, pos := "outright.go:101", after := #[{ on := 7, ground := Ground.data }, { on := 17, ground := Ground.data }], guard := none } : Oper) := by kernel_rfl
  have e101 : c.eval (.tmp 101) = .bool false := fact_at (p := eqv (.bool false)) (by kernel_rfl) rfl (hF 7 (by decide))
  have e111 : c.eval (.tmp 111) = .bool false := fact_at (p := eqv (.bool false)) (by kernel_rfl) rfl (hF 17 (by decide))
  have hw : Region.wanted ({ dst := some 112, op := Op.pick (Operand.tmp 101) (Operand.const (Value.bool true)) (Operand.tmp 111), type := 4, pos := "outright.go:101", after := #[{ on := 7, ground := Ground.data }, { on := 17, ground := Ground.data }], guard := none } : Oper) (yielded RS24t c.tmps) = true := want_none rfl
  have ec : ∀ v, c.eval (.const v) = v := fun _ => rfl
  have ef : ∀ f, c.eval (.func f) = .func (.func f) #[] #[] := fun _ => rfl
  refine does_value ho hw (v := .bool false) ?_ rfl (Below.refl _ _)
  generalize c.eval = ρ at *
  clear hF hb hW hw ho
  go_simp
set_option maxRecDepth 10000 in
theorem oS24t_19 (ga oa gb ob n ca cb k ii : Nat) (cm : Int) (x0 x1 x2 x3 x4 x5 y0 y1 y2 y3 y4 y5 z0 z1 z2 z3 z4 z5 : Value) (Q : Exit → Act → World → Prop) (c : Act) (w : World) (hb : BaseS24t ga oa gb ob n ca cb k ii cm x0 x1 x2 x3 x4 x5 y0 y1 y2 y3 y4 y5 z0 z1 z2 z3 z4 z5 c) (hW : WorldS24t ga oa gb ob n ca cb k ii cm x0 x1 x2 x3 x4 x5 y0 y1 y2 y3 y4 y5 z0 z1 z2 z3 z4 z5 w) (hF : ∀ q0 ∈ ancS24t 19, factsAt (factsS24t ga oa gb ob n ca cb k ii cm x0 x1 x2 x3 x4 x5 y0 y1 y2 y3 y4 y5 z0 z1 z2 z3 z4 z5) q0 (val RS24t c q0) w) :
    Does Tryz.prog RS24t Q (factsAt (factsS24t ga oa gb ob n ca cb k ii cm x0 x1 x2 x3 x4 x5 y0 y1 y2 y3 y4 y5 z0 z1 z2 z3 z4 z5)) 19 c w := by
  have ho : RS24t[19]? = some ({ dst := some 113, op := Op.move (Operand.tmp 112), type := 4, pos := "outright.go:101", after := #[{ on := 18, ground := Ground.data }, { on := 16, ground := Ground.chain }], guard := none } : Oper) := by kernel_rfl
  have e112 : c.eval (.tmp 112) = .bool false := fact_at (p := eqv (.bool false)) (by kernel_rfl) rfl (hF 18 (by decide))
  have hw : Region.wanted ({ dst := some 113, op := Op.move (Operand.tmp 112), type := 4, pos := "outright.go:101", after := #[{ on := 18, ground := Ground.data }, { on := 16, ground := Ground.chain }], guard := none } : Oper) (yielded RS24t c.tmps) = true := want_none rfl
  have ec : ∀ v, c.eval (.const v) = v := fun _ => rfl
  have ef : ∀ f, c.eval (.func f) = .func (.func f) #[] #[] := fun _ => rfl
  refine does_value ho hw (v := .bool false) ?_ rfl (Below.refl _ _)
  generalize c.eval = ρ at *
  clear hF hb hW hw ho
  go_simp
set_option maxRecDepth 10000 in
theorem oS24t_20 (ga oa gb ob n ca cb k ii : Nat) (cm : Int) (x0 x1 x2 x3 x4 x5 y0 y1 y2 y3 y4 y5 z0 z1 z2 z3 z4 z5 : Value) (Q : Exit → Act → World → Prop) (c : Act) (w : World) (hb : BaseS24t ga oa gb ob n ca cb k ii cm x0 x1 x2 x3 x4 x5 y0 y1 y2 y3 y4 y5 z0 z1 z2 z3 z4 z5 c) (hW : WorldS24t ga oa gb ob n ca cb k ii cm x0 x1 x2 x3 x4 x5 y0 y1 y2 y3 y4 y5 z0 z1 z2 z3 z4 z5 w) (hF : ∀ q0 ∈ ancS24t 20, factsAt (factsS24t ga oa gb ob n ca cb k ii cm x0 x1 x2 x3 x4 x5 y0 y1 y2 y3 y4 y5 z0 z1 z2 z3 z4 z5) q0 (val RS24t c q0) w) :
    Does Tryz.prog RS24t Q (factsAt (factsS24t ga oa gb ob n ca cb k ii cm x0 x1 x2 x3 x4 x5 y0 y1 y2 y3 y4 y5 z0 z1 z2 z3 z4 z5)) 20 c w := by
  have ho : RS24t[20]? = some ({ dst := some 114, op := Op.move (Operand.tmp 7), type := 3, pos := "outright.go:101", after := #[{ on := 19, ground := Ground.guard }], guard := some (19, false) } : Oper) := by kernel_rfl
  have e7 := hb.t7
  have hg : val RS24t c 19 = .bool false := hF 19 (by decide)
  have hw : Region.wanted ({ dst := some 114, op := Op.move (Operand.tmp 7), type := 3, pos := "outright.go:101", after := #[{ on := 19, ground := Ground.guard }], guard := some (19, false) } : Oper) (yielded RS24t c.tmps) = true := want_eq rfl hg
  have ec : ∀ v, c.eval (.const v) = v := fun _ => rfl
  have ef : ∀ f, c.eval (.func f) = .func (.func f) #[] #[] := fun _ => rfl
  refine does_value ho hw (v := .int .i64 ((ii + 1 : Nat) : Int)) ?_ rfl (Below.refl _ _)
  generalize c.eval = ρ at *
  clear hF hb hW hw ho hg
  go_simp
set_option maxRecDepth 10000 in
theorem oS24t_21 (ga oa gb ob n ca cb k ii : Nat) (cm : Int) (x0 x1 x2 x3 x4 x5 y0 y1 y2 y3 y4 y5 z0 z1 z2 z3 z4 z5 : Value) (Q : Exit → Act → World → Prop) (c : Act) (w : World) (hb : BaseS24t ga oa gb ob n ca cb k ii cm x0 x1 x2 x3 x4 x5 y0 y1 y2 y3 y4 y5 z0 z1 z2 z3 z4 z5 c) (hW : WorldS24t ga oa gb ob n ca cb k ii cm x0 x1 x2 x3 x4 x5 y0 y1 y2 y3 y4 y5 z0 z1 z2 z3 z4 z5 w) (hF : ∀ q0 ∈ ancS24t 21, factsAt (factsS24t ga oa gb ob n ca cb k ii cm x0 x1 x2 x3 x4 x5 y0 y1 y2 y3 y4 y5 z0 z1 z2 z3 z4 z5) q0 (val RS24t c q0) w) :
    Does Tryz.prog RS24t Q (factsAt (factsS24t ga oa gb ob n ca cb k ii cm x0 x1 x2 x3 x4 x5 y0 y1 y2 y3 y4 y5 z0 z1 z2 z3 z4 z5)) 21 c w := by
  have ho : RS24t[21]? = some ({ dst := some 115, op := Op.binOp BinOp.gtr 3 (Operand.tmp 114) (Operand.const (Value.int IntKind.i64 0)) 3, type := 4, pos := "outright.go:101", after := #[{ on := 20, ground := Ground.data }, { on := 19, ground := Ground.guard }], guard := some (19, false) } : Oper) := by kernel_rfl
  have e114 : c.eval (.tmp 114) = .int .i64 ((ii + 1 : Nat) : Int) := fact_at (p := eqv (.int .i64 ((ii + 1 : Nat) : Int))) (by kernel_rfl) rfl (hF 20 (by decide))
  have hg : val RS24t c 19 = .bool false := hF 19 (by decide)
  have hw : Region.wanted ({ dst := some 115, op := Op.binOp BinOp.gtr 3 (Operand.tmp 114) (Operand.const (Value.int IntKind.i64 0)) 3, type := 4, pos := "outright.go:101", after := #[{ on := 20, ground := Ground.data }, { on := 19, ground := Ground.guard }], guard := some (19, false) } : Oper) (yielded RS24t c.tmps) = true := want_eq rfl hg
  have ec : ∀ v, c.eval (.const v) = v := fun _ => rfl
  have ef : ∀ f, c.eval (.func f) = .func (.func f) #[] #[] := fun _ => rfl
  refine does_value ho hw (v := .bool true) ?_ rfl (Below.refl _ _)
  generalize c.eval = ρ at *
  clear hF hb hW hw ho hg
  go_simp
set_option maxRecDepth 10000 in
theorem oS24t_22 (ga oa gb ob n ca cb k ii : Nat) (cm : Int) (x0 x1 x2 x3 x4 x5 y0 y1 y2 y3 y4 y5 z0 z1 z2 z3 z4 z5 : Value) (Q : Exit → Act → World → Prop) (c : Act) (w : World) (hb : BaseS24t ga oa gb ob n ca cb k ii cm x0 x1 x2 x3 x4 x5 y0 y1 y2 y3 y4 y5 z0 z1 z2 z3 z4 z5 c) (hW : WorldS24t ga oa gb ob n ca cb k ii cm x0 x1 x2 x3 x4 x5 y0 y1 y2 y3 y4 y5 z0 z1 z2 z3 z4 z5 w) (hF : ∀ q0 ∈ ancS24t 22, factsAt (factsS24t ga oa gb ob n ca cb k ii cm x0 x1 x2 x3 x4 x5 y0 y1 y2 y3 y4 y5 z0 z1 z2 z3 z4 z5) q0 (val RS24t c q0) w) :
    Does Tryz.prog RS24t Q (factsAt (factsS24t ga oa gb ob n ca cb k ii cm x0 x1 x2 x3 x4 x5 y0 y1 y2 y3 y4 y5 z0 z1 z2 z3 z4 z5)) 22 c w := by
  have ho : RS24t[22]? = some ({ dst := some 116, op := Op.move (Operand.tmp 115), type := 4, pos := "outright.go:101", after := #[{ on := 21, ground := Ground.data }, { on := 19, ground := Ground.chain }, { on := 19, ground := Ground.guard }], guard := some (19, false) } : Oper) := by kernel_rfl
  have e115 : c.eval (.tmp 115) = .bool true := fact_at (p := eqv (.bool true)) (by kernel_rfl) rfl (hF 21 (by decide))
  have hg : val RS24t c 19 = .bool false := hF 19 (by decide)
  have hw : Region.wanted ({ dst := some 116, op := Op.move (Operand.tmp 115), type := 4, pos := "outright.go:101", after := #[{ on := 21, ground := Ground.data }, { on := 19, ground := Ground.chain }, { on := 19, ground := Ground.guard }], guard := some (19, false) } : Oper) (yielded RS24t c.tmps) = true := want_eq rfl hg
  have ec : ∀ v, c.eval (.const v) = v := fun _ => rfl
  have ef : ∀ f, c.eval (.func f) = .func (.func f) #[] #[] := fun _ => rfl
  refine does_value ho hw (v := .bool true) ?_ rfl (Below.refl _ _)
  generalize c.eval = ρ at *
  clear hF hb hW hw ho hg
  go_simp
set_option maxRecDepth 10000 in
theorem oS24t_23 (ga oa gb ob n ca cb k ii : Nat) (cm : Int) (x0 x1 x2 x3 x4 x5 y0 y1 y2 y3 y4 y5 z0 z1 z2 z3 z4 z5 : Value) (Q : Exit → Act → World → Prop) (c : Act) (w : World) (hb : BaseS24t ga oa gb ob n ca cb k ii cm x0 x1 x2 x3 x4 x5 y0 y1 y2 y3 y4 y5 z0 z1 z2 z3 z4 z5 c) (hW : WorldS24t ga oa gb ob n ca cb k ii cm x0 x1 x2 x3 x4 x5 y0 y1 y2 y3 y4 y5 z0 z1 z2 z3 z4 z5 w) (hF : ∀ q0 ∈ ancS24t 23, factsAt (factsS24t ga oa gb ob n ca cb k ii cm x0 x1 x2 x3 x4 x5 y0 y1 y2 y3 y4 y5 z0 z1 z2 z3 z4 z5) q0 (val RS24t c q0) w) :
    Does Tryz.prog RS24t Q (factsAt (factsS24t ga oa gb ob n ca cb k ii cm x0 x1 x2 x3 x4 x5 y0 y1 y2 y3 y4 y5 z0 z1 z2 z3 z4 z5)) 23 c w := by
  have ho : RS24t[23]? = some ({ dst := some 117, op := Op.move (Operand.tmp 5), type := 24, pos := "outright.go:101", after := #[{ on := 22, ground := Ground.guard }], guard := some (22, true) } : Oper) := by kernel_rfl
  have e5 := hb.t5
  have hg : val RS24t c 22 = .bool true := hF 22 (by decide)
  have hw : Region.wanted ({ dst := some 117, op := Op.move (Operand.tmp 5), type := 24, pos := "outright.go:101", after := #[{ on := 22, ground := Ground.guard }], guard := some (22, true) } : Oper) (yielded RS24t c.tmps) = true := want_eq rfl hg
  have ec : ∀ v, c.eval (.const v) = v := fun _ => rfl
  have ef : ∀ f, c.eval (.func f) = .func (.func f) #[] #[] := fun _ => rfl
  refine does_value ho hw (v := .slice (some ⟨ga, oa, none⟩) n ca) ?_ rfl (Below.refl _ _)
  generalize c.eval = ρ at *
  clear hF hb hW hw ho hg
  go_simp
set_option maxRecDepth 10000 in
theorem oS24t_24 (ga oa gb ob n ca cb k ii : Nat) (cm : Int) (x0 x1 x2 x3 x4 x5 y0 y1 y2 y3 y4 y5 z0 z1 z2 z3 z4 z5 : Value) (Q : Exit → Act → World → Prop) (c : Act) (w : World) (hb : BaseS24t ga oa gb ob n ca cb k ii cm x0 x1 x2 x3 x4 x5 y0 y1 y2 y3 y4 y5 z0 z1 z2 z3 z4 z5 c) (hW : WorldS24t ga oa gb ob n ca cb k ii cm x0 x1 x2 x3 x4 x5 y0 y1 y2 y3 y4 y5 z0 z1 z2 z3 z4 z5 w) (hF : ∀ q0 ∈ ancS24t 24, factsAt (factsS24t ga oa gb ob n ca cb k ii cm x0 x1 x2 x3 x4 x5 y0 y1 y2 y3 y4 y5 z0 z1 z2 z3 z4 z5) q0 (val RS24t c q0) w) :
    Does Tryz.prog RS24t Q (factsAt (factsS24t ga oa gb ob n ca cb k ii cm x0 x1 x2 x3 x4 x5 y0 y1 y2 y3 y4 y5 z0 z1 z2 z3 z4 z5)) 24 c w := by
  have ho : RS24t[24]? = some ({ dst := some 118, op := Op.move (Operand.tmp 7), type := 3, pos := "outright.go:101", after := #[{ on := 22, ground := Ground.guard }], guard := some (22, true) } : Oper) := by kernel_rfl
  have e7 := hb.t7
  have hg : val RS24t c 22 = .bool true := hF 22 (by decide)
  have hw : Region.wanted ({ dst := some 118, op := Op.move (Operand.tmp 7), type := 3, pos := "outright.go:101", after := #[{ on := 22, ground := Ground.guard }], guard := some (22, true) } : Oper) (yielded RS24t c.tmps) = true := want_eq rfl hg
  have ec : ∀ v, c.eval (.const v) = v := fun _ => rfl
  have ef : ∀ f, c.eval (.func f) = .func (.func f) #[] #[] := fun _ => rfl
  refine does_value ho hw (v := .int .i64 ((ii + 1 : Nat) : Int)) ?_ rfl (Below.refl _ _)
  generalize c.eval = ρ at *
  clear hF hb hW hw ho hg
  go_simp
set_option maxRecDepth 10000 in
theorem oS24t_25 (ga oa gb ob n ca cb k ii : Nat) (cm : Int) (x0 x1 x2 x3 x4 x5 y0 y1 y2 y3 y4 y5 z0 z1 z2 z3 z4 z5 : Value) (Q : Exit → Act → World → Prop) (c : Act) (w : World) (hb : BaseS24t ga oa gb ob n ca cb k ii cm x0 x1 x2 x3 x4 x5 y0 y1 y2 y3 y4 y5 z0 z1 z2 z3 z4 z5 c) (hW : WorldS24t ga oa gb ob n ca cb k ii cm x0 x1 x2 x3 x4 x5 y0 y1 y2 y3 y4 y5 z0 z1 z2 z3 z4 z5 w) (hF : ∀ q0 ∈ ancS24t 25, factsAt (factsS24t ga oa gb ob n ca cb k ii cm x0 x1 x2 x3 x4 x5 y0 y1 y2 y3 y4 y5 z0 z1 z2 z3 z4 z5) q0 (val RS24t c q0) w) :
    Does Tryz.prog RS24t Q (factsAt (factsS24t ga oa gb ob n ca cb k ii cm x0 x1 x2 x3 x4 x5 y0 y1 y2 y3 y4 y5 z0 z1 z2 z3 z4 z5)) 25 c w := by
  have ho : RS24t[25]? = some ({ dst := some 119, op := Op.binOp BinOp.sub 3 (Operand.tmp 118) (Operand.const (Value.int IntKind.i64 1)) 3, type := 3, pos := "outright.go:101", after := #[{ on := 24, ground := Ground.data }, { on := 22, ground := Ground.guard }], guard := some (22, true) } : Oper) := by kernel_rfl
  have e118 : c.eval (.tmp 118) = .int .i64 ((ii + 1 : Nat) : Int) := fact_at (p := eqv (.int .i64 ((ii + 1 : Nat) : Int))) (by kernel_rfl) rfl (hF 24 (by decide))
  have hg : val RS24t c 22 = .bool true := hF 22 (by decide)
  have hw : Region.wanted ({ dst := some 119, op := Op.binOp BinOp.sub 3 (Operand.tmp 118) (Operand.const (Value.int IntKind.i64 1)) 3, type := 3, pos := "outright.go:101", after := #[{ on := 24, ground := Ground.data }, { on := 22, ground := Ground.guard }], guard := some (22, true) } : Oper) (yielded RS24t c.tmps) = true := want_eq rfl hg
  have ec : ∀ v, c.eval (.const v) = v := fun _ => rfl
  have ef : ∀ f, c.eval (.func f) = .func (.func f) #[] #[] := fun _ => rfl
  have hi := hW.hi
  have hn := hW.hn
  refine does_value ho hw (v := .int .i64 (ii : Int)) ?_ rfl (Below.refl _ _)
  generalize c.eval = ρ at *
  clear hF hb hW hw ho hg
  go_simp
  simp [IntKind.wrap, IntKind.bits, IntKind.signed]
  omega
set_option maxRecDepth 10000 in
theorem oS24t_26 (ga oa gb ob n ca cb k ii : Nat) (cm : Int) (x0 x1 x2 x3 x4 x5 y0 y1 y2 y3 y4 y5 z0 z1 z2 z3 z4 z5 : Value) (Q : Exit → Act → World → Prop) (c : Act) (w : World) (hb : BaseS24t ga oa gb ob n ca cb k ii cm x0 x1 x2 x3 x4 x5 y0 y1 y2 y3 y4 y5 z0 z1 z2 z3 z4 z5 c) (hW : WorldS24t ga oa gb ob n ca cb k ii cm x0 x1 x2 x3 x4 x5 y0 y1 y2 y3 y4 y5 z0 z1 z2 z3 z4 z5 w) (hF : ∀ q0 ∈ ancS24t 26, factsAt (factsS24t ga oa gb ob n ca cb k ii cm x0 x1 x2 x3 x4 x5 y0 y1 y2 y3 y4 y5 z0 z1 z2 z3 z4 z5) q0 (val RS24t c q0) w) :
    Does Tryz.prog RS24t Q (factsAt (factsS24t ga oa gb ob n ca cb k ii cm x0 x1 x2 x3 x4 x5 y0 y1 y2 y3 y4 y5 z0 z1 z2 z3 z4 z5)) 26 c w := by
  have ho : RS24t[26]? = some ({ dst := some 120, op := Op.indexAddr 24 (Operand.tmp 117) (Operand.tmp 119), type := 0, pos := "outright.go:101", after := #[{ on := 23, ground := Ground.data }, { on := 25, ground := Ground.data }, { on := 22, ground := Ground.guard }], guard := some (22, true) } : Oper) := by kernel_rfl
  have e117 : c.eval (.tmp 117) = .slice (some ⟨ga, oa, none⟩) n ca := fact_at (p := eqv (.slice (some ⟨ga, oa, none⟩) n ca)) (by kernel_rfl) rfl (hF 23 (by decide))
  have e119 : c.eval (.tmp 119) = .int .i64 (ii : Int) := fact_at (p := eqv (.int .i64 (ii : Int))) (by kernel_rfl) rfl (hF 25 (by decide))
  have hg : val RS24t c 22 = .bool true := hF 22 (by decide)
  have hw : Region.wanted ({ dst := some 120, op := Op.indexAddr 24 (Operand.tmp 117) (Operand.tmp 119), type := 0, pos := "outright.go:101", after := #[{ on := 23, ground := Ground.data }, { on := 25, ground := Ground.data }, { on := 22, ground := Ground.guard }], guard := some (22, true) } : Oper) (yielded RS24t c.tmps) = true := want_eq rfl hg
  have ec : ∀ v, c.eval (.const v) = v := fun _ => rfl
  have ef : ∀ f, c.eval (.func f) = .func (.func f) #[] #[] := fun _ => rfl
  have hi := hW.hi
  refine does_value ho hw (v := .pointer (some ⟨ga, oa + ii * 6, none⟩)) ?_ rfl (Below.refl _ _)
  generalize c.eval = ρ at *
  clear hF hb hW hw ho hg
  go_simp
  intro h; omega
set_option maxRecDepth 10000 in
theorem oS24t_27 (ga oa gb ob n ca cb k ii : Nat) (cm : Int) (x0 x1 x2 x3 x4 x5 y0 y1 y2 y3 y4 y5 z0 z1 z2 z3 z4 z5 : Value) (Q : Exit → Act → World → Prop) (c : Act) (w : World) (hb : BaseS24t ga oa gb ob n ca cb k ii cm x0 x1 x2 x3 x4 x5 y0 y1 y2 y3 y4 y5 z0 z1 z2 z3 z4 z5 c) (hW : WorldS24t ga oa gb ob n ca cb k ii cm x0 x1 x2 x3 x4 x5 y0 y1 y2 y3 y4 y5 z0 z1 z2 z3 z4 z5 w) (hF : ∀ q0 ∈ ancS24t 27, factsAt (factsS24t ga oa gb ob n ca cb k ii cm x0 x1 x2 x3 x4 x5 y0 y1 y2 y3 y4 y5 z0 z1 z2 z3 z4 z5) q0 (val RS24t c q0) w) :
    Does Tryz.prog RS24t Q (factsAt (factsS24t ga oa gb ob n ca cb k ii cm x0 x1 x2 x3 x4 x5 y0 y1 y2 y3 y4 y5 z0 z1 z2 z3 z4 z5)) 27 c w := by
  have ho : RS24t[27]? = some ({ dst := some 121, op := Op.load 26 (Operand.tmp 120), type := 26, pos := "outright.go:101", after := #[{ on := 26, ground := Ground.data }, { on := 22, ground := Ground.guard }], guard := some (22, true) } : Oper) := by kernel_rfl
  have e120 : c.eval (.tmp 120) = .pointer (some ⟨ga, oa + ii * 6, none⟩) := fact_at (p := eqv (.pointer (some ⟨ga, oa + ii * 6, none⟩))) (by kernel_rfl) rfl (hF 26 (by decide))
  have hg : val RS24t c 22 = .bool true := hF 22 (by decide)
  have hw : Region.wanted ({ dst := some 121, op := Op.load 26 (Operand.tmp 120), type := 26, pos := "outright.go:101", after := #[{ on := 26, ground := Ground.data }, { on := 22, ground := Ground.guard }], guard := some (22, true) } : Oper) (yielded RS24t c.tmps) = true := want_eq rfl hg
  have ec : ∀ v, c.eval (.const v) = v := fun _ => rfl
  have ef : ∀ f, c.eval (.func f) = .func (.func f) #[] #[] := fun _ => rfl
  have wz0 := hW.wz0
  have wz1 := hW.wz1
  have wz2 := hW.wz2
  have wz3 := hW.wz3
  have wz4 := hW.wz4
  have wz5 := hW.wz5
  refine does_value ho hw (v := .agg #[z0, z1, z2, z3, z4, z5]) ?_ rfl (Below.refl _ _)
  generalize c.eval = ρ at *
  clear hF hb hW hw ho hg
  go_simp
set_option maxRecDepth 10000 in
theorem oS24t_28 (ga oa gb ob n ca cb k ii : Nat) (cm : Int) (x0 x1 x2 x3 x4 x5 y0 y1 y2 y3 y4 y5 z0 z1 z2 z3 z4 z5 : Value) (Q : Exit → Act → World → Prop) (c : Act) (w : World) (hb : BaseS24t ga oa gb ob n ca cb k ii cm x0 x1 x2 x3 x4 x5 y0 y1 y2 y3 y4 y5 z0 z1 z2 z3 z4 z5 c) (hW : WorldS24t ga oa gb ob n ca cb k ii cm x0 x1 x2 x3 x4 x5 y0 y1 y2 y3 y4 y5 z0 z1 z2 z3 z4 z5 w) (hF : ∀ q0 ∈ ancS24t 28, factsAt (factsS24t ga oa gb ob n ca cb k ii cm x0 x1 x2 x3 x4 x5 y0 y1 y2 y3 y4 y5 z0 z1 z2 z3 z4 z5) q0 (val RS24t c q0) w) :
    Does Tryz.prog RS24t Q (factsAt (factsS24t ga oa gb ob n ca cb k ii cm x0 x1 x2 x3 x4 x5 y0 y1 y2 y3 y4 y5 z0 z1 z2 z3 z4 z5)) 28 c w := by
  have ho : RS24t[28]? = some ({ dst := some 122, op := Op.move (Operand.tmp 5), type := 24, pos := "outright.go:101", after := #[{ on := 22, ground := Ground.guard }], guard := some (22, true) } : Oper) := by kernel_rfl
  have e5 := hb.t5
  have hg : val RS24t c 22 = .bool true := hF 22 (by decide)
  have hw : Region.wanted ({ dst := some 122, op := Op.move (Operand.tmp 5), type := 24, pos := "outright.go:101", after := #[{ on := 22, ground := Ground.guard }], guard := some (22, true) } : Oper) (yielded RS24t c.tmps) = true := want_eq rfl hg
  have ec : ∀ v, c.eval (.const v) = v := fun _ => rfl
  have ef : ∀ f, c.eval (.func f) = .func (.func f) #[] #[] := fun _ => rfl
  refine does_value ho hw (v := .slice (some ⟨ga, oa, none⟩) n ca) ?_ rfl (Below.refl _ _)
  generalize c.eval = ρ at *
  clear hF hb hW hw ho hg
  go_simp
set_option maxRecDepth 10000 in
theorem oS24t_29 (ga oa gb ob n ca cb k ii : Nat) (cm : Int) (x0 x1 x2 x3 x4 x5 y0 y1 y2 y3 y4 y5 z0 z1 z2 z3 z4 z5 : Value) (Q : Exit → Act → World → Prop) (c : Act) (w : World) (hb : BaseS24t ga oa gb ob n ca cb k ii cm x0 x1 x2 x3 x4 x5 y0 y1 y2 y3 y4 y5 z0 z1 z2 z3 z4 z5 c) (hW : WorldS24t ga oa gb ob n ca cb k ii cm x0 x1 x2 x3 x4 x5 y0 y1 y2 y3 y4 y5 z0 z1 z2 z3 z4 z5 w) (hF : ∀ q0 ∈ ancS24t 29, factsAt (factsS24t ga oa gb ob n ca cb k ii cm x0 x1 x2 x3 x4 x5 y0 y1 y2 y3 y4 y5 z0 z1 z2 z3 z4 z5) q0 (val RS24t c q0) w) :
    Does Tryz.prog RS24t Q (factsAt (factsS24t ga oa gb ob n ca cb k ii cm x0 x1 x2 x3 x4 x5 y0 y1 y2 y3 y4 y5 z0 z1 z2 z3 z4 z5)) 29 c w := by
  have ho : RS24t[29]? = some ({ dst := some 123, op := Op.move (Operand.tmp 7), type := 3, pos := "outright.go:101", after := #[{ on := 22, ground := Ground.guard }], guard := some (22, true) } : Oper) := by kernel_rfl
  have e7 := hb.t7
  have hg : val RS24t c 22 = .bool true := hF 22 (by decide)
  have hw : Region.wanted ({ dst := some 123, op := Op.move (Operand.tmp 7), type := 3, pos := "outright.go:101", after := #[{ on := 22, ground := Ground.guard }], guard := some (22, true) } : Oper) (yielded RS24t c.tmps) = true := want_eq rfl hg
  have ec : ∀ v, c.eval (.const v) = v := fun _ => rfl
  have ef : ∀ f, c.eval (.func f) = .func (.func f) #[] #[] := fun _ => rfl
  refine does_value ho hw (v := .int .i64 ((ii + 1 : Nat) : Int)) ?_ rfl (Below.refl _ _)
  generalize c.eval = ρ at *
  clear hF hb hW hw ho hg
  go_simp
set_option maxRecDepth 10000 in
theorem oS24t_30 (ga oa gb ob n ca cb k ii : Nat) (cm : Int) (x0 x1 x2 x3 x4 x5 y0 y1 y2 y3 y4 y5 z0 z1 z2 z3 z4 z5 : Value) (Q : Exit → Act → World → Prop) (c : Act) (w : World) (hb : BaseS24t ga oa gb ob n ca cb k ii cm x0 x1 x2 x3 x4 x5 y0 y1 y2 y3 y4 y5 z0 z1 z2 z3 z4 z5 c) (hW : WorldS24t ga oa gb ob n ca cb k ii cm x0 x1 x2 x3 x4 x5 y0 y1 y2 y3 y4 y5 z0 z1 z2 z3 z4 z5 w) (hF : ∀ q0 ∈ ancS24t 30, factsAt (factsS24t ga oa gb ob n ca cb k ii cm x0 x1 x2 x3 x4 x5 y0 y1 y2 y3 y4 y5 z0 z1 z2 z3 z4 z5) q0 (val RS24t c q0) w) :
    Does Tryz.prog RS24t Q (factsAt (factsS24t ga oa gb ob n ca cb k ii cm x0 x1 x2 x3 x4 x5 y0 y1 y2 y3 y4 y5 z0 z1 z2 z3 z4 z5)) 30 c w := by
  have ho : RS24t[30]? = some ({ dst := some 124, op := Op.indexAddr 24 (Operand.tmp 122) (Operand.tmp 123), type := 0, pos := "outright.go:101", after := #[{ on := 28, ground := Ground.data }, { on := 29, ground := Ground.data }, { on := 22, ground := Ground.guard }], guard := some (22, true) } : Oper) := by kernel_rfl
  have e122 : c.eval (.tmp 122) = .slice (some ⟨ga, oa, none⟩) n ca := fact_at (p := eqv (.slice (some ⟨ga, oa, none⟩) n ca)) (by kernel_rfl) rfl (hF 28 (by decide))
  have e123 : c.eval (.tmp 123) = .int .i64 ((ii + 1 : Nat) : Int) := fact_at (p := eqv (.int .i64 ((ii + 1 : Nat) : Int))) (by kernel_rfl) rfl (hF 29 (by decide))
  have hg : val RS24t c 22 = .bool true := hF 22 (by decide)
  have hw : Region.wanted ({ dst := some 124, op := Op.indexAddr 24 (Operand.tmp 122) (Operand.tmp 123), type := 0, pos := "outright.go:101", after := #[{ on := 28, ground := Ground.data }, { on := 29, ground := Ground.data }, { on := 22, ground := Ground.guard }], guard := some (22, true) } : Oper) (yielded RS24t c.tmps) = true := want_eq rfl hg
  have ec : ∀ v, c.eval (.const v) = v := fun _ => rfl
  have ef : ∀ f, c.eval (.func f) = .func (.func f) #[] #[] := fun _ => rfl
  have hi := hW.hi
  refine does_value ho hw (v := .pointer (some ⟨ga, oa + (ii + 1) * 6, none⟩)) ?_ rfl (Below.refl _ _)
  generalize c.eval = ρ at *
  clear hF hb hW hw ho hg
  go_simp
  intro h; omega
set_option maxRecDepth 10000 in
theorem oS24t_31 (ga oa gb ob n ca cb k ii : Nat) (cm : Int) (x0 x1 x2 x3 x4 x5 y0 y1 y2 y3 y4 y5 z0 z1 z2 z3 z4 z5 : Value) (Q : Exit → Act → World → Prop) (c : Act) (w : World) (hb : BaseS24t ga oa gb ob n ca cb k ii cm x0 x1 x2 x3 x4 x5 y0 y1 y2 y3 y4 y5 z0 z1 z2 z3 z4 z5 c) (hW : WorldS24t ga oa gb ob n ca cb k ii cm x0 x1 x2 x3 x4 x5 y0 y1 y2 y3 y4 y5 z0 z1 z2 z3 z4 z5 w) (hF : ∀ q0 ∈ ancS24t 31, factsAt (factsS24t ga oa gb ob n ca cb k ii cm x0 x1 x2 x3 x4 x5 y0 y1 y2 y3 y4 y5 z0 z1 z2 z3 z4 z5) q0 (val RS24t c q0) w) :
    Does Tryz.prog RS24t Q (factsAt (factsS24t ga oa gb ob n ca cb k ii cm x0 x1 x2 x3 x4 x5 y0 y1 y2 y3 y4 y5 z0 z1 z2 z3 z4 z5)) 31 c w := by
  have ho : RS24t[31]? = some ({ dst := some 125, op := Op.load 26 (Operand.tmp 124), type := 26, pos := "outright.go:101", after := #[{ on := 30, ground := Ground.data }, { on := 22, ground := Ground.guard }], guard := some (22, true) } : Oper) := by kernel_rfl
  have e124 : c.eval (.tmp 124) = .pointer (some ⟨ga, oa + (ii + 1) * 6, none⟩) := fact_at (p := eqv (.pointer (some ⟨ga, oa + (ii + 1) * 6, none⟩))) (by kernel_rfl) rfl (hF 30 (by decide))
  have hg : val RS24t c 22 = .bool true := hF 22 (by decide)
  have hw : Region.wanted ({ dst := some 125, op := Op.load 26 (Operand.tmp 124), type := 26, pos := "outright.go:101", after := #[{ on := 30, ground := Ground.data }, { on := 22, ground := Ground.guard }], guard := some (22, true) } : Oper) (yielded RS24t c.tmps) = true := want_eq rfl hg
  have ec : ∀ v, c.eval (.const v) = v := fun _ => rfl
  have ef : ∀ f, c.eval (.func f) = .func (.func f) #[] #[] := fun _ => rfl
  have wx0 := hW.wx0
  have wx1 := hW.wx1
  have wx2 := hW.wx2
  have wx3 := hW.wx3
  have wx4 := hW.wx4
  have wx5 := hW.wx5
  refine does_value ho hw (v := .agg #[x0, x1, x2, x3, x4, x5]) ?_ rfl (Below.refl _ _)
  generalize c.eval = ρ at *
  clear hF hb hW hw ho hg
  go_simp
set_option maxRecDepth 10000 in
theorem oS24t_32 (ga oa gb ob n ca cb k ii : Nat) (cm : Int) (x0 x1 x2 x3 x4 x5 y0 y1 y2 y3 y4 y5 z0 z1 z2 z3 z4 z5 : Value) (Q : Exit → Act → World → Prop) (c : Act) (w : World) (hb : BaseS24t ga oa gb ob n ca cb k ii cm x0 x1 x2 x3 x4 x5 y0 y1 y2 y3 y4 y5 z0 z1 z2 z3 z4 z5 c) (hW : WorldS24t ga oa gb ob n ca cb k ii cm x0 x1 x2 x3 x4 x5 y0 y1 y2 y3 y4 y5 z0 z1 z2 z3 z4 z5 w) (hF : ∀ q0 ∈ ancS24t 32, factsAt (factsS24t ga oa gb ob n ca cb k ii cm x0 x1 x2 x3 x4 x5 y0 y1 y2 y3 y4 y5 z0 z1 z2 z3 z4 z5) q0 (val RS24t c q0) w) :
    Does Tryz.prog RS24t Q (factsAt (factsS24t ga oa gb ob n ca cb k ii cm x0 x1 x2 x3 x4 x5 y0 y1 y2 y3 y4 y5 z0 z1 z2 z3 z4 z5)) 32 c w := by
  have ho : RS24t[32]? = some ({ dst := some 126, op := Op.call { callee := Callee.value (Operand.func 31), args := #[Operand.tmp 121, Operand.tmp 125], argTypes := #[26, 26] }, type := 3, pos := "outright.go:101", after := #[{ on := 27, ground := Ground.data }, { on := 31, ground := Ground.data }, { on := 22, ground := Ground.chain }, { on := 22, ground := Ground.guard }], guard := some (22, true) } : Oper) := by kernel_rfl
  have e121 : c.eval (.tmp 121) = .agg #[z0, z1, z2, z3, z4, z5] := fact_at (p := eqv (.agg #[z0, z1, z2, z3, z4, z5])) (by kernel_rfl) rfl (hF 27 (by decide))
  have e125 : c.eval (.tmp 125) = .agg #[x0, x1, x2, x3, x4, x5] := fact_at (p := eqv (.agg #[x0, x1, x2, x3, x4, x5])) (by kernel_rfl) rfl (hF 31 (by decide))
  have hg : val RS24t c 22 = .bool true := hF 22 (by decide)
  have hw : Region.wanted ({ dst := some 126, op := Op.call { callee := Callee.value (Operand.func 31), args := #[Operand.tmp 121, Operand.tmp 125], argTypes := #[26, 26] }, type := 3, pos := "outright.go:101", after := #[{ on := 27, ground := Ground.data }, { on := 31, ground := Ground.data }, { on := 22, ground := Ground.chain }, { on := 22, ground := Ground.guard }], guard := some (22, true) } : Oper) (yielded RS24t c.tmps) = true := want_eq rfl hg
  have ec : ∀ v, c.eval (.const v) = v := fun _ => rfl
  have ef : ∀ f, c.eval (.func f) = .func (.func f) #[] #[] := fun _ => rfl
  refine does_call ho hw (f := 31) (args := #[.agg #[z0, z1, z2, z3, z4, z5], .agg #[x0, x1, x2, x3, x4, x5]]) ?_ (Calls.mono (hW.k2) fun e w' ⟨h1, h2⟩ => ⟨_, h1, rfl, h2⟩)
  generalize c.eval = ρ at *
  clear hF hb hW hw ho hg
  go_simp
set_option maxRecDepth 10000 in
theorem oS24t_33 (ga oa gb ob n ca cb k ii : Nat) (cm : Int) (x0 x1 x2 x3 x4 x5 y0 y1 y2 y3 y4 y5 z0 z1 z2 z3 z4 z5 : Value) (Q : Exit → Act → World → Prop) (c : Act) (w : World) (hb : BaseS24t ga oa gb ob n ca cb k ii cm x0 x1 x2 x3 x4 x5 y0 y1 y2 y3 y4 y5 z0 z1 z2 z3 z4 z5 c) (hW : WorldS24t ga oa gb ob n ca cb k ii cm x0 x1 x2 x3 x4 x5 y0 y1 y2 y3 y4 y5 z0 z1 z2 z3 z4 z5 w) (hF : ∀ q0 ∈ ancS24t 33, factsAt (factsS24t ga oa gb ob n ca cb k ii cm x0 x1 x2 x3 x4 x5 y0 y1 y2 y3 y4 y5 z0 z1 z2 z3 z4 z5) q0 (val RS24t c q0) w) :
    Does Tryz.prog RS24t Q (factsAt (factsS24t ga oa gb ob n ca cb k ii cm x0 x1 x2 x3 x4 x5 y0 y1 y2 y3 y4 y5 z0 z1 z2 z3 z4 z5)) 33 c w := by
  have ho : RS24t[33]? = some ({ dst := some 127, op := Op.binOp BinOp.gtr 3 (Operand.tmp 126) (Operand.const (Value.int IntKind.i64 0)) 3, type := 4, pos := "outright.go:101", after := #[{ on := 32, ground := Ground.data }, { on := 22, ground := Ground.guard }], guard := some (22, true) } : Oper) := by kernel_rfl
  have e126 : c.eval (.tmp 126) = .int .i64 cm := fact_at (p := eqv (.int .i64 cm)) (by kernel_rfl) rfl (hF 32 (by decide))
  have hg : val RS24t c 22 = .bool true := hF 22 (by decide)
  have hw : Region.wanted ({ dst := some 127, op := Op.binOp BinOp.gtr 3 (Operand.tmp 126) (Operand.const (Value.int IntKind.i64 0)) 3, type := 4, pos := "outright.go:101", after := #[{ on := 32, ground := Ground.data }, { on := 22, ground := Ground.guard }], guard := some (22, true) } : Oper) (yielded RS24t c.tmps) = true := want_eq rfl hg
  have ec : ∀ v, c.eval (.const v) = v := fun _ => rfl
  have ef : ∀ f, c.eval (.func f) = .func (.func f) #[] #[] := fun _ => rfl
  have hcm := hW.hcm
  refine does_value ho hw (v := .bool false) ?_ rfl (Below.refl _ _)
  generalize c.eval = ρ at *
  clear hF hb hW hw ho hg
  go_simp
set_option maxRecDepth 10000 in
theorem oS24t_34 (ga oa gb ob n ca cb k ii : Nat) (cm : Int) (x0 x1 x2 x3 x4 x5 y0 y1 y2 y3 y4 y5 z0 z1 z2 z3 z4 z5 : Value) (Q : Exit → Act → World → Prop) (c : Act) (w : World) (hb : BaseS24t ga oa gb ob n ca cb k ii cm x0 x1 x2 x3 x4 x5 y0 y1 y2 y3 y4 y5 z0 z1 z2 z3 z4 z5 c) (hW : WorldS24t ga oa gb ob n ca cb k ii cm x0 x1 x2 x3 x4 x5 y0 y1 y2 y3 y4 y5 z0 z1 z2 z3 z4 z5 w) (hF : ∀ q0 ∈ ancS24t 34, factsAt (factsS24t ga oa gb ob n ca cb k ii cm x0 x1 x2 x3 x4 x5 y0 y1 y2 y3 y4 y5 z0 z1 z2 z3 z4 z5) q0 (val RS24t c q0) w) :
    Does Tryz.prog RS24t Q (factsAt (factsS24t ga oa gb ob n ca cb k ii cm x0 x1 x2 x3 x4 x5 y0 y1 y2 y3 y4 y5 z0 z1 z2 z3 z4 z5)) 34 c w := by
  have ho : RS24t[34]? = some ({ dst := some 128, op := Op.pick (Operand.tmp 116) (Operand.tmp 127) (Operand.const (Value.bool false)), type := 4, pos := "outright.go:101", after := #[{ on := 22, ground := Ground.data }, { on := 33, ground := Ground.data }, { on := 19, ground := Ground.guard }], guard := some (19, false) } : Oper) := by kernel_rfl
  have e116 : c.eval (.tmp 116) = .bool true := fact_at (p := eqv (.bool true)) (by kernel_rfl) rfl (hF 22 (by decide))
  have e127 : c.eval (.tmp 127) = .bool false := fact_at (p := eqv (.bool false)) (by kernel_rfl) rfl (hF 33 (by decide))
  have hg : val RS24t c 19 = .bool false := hF 19 (by decide)
  have hw : Region.wanted ({ dst := some 128, op := Op.pick (Operand.tmp 116) (Operand.tmp 127) (Operand.const (Value.bool false)), type := 4, pos := "outright.go:101", after := #[{ on := 22, ground := Ground.data }, { on := 33, ground := Ground.data }, { on := 19, ground := Ground.guard }], guard := some (19, false) } : Oper) (yielded RS24t c.tmps) = true := want_eq rfl hg
  have ec : ∀ v, c.eval (.const v) = v := fun _ => rfl
  have ef : ∀ f, c.eval (.func f) = .func (.func f) #[] #[] := fun _ => rfl
  refine does_value ho hw (v := .bool false) ?_ rfl (Below.refl _ _)
  generalize c.eval = ρ at *
  clear hF hb hW hw ho hg
  go_simp
set_option maxRecDepth 10000 in
theorem oS24t_35 (ga oa gb ob n ca cb k ii : Nat) (cm : Int) (x0 x1 x2 x3 x4 x5 y0 y1 y2 y3 y4 y5 z0 z1 z2 z3 z4 z5 : Value) (Q : Exit → Act → World → Prop) (c : Act) (w : World) (hb : BaseS24t ga oa gb ob n ca cb k ii cm x0 x1 x2 x3 x4 x5 y0 y1 y2 y3 y4 y5 z0 z1 z2 z3 z4 z5 c) (hW : WorldS24t ga oa gb ob n ca cb k ii cm x0 x1 x2 x3 x4 x5 y0 y1 y2 y3 y4 y5 z0 z1 z2 z3 z4 z5 w) (hF : ∀ q0 ∈ ancS24t 35, factsAt (factsS24t ga oa gb ob n ca cb k ii cm x0 x1 x2 x3 x4 x5 y0 y1 y2 y3 y4 y5 z0 z1 z2 z3 z4 z5) q0 (val RS24t c q0) w) :
    Does Tryz.prog RS24t Q (factsAt (factsS24t ga oa gb ob n ca cb k ii cm x0 x1 x2 x3 x4 x5 y0 y1 y2 y3 y4 y5 z0 z1 z2 z3 z4 z5)) 35 c w := by
  have ho : RS24t[35]? = some ({ dst := some 129, op := Op.pick (Operand.tmp 113) (Operand.const (Value.bool true)) (Operand.tmp 128), type := 4, pos := "outright.go:101", after := #[{ on := 19, ground := Ground.data }, { on := 34, ground := Ground.data }], guard := none } : Oper) := by kernel_rfl
  have e113 : c.eval (.tmp 113) = .bool false := fact_at (p := eqv (.bool false)) (by kernel_rfl) rfl (hF 19 (by decide))
  have e128 : c.eval (.tmp 128) = .bool false := fact_at (p := eqv (.bool false)) (by kernel_rfl) rfl (hF 34 (by decide))
  have hw : Region.wanted ({ dst := some 129, op := Op.pick (Operand.tmp 113) (Operand.const (Value.bool true)) (Operand.tmp 128), type := 4, pos := "outright.go:101", after := #[{ on := 19, ground := Ground.data }, { on := 34, ground := Ground.data }], guard := none } : Oper) (yielded RS24t c.tmps) = true := want_none rfl
  have ec : ∀ v, c.eval (.const v) = v := fun _ => rfl
  have ef : ∀ f, c.eval (.func f) = .func (.func f) #[] #[] := fun _ => rfl
  refine does_value ho hw (v := .bool false) ?_ rfl (Below.refl _ _)
  generalize c.eval = ρ at *
  clear hF hb hW hw ho
  go_simp
theorem stableS24t (ga oa gb ob n ca cb k ii : Nat) (cm : Int) (x0 x1 x2 x3 x4 x5 y0 y1 y2 y3 y4 y5 z0 z1 z2 z3 z4 z5 : Value) : ∀ pr ∈ factsS24t ga oa gb ob n ca cb k ii cm x0 x1 x2 x3 x4 x5 y0 y1 y2 y3 y4 y5 z0 z1 z2 z3 z4 z5, Stable pr := by
  unfold factsS24t
  refine List.forall_mem_cons.2 ⟨eqv_stable _, ?_⟩
  refine List.forall_mem_cons.2 ⟨eqv_stable _, ?_⟩
  refine List.forall_mem_cons.2 ⟨eqv_stable _, ?_⟩
  refine List.forall_mem_cons.2 ⟨eqv_stable _, ?_⟩
  refine List.forall_mem_cons.2 ⟨eqv_stable _, ?_⟩
  refine List.forall_mem_cons.2 ⟨eqv_stable _, ?_⟩
  refine List.forall_mem_cons.2 ⟨eqv_stable _, ?_⟩
  refine List.forall_mem_cons.2 ⟨eqv_stable _, ?_⟩
  refine List.forall_mem_cons.2 ⟨eqv_stable _, ?_⟩
  refine List.forall_mem_cons.2 ⟨eqv_stable _, ?_⟩
  refine List.forall_mem_cons.2 ⟨eqv_stable _, ?_⟩
  refine List.forall_mem_cons.2 ⟨eqv_stable _, ?_⟩
  refine List.forall_mem_cons.2 ⟨eqv_stable _, ?_⟩
  refine List.forall_mem_cons.2 ⟨eqv_stable _, ?_⟩
  refine List.forall_mem_cons.2 ⟨eqv_stable _, ?_⟩
  refine List.forall_mem_cons.2 ⟨eqv_stable _, ?_⟩
  refine List.forall_mem_cons.2 ⟨eqv_stable _, ?_⟩
  refine List.forall_mem_cons.2 ⟨eqv_stable _, ?_⟩
  refine List.forall_mem_cons.2 ⟨eqv_stable _, ?_⟩
  refine List.forall_mem_cons.2 ⟨eqv_stable _, ?_⟩
  refine List.forall_mem_cons.2 ⟨eqv_stable _, ?_⟩
  refine List.forall_mem_cons.2 ⟨eqv_stable _, ?_⟩
  refine List.forall_mem_cons.2 ⟨eqv_stable _, ?_⟩
  refine List.forall_mem_cons.2 ⟨eqv_stable _, ?_⟩
  refine List.forall_mem_cons.2 ⟨eqv_stable _, ?_⟩
  refine List.forall_mem_cons.2 ⟨eqv_stable _, ?_⟩
  refine List.forall_mem_cons.2 ⟨eqv_stable _, ?_⟩
  refine List.forall_mem_cons.2 ⟨eqv_stable _, ?_⟩
  refine List.forall_mem_cons.2 ⟨eqv_stable _, ?_⟩
  refine List.forall_mem_cons.2 ⟨eqv_stable _, ?_⟩
  refine List.forall_mem_cons.2 ⟨eqv_stable _, ?_⟩
  refine List.forall_mem_cons.2 ⟨eqv_stable _, ?_⟩
  refine List.forall_mem_cons.2 ⟨eqv_stable _, ?_⟩
  refine List.forall_mem_cons.2 ⟨eqv_stable _, ?_⟩
  refine List.forall_mem_cons.2 ⟨eqv_stable _, ?_⟩
  refine List.forall_mem_cons.2 ⟨eqv_stable _, ?_⟩
  exact List.forall_mem_nil _
set_option maxRecDepth 100000 in
theorem allS24t (ga oa gb ob n ca cb k ii : Nat) (cm : Int) (x0 x1 x2 x3 x4 x5 y0 y1 y2 y3 y4 y5 z0 z1 z2 z3 z4 z5 : Value) (Q : Exit → Act → World → Prop) : ∀ i, i < 36 → (fun i => ∀ c w, BaseS24t ga oa gb ob n ca cb k ii cm x0 x1 x2 x3 x4 x5 y0 y1 y2 y3 y4 y5 z0 z1 z2 z3 z4 z5 c → WorldS24t ga oa gb ob n ca cb k ii cm x0 x1 x2 x3 x4 x5 y0 y1 y2 y3 y4 y5 z0 z1 z2 z3 z4 z5 w → (∀ q0 ∈ ancS24t i, factsAt (factsS24t ga oa gb ob n ca cb k ii cm x0 x1 x2 x3 x4 x5 y0 y1 y2 y3 y4 y5 z0 z1 z2 z3 z4 z5) q0 (val RS24t c q0) w) → Does Tryz.prog RS24t Q (factsAt (factsS24t ga oa gb ob n ca cb k ii cm x0 x1 x2 x3 x4 x5 y0 y1 y2 y3 y4 y5 z0 z1 z2 z3 z4 z5)) i c w) i := by
  refine below_succ ?_ (fun c w => oS24t_35 ga oa gb ob n ca cb k ii cm x0 x1 x2 x3 x4 x5 y0 y1 y2 y3 y4 y5 z0 z1 z2 z3 z4 z5 Q c w)
  refine below_succ ?_ (fun c w => oS24t_34 ga oa gb ob n ca cb k ii cm x0 x1 x2 x3 x4 x5 y0 y1 y2 y3 y4 y5 z0 z1 z2 z3 z4 z5 Q c w)
  refine below_succ ?_ (fun c w => oS24t_33 ga oa gb ob n ca cb k ii cm x0 x1 x2 x3 x4 x5 y0 y1 y2 y3 y4 y5 z0 z1 z2 z3 z4 z5 Q c w)
  refine below_succ ?_ (fun c w => oS24t_32 ga oa gb ob n ca cb k ii cm x0 x1 x2 x3 x4 x5 y0 y1 y2 y3 y4 y5 z0 z1 z2 z3 z4 z5 Q c w)
  refine below_succ ?_ (fun c w => oS24t_31 ga oa gb ob n ca cb k ii cm x0 x1 x2 x3 x4 x5 y0 y1 y2 y3 y4 y5 z0 z1 z2 z3 z4 z5 Q c w)
  refine below_succ ?_ (fun c w => oS24t_30 ga oa gb ob n ca cb k ii cm x0 x1 x2 x3 x4 x5 y0 y1 y2 y3 y4 y5 z0 z1 z2 z3 z4 z5 Q c w)
  refine below_succ ?_ (fun c w => oS24t_29 ga oa gb ob n ca cb k ii cm x0 x1 x2 x3 x4 x5 y0 y1 y2 y3 y4 y5 z0 z1 z2 z3 z4 z5 Q c w)
  refine below_succ ?_ (fun c w => oS24t_28 ga oa gb ob n ca cb k ii cm x0 x1 x2 x3 x4 x5 y0 y1 y2 y3 y4 y5 z0 z1 z2 z3 z4 z5 Q c w)
  refine below_succ ?_ (fun c w => oS24t_27 ga oa gb ob n ca cb k ii cm x0 x1 x2 x3 x4 x5 y0 y1 y2 y3 y4 y5 z0 z1 z2 z3 z4 z5 Q c w)
  refine below_succ ?_ (fun c w => oS24t_26 ga oa gb ob n ca cb k ii cm x0 x1 x2 x3 x4 x5 y0 y1 y2 y3 y4 y5 z0 z1 z2 z3 z4 z5 Q c w)
  refine below_succ ?_ (fun c w => oS24t_25 ga oa gb ob n ca cb k ii cm x0 x1 x2 x3 x4 x5 y0 y1 y2 y3 y4 y5 z0 z1 z2 z3 z4 z5 Q c w)
  refine below_succ ?_ (fun c w => oS24t_24 ga oa gb ob n ca cb k ii cm x0 x1 x2 x3 x4 x5 y0 y1 y2 y3 y4 y5 z0 z1 z2 z3 z4 z5 Q c w)
  refine below_succ ?_ (fun c w => oS24t_23 ga oa gb ob n ca cb k ii cm x0 x1 x2 x3 x4 x5 y0 y1 y2 y3 y4 y5 z0 z1 z2 z3 z4 z5 Q c w)
  refine below_succ ?_ (fun c w => oS24t_22 ga oa gb ob n ca cb k ii cm x0 x1 x2 x3 x4 x5 y0 y1 y2 y3 y4 y5 z0 z1 z2 z3 z4 z5 Q c w)
  refine below_succ ?_ (fun c w => oS24t_21 ga oa gb ob n ca cb k ii cm x0 x1 x2 x3 x4 x5 y0 y1 y2 y3 y4 y5 z0 z1 z2 z3 z4 z5 Q c w)
  refine below_succ ?_ (fun c w => oS24t_20 ga oa gb ob n ca cb k ii cm x0 x1 x2 x3 x4 x5 y0 y1 y2 y3 y4 y5 z0 z1 z2 z3 z4 z5 Q c w)
  refine below_succ ?_ (fun c w => oS24t_19 ga oa gb ob n ca cb k ii cm x0 x1 x2 x3 x4 x5 y0 y1 y2 y3 y4 y5 z0 z1 z2 z3 z4 z5 Q c w)
  refine below_succ ?_ (fun c w => oS24t_18 ga oa gb ob n ca cb k ii cm x0 x1 x2 x3 x4 x5 y0 y1 y2 y3 y4 y5 z0 z1 z2 z3 z4 z5 Q c w)
  refine below_succ ?_ (fun c w => oS24t_17 ga oa gb ob n ca cb k ii cm x0 x1 x2 x3 x4 x5 y0 y1 y2 y3 y4 y5 z0 z1 z2 z3 z4 z5 Q c w)
  refine below_succ ?_ (fun c w => oS24t_16 ga oa gb ob n ca cb k ii cm x0 x1 x2 x3 x4 x5 y0 y1 y2 y3 y4 y5 z0 z1 z2 z3 z4 z5 Q c w)
  refine below_succ ?_ (fun c w => oS24t_15 ga oa gb ob n ca cb k ii cm x0 x1 x2 x3 x4 x5 y0 y1 y2 y3 y4 y5 z0 z1 z2 z3 z4 z5 Q c w)
  refine below_succ ?_ (fun c w => oS24t_14 ga oa gb ob n ca cb k ii cm x0 x1 x2 x3 x4 x5 y0 y1 y2 y3 y4 y5 z0 z1 z2 z3 z4 z5 Q c w)
  refine below_succ ?_ (fun c w => oS24t_13 ga oa gb ob n ca cb k ii cm x0 x1 x2 x3 x4 x5 y0 y1 y2 y3 y4 y5 z0 z1 z2 z3 z4 z5 Q c w)
  refine below_succ ?_ (fun c w => oS24t_12 ga oa gb ob n ca cb k ii cm x0 x1 x2 x3 x4 x5 y0 y1 y2 y3 y4 y5 z0 z1 z2 z3 z4 z5 Q c w)
  refine below_succ ?_ (fun c w => oS24t_11 ga oa gb ob n ca cb k ii cm x0 x1 x2 x3 x4 x5 y0 y1 y2 y3 y4 y5 z0 z1 z2 z3 z4 z5 Q c w)
  refine below_succ ?_ (fun c w => oS24t_10 ga oa gb ob n ca cb k ii cm x0 x1 x2 x3 x4 x5 y0 y1 y2 y3 y4 y5 z0 z1 z2 z3 z4 z5 Q c w)
  refine below_succ ?_ (fun c w => oS24t_9 ga oa gb ob n ca cb k ii cm x0 x1 x2 x3 x4 x5 y0 y1 y2 y3 y4 y5 z0 z1 z2 z3 z4 z5 Q c w)
  refine below_succ ?_ (fun c w => oS24t_8 ga oa gb ob n ca cb k ii cm x0 x1 x2 x3 x4 x5 y0 y1 y2 y3 y4 y5 z0 z1 z2 z3 z4 z5 Q c w)
  refine below_succ ?_ (fun c w => oS24t_7 ga oa gb ob n ca cb k ii cm x0 x1 x2 x3 x4 x5 y0 y1 y2 y3 y4 y5 z0 z1 z2 z3 z4 z5 Q c w)
  refine below_succ ?_ (fun c w => oS24t_6 ga oa gb ob n ca cb k ii cm x0 x1 x2 x3 x4 x5 y0 y1 y2 y3 y4 y5 z0 z1 z2 z3 z4 z5 Q c w)
  refine below_succ ?_ (fun c w => oS24t_5 ga oa gb ob n ca cb k ii cm x0 x1 x2 x3 x4 x5 y0 y1 y2 y3 y4 y5 z0 z1 z2 z3 z4 z5 Q c w)
  refine below_succ ?_ (fun c w => oS24t_4 ga oa gb ob n ca cb k ii cm x0 x1 x2 x3 x4 x5 y0 y1 y2 y3 y4 y5 z0 z1 z2 z3 z4 z5 Q c w)
  refine below_succ ?_ (fun c w => oS24t_3 ga oa gb ob n ca cb k ii cm x0 x1 x2 x3 x4 x5 y0 y1 y2 y3 y4 y5 z0 z1 z2 z3 z4 z5 Q c w)
  refine below_succ ?_ (fun c w => oS24t_2 ga oa gb ob n ca cb k ii cm x0 x1 x2 x3 x4 x5 y0 y1 y2 y3 y4 y5 z0 z1 z2 z3 z4 z5 Q c w)
  refine below_succ ?_ (fun c w => oS24t_1 ga oa gb ob n ca cb k ii cm x0 x1 x2 x3 x4 x5 y0 y1 y2 y3 y4 y5 z0 z1 z2 z3 z4 z5 Q c w)
  refine below_succ ?_ (fun c w => oS24t_0 ga oa gb ob n ca cb k ii cm x0 x1 x2 x3 x4 x5 y0 y1 y2 y3 y4 y5 z0 z1 z2 z3 z4 z5 Q c w)
  exact below_zero
theorem regionS24t (ga oa gb ob n ca cb k ii : Nat) (cm : Int) (x0 x1 x2 x3 x4 x5 y0 y1 y2 y3 y4 y5 z0 z1 z2 z3 z4 z5 : Value) (Q : Exit → Act → World → Prop) (base : Act) (w0 : World) (hsz : base.tmps.size = 142) (hb : BaseS24t ga oa gb ob n ca cb k ii cm x0 x1 x2 x3 x4 x5 y0 y1 y2 y3 y4 y5 z0 z1 z2 z3 z4 z5 base)
    (hW : ∀ w, Below w0.heap.size w0 w → WorldS24t ga oa gb ob n ca cb k ii cm x0 x1 x2 x3 x4 x5 y0 y1 y2 y3 y4 y5 z0 z1 z2 z3 z4 z5 w) (hQ : ∀ c w, Same RS24t base c → Below w0.heap.size w0 w → c.eval (.tmp 129) = .bool false → Q .normal c w) : (Code.region 24 RS24t true).wp Tryz.prog Q base w0 := by
  refine facts_rule (A := ancS24t) (F := factsAt (factsS24t ga oa gb ob n ca cb k ii cm x0 x1 x2 x3 x4 x5 y0 y1 y2 y3 y4 y5 z0 z1 z2 z3 z4 z5)) (by kernel_rfl) (by rw [hsz]; kernel_rfl) (fun i v w w' => factsAt_stable (stableS24t ga oa gb ob n ca cb k ii cm x0 x1 x2 x3 x4 x5 y0 y1 y2 y3 y4 y5 z0 z1 z2 z3 z4 z5) i v w w') ?_ ?_
  · intro i hi c w hS hB hF
    exact allS24t ga oa gb ob n ca cb k ii cm x0 x1 x2 x3 x4 x5 y0 y1 y2 y3 y4 y5 z0 z1 z2 z3 z4 z5 Q i (by rwa [show RS24t.size = 36 by kernel_rfl] at hi) c w ⟨(same_eval hS (by kernel_rfl)).trans hb.t5, (same_eval hS (by kernel_rfl)).trans hb.t6, (same_eval hS (by kernel_rfl)).trans hb.t7, (same_eval hS (by kernel_rfl)).trans hb.t8, (same_eval hS (by kernel_rfl)).trans hb.t9⟩ (hW w hB) hF
  · intro c w hS hB hF
    exact hQ c w hS hB (fact_at (p := eqv (.bool false)) (by kernel_rfl) rfl (hF 35 (by rw [show RS24t.size = 36 by kernel_rfl]; omega)))
end Go.Proofs.YtbpmhgcjefpigaaGreatDoor
