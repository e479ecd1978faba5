/- The last statement of the law LogicTruths, operation by operation, in whatever order. -/
import Derived.Test.YtbpmhgcjefpigaaDoorFacts
import Derived.IntWalk
import Derived.Test.YtbpmhgcjefpigaaDoorOf
namespace Go.Proofs.YtbpmhgcjefpigaaDoor
open Go.RowKit Go.WideShapes
set_option linter.unusedVariables false

noncomputable def R13 : Array Oper := regionAt Tryd.f3 13
def A13 : List (List Nat) := [[], [], [1], [2], [0, 3], [], [5], [4, 6], [7], [8], [9], [10], [10], [10, 12], [10, 11, 13], [10, 14], [15], [16], [16], [16, 18], [16, 17, 19], [16, 20], [21], [22], [22], [22, 23, 24], [22, 25], [22], [22, 27], [22, 26, 28], [22, 29], [30], [31], [31], [31, 32, 33], [31, 34], [31], [31, 36], [31, 35, 37], [31, 38], [39], [40], [40], [40, 41, 42], [40], [40], [40, 44, 45], [40, 43, 46], [40, 47], [48], [49], [49, 50], [49], [49, 52], [49, 51, 53], [49, 54], [55], [56], [56], [56, 58], [56, 57, 59], [56, 60], [61], [62], [62, 63], [64], [65], [65], [65, 67], [65, 68], [65, 66, 69], [65, 70], [71], [72], [72, 73], [72], [72, 75], [72, 74, 76], [72, 77], [78], [79], [79, 80], [81]]
def anc13 (i : Nat) : List Nat := A13.getD i []
def facts13 (ad : Option Addr) (cap n : Nat) (a b la lo ka : Int) (g capm two vb : Nat) (kk : Int) (bb : Bool) : List (Value → World → Prop) :=
  [eqv (.slice (some ⟨g, 0, none⟩) n capm), eqv (.slice ad n cap), eqv (.int .i64 (n : Int)), eqv (.int .i64 ((n : Int) + 1)), eqv (.slice (some ⟨g, 0, none⟩) (n + 1) capm), eqv (.slice ad n cap), eqv (.int .i64 (n : Int)), eqv (.pointer (some ⟨g, n, none⟩)), eqv (.int .i64 77), eqv (.bool true), eqv (.bool true), eqv (.int .i64 la), eqv (.slice ad n cap), eqv (.int .i64 la), eqv (.bool true), eqv (.bool true), eqv (.bool true), eqv (.int .i64 lo), eqv (.slice ad n cap), eqv (.int .i64 lo), eqv (.bool true), eqv (.bool true), eqv (.bool true), eqv (.int .i64 a), eqv (.int .i64 b), laid [a, b], eqv (.int .i64 (andL [a, b])), eqv (.slice (some ⟨two, 0, none⟩) 2 2), eqv (.int .i64 (andL [a, b])), eqv (.bool true), eqv (.bool true), eqv (.bool true), eqv (.int .i64 a), eqv (.int .i64 b), laid [a, b], eqv (.int .i64 (orL [a, b])), eqv (.slice (some ⟨two, 0, none⟩) 2 2), eqv (.int .i64 (orL [a, b])), eqv (.bool true), eqv (.bool true), eqv (.bool true), eqv (.int .i64 a), eqv (.int .i64 b), eqv (.int .i64 (xorL [a, b])), eqv (.int .i64 a), eqv (.int .i64 b), eqv (.int .i64 (xorL [a, b])), eqv (.bool true), eqv (.bool true), eqv (.bool true), eqv (.int .i64 a), eqv (.int .i64 (notI a)), eqv (.int .i64 a), eqv (.int .i64 (notI a)), eqv (.bool true), eqv (.bool true), eqv (.bool true), eqv (leaf kk bb 0), eqv (.int .i64 a), eqv (leaf kk bb 0), eqv (.bool true), eqv (.bool true), eqv (.bool true), eqv (.bool true), eqv (.bool true), eqv (.bool true), eqv (.int .i64 ka), eqv (.int .i64 a), laid [a], eqv (.int .i64 ka), eqv (.bool true), eqv (.bool true), eqv (.bool true), eqv (.int .i64 a), eqv (.bool (a == 2)), eqv (.int .i64 a), eqv (.bool (a == 2)), eqv (.bool true), eqv (.bool true), eqv (.bool true), eqv (.bool true), eqv (.bool true), eqv (.bool true)]
/-- What stands in the frame ahead of the region. -/
structure Base13 (ad : Option Addr) (cap n : Nat) (a b la lo ka : Int) (g capm two vb : Nat) (kk : Int) (bb : Bool) (c : Act) : Prop where
  t0 : c.eval (.tmp 0) = .slice ad n cap
  t1 : c.eval (.tmp 1) = .int .i64 a
  t2 : c.eval (.tmp 2) = .int .i64 b
  t7 : c.eval (.tmp 7) = .slice (some ⟨g, 0, none⟩) n capm
  t8 : c.eval (.tmp 8) = .int .i64 la
  t9 : c.eval (.tmp 9) = .int .i64 lo
  t11 : c.eval (.tmp 11) = .slice (some ⟨two, 0, none⟩) 2 2
  t12 : c.eval (.tmp 12) = .pointer (some ⟨vb, 0, none⟩)
  t13 : c.eval (.tmp 13) = .int .i64 ka
  t14 : c.eval (.tmp 14) = .bool true
theorem two_cells {w : World} {t : Nat} {a b : Int} (h0 : w.cell? ⟨t, 0, none⟩ = some (.int .i64 a)) (h1 : w.cell? ⟨t, 1, none⟩ = some (.int .i64 b)) : ∀ j, j < [a, b].length → w.cell? ⟨t, 0 + j, none⟩ = some (.int .i64 ([a, b].getD j 0)) := by
  intro j hj
  match j, hj with
  | 0, _ => simpa using h0
  | 1, _ => simpa using h1
structure World13 (n : Nat) (la lo : Int) (a b ka : Int) (ad : Option Addr) (cap g two vb : Nat) (kk : Int) (bb : Bool) (w : World) : Prop where
  last : w.cell? ⟨g, n, none⟩ = some (.int .i64 77)
  tw0 : w.cell? ⟨two, 0, none⟩ = some (.int .i64 a)
  tw1 : w.cell? ⟨two, 1, none⟩ = some (.int .i64 b)
  v0 : w.cell? ⟨vb, 0, none⟩ = some (.int .i64 kk)
  v1 : w.cell? ⟨vb, 1, none⟩ = some (.bool bb)
  v2 : w.cell? ⟨vb, 2, none⟩ = some (.int .i64 0)
  v3 : w.cell? ⟨vb, 3, none⟩ = some (.string ⟨#[]⟩)
  v4 : w.cell? ⟨vb, 4, none⟩ = some (.slice none 0 0)
  v5 : w.cell? ⟨vb, 5, none⟩ = some (.slice none 0 0)
  rand : Calls Tryd.prog 11 #[.slice ad n cap] w fun e w' => e = .returned (.int .i64 la) ∧ w' = w
  ror : Calls Tryd.prog 12 #[.slice ad n cap] w fun e w' => e = .returned (.int .i64 lo) ∧ w' = w
  same : valOf a = leaf kk bb 0
  one : andL [a] = ka
set_option maxRecDepth 10000 in
theorem o13_0 (ad : Option Addr) (cap n : Nat) (a b la lo ka : Int) (g capm two vb : Nat) (kk : Int) (bb : Bool) (Q : Exit → Act → World → Prop) (c : Act) (w : World) (hcap : n + 1 ≤ capm) (hn : n ≤ 1000) (hc2 : capm ≤ 9223372036854775807) (hb : Base13 ad cap n a b la lo ka g capm two vb kk bb c) (hW : World13 n la lo a b ka ad cap g two vb kk bb w) (hF : ∀ j ∈ anc13 0, factsAt (facts13 ad cap n a b la lo ka g capm two vb kk bb) j (val R13 c j) w) :
    Does Tryd.prog R13 Q (factsAt (facts13 ad cap n a b la lo ka g capm two vb kk bb)) 0 c w := by
  have ho : R13[0]? = some ({ dst := some 56, op := Op.move (Operand.tmp 7), type := 22, pos := "law.go:38", after := #[], guard := none } : Oper) := by kernel_rfl
  have e7 := hb.t7
  have hw : Region.wanted ({ dst := some 56, op := Op.move (Operand.tmp 7), type := 22, pos := "law.go:38", after := #[], guard := none } : Oper) (yielded R13 c.tmps) = true := want_none rfl
  refine does_value ho hw (v := .slice (some ⟨g, 0, none⟩) n capm) ?_ rfl (Below.refl _ _)
  · have ec : ∀ v, c.eval (.const v) = v := fun _ => rfl
    have ef : ∀ f, c.eval (.func f) = .func (.func f) #[] #[] := fun _ => rfl
    generalize c.eval = ρ at *
    clear hF hb hW hw ho
    go_simp

set_option maxRecDepth 10000 in
theorem o13_1 (ad : Option Addr) (cap n : Nat) (a b la lo ka : Int) (g capm two vb : Nat) (kk : Int) (bb : Bool) (Q : Exit → Act → World → Prop) (c : Act) (w : World) (hcap : n + 1 ≤ capm) (hn : n ≤ 1000) (hc2 : capm ≤ 9223372036854775807) (hb : Base13 ad cap n a b la lo ka g capm two vb kk bb c) (hW : World13 n la lo a b ka ad cap g two vb kk bb w) (hF : ∀ j ∈ anc13 1, factsAt (facts13 ad cap n a b la lo ka g capm two vb kk bb) j (val R13 c j) w) :
    Does Tryd.prog R13 Q (factsAt (facts13 ad cap n a b la lo ka g capm two vb kk bb)) 1 c w := by
  have ho : R13[1]? = some ({ dst := some 57, op := Op.move (Operand.tmp 0), type := 22, pos := "law.go:38", after := #[], guard := none } : Oper) := by kernel_rfl
  have e0 := hb.t0
  have hw : Region.wanted ({ dst := some 57, op := Op.move (Operand.tmp 0), type := 22, pos := "law.go:38", after := #[], guard := none } : Oper) (yielded R13 c.tmps) = true := want_none rfl
  refine does_value ho hw (v := .slice ad n cap) ?_ rfl (Below.refl _ _)
  · have ec : ∀ v, c.eval (.const v) = v := fun _ => rfl
    have ef : ∀ f, c.eval (.func f) = .func (.func f) #[] #[] := fun _ => rfl
    generalize c.eval = ρ at *
    clear hF hb hW hw ho
    go_simp

set_option maxRecDepth 10000 in
theorem o13_2 (ad : Option Addr) (cap n : Nat) (a b la lo ka : Int) (g capm two vb : Nat) (kk : Int) (bb : Bool) (Q : Exit → Act → World → Prop) (c : Act) (w : World) (hcap : n + 1 ≤ capm) (hn : n ≤ 1000) (hc2 : capm ≤ 9223372036854775807) (hb : Base13 ad cap n a b la lo ka g capm two vb kk bb c) (hW : World13 n la lo a b ka ad cap g two vb kk bb w) (hF : ∀ j ∈ anc13 2, factsAt (facts13 ad cap n a b la lo ka g capm two vb kk bb) j (val R13 c j) w) :
    Does Tryd.prog R13 Q (factsAt (facts13 ad cap n a b la lo ka g capm two vb kk bb)) 2 c w := by
  have ho : R13[2]? = some ({ dst := some 58, op := Op.call { callee := Callee.builtin Builtin.len, args := #[Operand.tmp 57], argTypes := #[22] }, type := 3, pos := "law.go:38", after := #[{ on := 1, ground := Ground.data }], guard := none } : Oper) := by kernel_rfl
  have e57 : c.eval (.tmp 57) = .slice ad n cap := fact_at (p := eqv (.slice ad n cap)) (by kernel_rfl) rfl (hF 1 (by decide))
  have hw : Region.wanted ({ dst := some 58, op := Op.call { callee := Callee.builtin Builtin.len, args := #[Operand.tmp 57], argTypes := #[22] }, type := 3, pos := "law.go:38", after := #[{ on := 1, ground := Ground.data }], guard := none } : Oper) (yielded R13 c.tmps) = true := want_none rfl
  refine does_value ho hw (v := .int .i64 (n : Int)) ?_ rfl (Below.refl _ _)
  · have ec : ∀ v, c.eval (.const v) = v := fun _ => rfl
    have ef : ∀ f, c.eval (.func f) = .func (.func f) #[] #[] := fun _ => rfl
    generalize c.eval = ρ at *
    clear hF hb hW hw ho
    go_simp

set_option maxRecDepth 10000 in
theorem o13_3 (ad : Option Addr) (cap n : Nat) (a b la lo ka : Int) (g capm two vb : Nat) (kk : Int) (bb : Bool) (Q : Exit → Act → World → Prop) (c : Act) (w : World) (hcap : n + 1 ≤ capm) (hn : n ≤ 1000) (hc2 : capm ≤ 9223372036854775807) (hb : Base13 ad cap n a b la lo ka g capm two vb kk bb c) (hW : World13 n la lo a b ka ad cap g two vb kk bb w) (hF : ∀ j ∈ anc13 3, factsAt (facts13 ad cap n a b la lo ka g capm two vb kk bb) j (val R13 c j) w) :
    Does Tryd.prog R13 Q (factsAt (facts13 ad cap n a b la lo ka g capm two vb kk bb)) 3 c w := by
  have ho : R13[3]? = some ({ dst := some 59, op := Op.binOp BinOp.add 3 (Operand.tmp 58) (Operand.const (Value.int IntKind.i64 1)) 3, type := 3, pos := "law.go:38", after := #[{ on := 2, ground := Ground.data }], guard := none } : Oper) := by kernel_rfl
  have e58 : c.eval (.tmp 58) = .int .i64 (n : Int) := fact_at (p := eqv (.int .i64 (n : Int))) (by kernel_rfl) rfl (hF 2 (by decide))
  have hw : Region.wanted ({ dst := some 59, op := Op.binOp BinOp.add 3 (Operand.tmp 58) (Operand.const (Value.int IntKind.i64 1)) 3, type := 3, pos := "law.go:38", after := #[{ on := 2, ground := Ground.data }], guard := none } : Oper) (yielded R13 c.tmps) = true := want_none rfl
  refine does_value ho hw (v := .int .i64 ((n : Int) + 1)) ?_ rfl (Below.refl _ _)
  · have ec : ∀ v, c.eval (.const v) = v := fun _ => rfl
    have ef : ∀ f, c.eval (.func f) = .func (.func f) #[] #[] := fun _ => rfl
    generalize c.eval = ρ at *
    clear hF hb hW hw ho
    go_simp
    rw [IntKind.wrap_i64]; omega

set_option maxRecDepth 10000 in
theorem o13_4 (ad : Option Addr) (cap n : Nat) (a b la lo ka : Int) (g capm two vb : Nat) (kk : Int) (bb : Bool) (Q : Exit → Act → World → Prop) (c : Act) (w : World) (hcap : n + 1 ≤ capm) (hn : n ≤ 1000) (hc2 : capm ≤ 9223372036854775807) (hb : Base13 ad cap n a b la lo ka g capm two vb kk bb c) (hW : World13 n la lo a b ka ad cap g two vb kk bb w) (hF : ∀ j ∈ anc13 4, factsAt (facts13 ad cap n a b la lo ka g capm two vb kk bb) j (val R13 c j) w) :
    Does Tryd.prog R13 Q (factsAt (facts13 ad cap n a b la lo ka g capm two vb kk bb)) 4 c w := by
  have ho : R13[4]? = some ({ dst := some 60, op := Op.slice 22 (Operand.tmp 56) none (some (Operand.tmp 59)) none, type := 22, pos := "law.go:38", after := #[{ on := 0, ground := Ground.data }, { on := 3, ground := Ground.data }], guard := none } : Oper) := by kernel_rfl
  have e56 : c.eval (.tmp 56) = .slice (some ⟨g, 0, none⟩) n capm := fact_at (p := eqv (.slice (some ⟨g, 0, none⟩) n capm)) (by kernel_rfl) rfl (hF 0 (by decide))
  have e59 : c.eval (.tmp 59) = .int .i64 ((n : Int) + 1) := fact_at (p := eqv (.int .i64 ((n : Int) + 1))) (by kernel_rfl) rfl (hF 3 (by decide))
  have hw : Region.wanted ({ dst := some 60, op := Op.slice 22 (Operand.tmp 56) none (some (Operand.tmp 59)) none, type := 22, pos := "law.go:38", after := #[{ on := 0, ground := Ground.data }, { on := 3, ground := Ground.data }], guard := none } : Oper) (yielded R13 c.tmps) = true := want_none rfl
  refine does_value ho hw (v := .slice (some ⟨g, 0, none⟩) (n + 1) capm) ?_ rfl (Below.refl _ _)
  · have ec : ∀ v, c.eval (.const v) = v := fun _ => rfl
    have ef : ∀ f, c.eval (.func f) = .func (.func f) #[] #[] := fun _ => rfl
    generalize c.eval = ρ at *
    clear hF hb hW hw ho
    go_simp
    intro h; exfalso; omega

set_option maxRecDepth 10000 in
theorem o13_5 (ad : Option Addr) (cap n : Nat) (a b la lo ka : Int) (g capm two vb : Nat) (kk : Int) (bb : Bool) (Q : Exit → Act → World → Prop) (c : Act) (w : World) (hcap : n + 1 ≤ capm) (hn : n ≤ 1000) (hc2 : capm ≤ 9223372036854775807) (hb : Base13 ad cap n a b la lo ka g capm two vb kk bb c) (hW : World13 n la lo a b ka ad cap g two vb kk bb w) (hF : ∀ j ∈ anc13 5, factsAt (facts13 ad cap n a b la lo ka g capm two vb kk bb) j (val R13 c j) w) :
    Does Tryd.prog R13 Q (factsAt (facts13 ad cap n a b la lo ka g capm two vb kk bb)) 5 c w := by
  have ho : R13[5]? = some ({ dst := some 61, op := Op.move (Operand.tmp 0), type := 22, pos := "law.go:38", after := #[], guard := none } : Oper) := by kernel_rfl
  have e0 := hb.t0
  have hw : Region.wanted ({ dst := some 61, op := Op.move (Operand.tmp 0), type := 22, pos := "law.go:38", after := #[], guard := none } : Oper) (yielded R13 c.tmps) = true := want_none rfl
  refine does_value ho hw (v := .slice ad n cap) ?_ rfl (Below.refl _ _)
  · have ec : ∀ v, c.eval (.const v) = v := fun _ => rfl
    have ef : ∀ f, c.eval (.func f) = .func (.func f) #[] #[] := fun _ => rfl
    generalize c.eval = ρ at *
    clear hF hb hW hw ho
    go_simp

set_option maxRecDepth 10000 in
theorem o13_6 (ad : Option Addr) (cap n : Nat) (a b la lo ka : Int) (g capm two vb : Nat) (kk : Int) (bb : Bool) (Q : Exit → Act → World → Prop) (c : Act) (w : World) (hcap : n + 1 ≤ capm) (hn : n ≤ 1000) (hc2 : capm ≤ 9223372036854775807) (hb : Base13 ad cap n a b la lo ka g capm two vb kk bb c) (hW : World13 n la lo a b ka ad cap g two vb kk bb w) (hF : ∀ j ∈ anc13 6, factsAt (facts13 ad cap n a b la lo ka g capm two vb kk bb) j (val R13 c j) w) :
    Does Tryd.prog R13 Q (factsAt (facts13 ad cap n a b la lo ka g capm two vb kk bb)) 6 c w := by
  have ho : R13[6]? = some ({ dst := some 62, op := Op.call { callee := Callee.builtin Builtin.len, args := #[Operand.tmp 61], argTypes := #[22] }, type := 3, pos := "law.go:38", after := #[{ on := 5, ground := Ground.data }], guard := none } : Oper) := by kernel_rfl
  have e61 : c.eval (.tmp 61) = .slice ad n cap := fact_at (p := eqv (.slice ad n cap)) (by kernel_rfl) rfl (hF 5 (by decide))
  have hw : Region.wanted ({ dst := some 62, op := Op.call { callee := Callee.builtin Builtin.len, args := #[Operand.tmp 61], argTypes := #[22] }, type := 3, pos := "law.go:38", after := #[{ on := 5, ground := Ground.data }], guard := none } : Oper) (yielded R13 c.tmps) = true := want_none rfl
  refine does_value ho hw (v := .int .i64 (n : Int)) ?_ rfl (Below.refl _ _)
  · have ec : ∀ v, c.eval (.const v) = v := fun _ => rfl
    have ef : ∀ f, c.eval (.func f) = .func (.func f) #[] #[] := fun _ => rfl
    generalize c.eval = ρ at *
    clear hF hb hW hw ho
    go_simp

set_option maxRecDepth 10000 in
theorem o13_7 (ad : Option Addr) (cap n : Nat) (a b la lo ka : Int) (g capm two vb : Nat) (kk : Int) (bb : Bool) (Q : Exit → Act → World → Prop) (c : Act) (w : World) (hcap : n + 1 ≤ capm) (hn : n ≤ 1000) (hc2 : capm ≤ 9223372036854775807) (hb : Base13 ad cap n a b la lo ka g capm two vb kk bb c) (hW : World13 n la lo a b ka ad cap g two vb kk bb w) (hF : ∀ j ∈ anc13 7, factsAt (facts13 ad cap n a b la lo ka g capm two vb kk bb) j (val R13 c j) w) :
    Does Tryd.prog R13 Q (factsAt (facts13 ad cap n a b la lo ka g capm two vb kk bb)) 7 c w := by
  have ho : R13[7]? = some ({ dst := some 63, op := Op.indexAddr 22 (Operand.tmp 60) (Operand.tmp 62), type := 0, pos := "law.go:38", after := #[{ on := 4, ground := Ground.data }, { on := 6, ground := Ground.data }], guard := none } : Oper) := by kernel_rfl
  have e60 : c.eval (.tmp 60) = .slice (some ⟨g, 0, none⟩) (n + 1) capm := fact_at (p := eqv (.slice (some ⟨g, 0, none⟩) (n + 1) capm)) (by kernel_rfl) rfl (hF 4 (by decide))
  have e62 : c.eval (.tmp 62) = .int .i64 (n : Int) := fact_at (p := eqv (.int .i64 (n : Int))) (by kernel_rfl) rfl (hF 6 (by decide))
  have hw : Region.wanted ({ dst := some 63, op := Op.indexAddr 22 (Operand.tmp 60) (Operand.tmp 62), type := 0, pos := "law.go:38", after := #[{ on := 4, ground := Ground.data }, { on := 6, ground := Ground.data }], guard := none } : Oper) (yielded R13 c.tmps) = true := want_none rfl
  refine does_value ho hw (v := .pointer (some ⟨g, n, none⟩)) ?_ rfl (Below.refl _ _)
  · have ec : ∀ v, c.eval (.const v) = v := fun _ => rfl
    have ef : ∀ f, c.eval (.func f) = .func (.func f) #[] #[] := fun _ => rfl
    generalize c.eval = ρ at *
    clear hF hb hW hw ho
    go_simp
    intro h; exfalso; omega

set_option maxRecDepth 10000 in
theorem o13_8 (ad : Option Addr) (cap n : Nat) (a b la lo ka : Int) (g capm two vb : Nat) (kk : Int) (bb : Bool) (Q : Exit → Act → World → Prop) (c : Act) (w : World) (hcap : n + 1 ≤ capm) (hn : n ≤ 1000) (hc2 : capm ≤ 9223372036854775807) (hb : Base13 ad cap n a b la lo ka g capm two vb kk bb c) (hW : World13 n la lo a b ka ad cap g two vb kk bb w) (hF : ∀ j ∈ anc13 8, factsAt (facts13 ad cap n a b la lo ka g capm two vb kk bb) j (val R13 c j) w) :
    Does Tryd.prog R13 Q (factsAt (facts13 ad cap n a b la lo ka g capm two vb kk bb)) 8 c w := by
  have ho : R13[8]? = some ({ dst := some 64, op := Op.load 23 (Operand.tmp 63), type := 23, pos := "law.go:38", after := #[{ on := 7, ground := Ground.data }], guard := none } : Oper) := by kernel_rfl
  have e63 : c.eval (.tmp 63) = .pointer (some ⟨g, n, none⟩) := fact_at (p := eqv (.pointer (some ⟨g, n, none⟩))) (by kernel_rfl) rfl (hF 7 (by decide))
  have hw : Region.wanted ({ dst := some 64, op := Op.load 23 (Operand.tmp 63), type := 23, pos := "law.go:38", after := #[{ on := 7, ground := Ground.data }], guard := none } : Oper) (yielded R13 c.tmps) = true := want_none rfl
  refine does_value ho hw (v := .int .i64 77) ?_ rfl (Below.refl _ _)
  · have hc := hW.last
    have ec : ∀ v, c.eval (.const v) = v := fun _ => rfl
    have ef : ∀ f, c.eval (.func f) = .func (.func f) #[] #[] := fun _ => rfl
    generalize c.eval = ρ at *
    clear hF hb hW hw ho
    go_simp

set_option maxRecDepth 10000 in
theorem o13_9 (ad : Option Addr) (cap n : Nat) (a b la lo ka : Int) (g capm two vb : Nat) (kk : Int) (bb : Bool) (Q : Exit → Act → World → Prop) (c : Act) (w : World) (hcap : n + 1 ≤ capm) (hn : n ≤ 1000) (hc2 : capm ≤ 9223372036854775807) (hb : Base13 ad cap n a b la lo ka g capm two vb kk bb c) (hW : World13 n la lo a b ka ad cap g two vb kk bb w) (hF : ∀ j ∈ anc13 9, factsAt (facts13 ad cap n a b la lo ka g capm two vb kk bb) j (val R13 c j) w) :
    Does Tryd.prog R13 Q (factsAt (facts13 ad cap n a b la lo ka g capm two vb kk bb)) 9 c w := by
  have ho : R13[9]? = some ({ dst := some 65, op := Op.binOp BinOp.eql 23 (Operand.tmp 64) (Operand.const (Value.int IntKind.i64 77)) 23, type := 4, pos := "law.go:38", after := #[{ on := 8, ground := Ground.data }], guard := none } : Oper) := by kernel_rfl
  have e64 : c.eval (.tmp 64) = .int .i64 77 := fact_at (p := eqv (.int .i64 77)) (by kernel_rfl) rfl (hF 8 (by decide))
  have hw : Region.wanted ({ dst := some 65, op := Op.binOp BinOp.eql 23 (Operand.tmp 64) (Operand.const (Value.int IntKind.i64 77)) 23, type := 4, pos := "law.go:38", after := #[{ on := 8, ground := Ground.data }], guard := none } : Oper) (yielded R13 c.tmps) = true := want_none rfl
  refine does_value ho hw (v := .bool true) ?_ rfl (Below.refl _ _)
  · have ec : ∀ v, c.eval (.const v) = v := fun _ => rfl
    have ef : ∀ f, c.eval (.func f) = .func (.func f) #[] #[] := fun _ => rfl
    generalize c.eval = ρ at *
    clear hF hb hW hw ho
    go_simp

set_option maxRecDepth 10000 in
theorem o13_10 (ad : Option Addr) (cap n : Nat) (a b la lo ka : Int) (g capm two vb : Nat) (kk : Int) (bb : Bool) (Q : Exit → Act → World → Prop) (c : Act) (w : World) (hcap : n + 1 ≤ capm) (hn : n ≤ 1000) (hc2 : capm ≤ 9223372036854775807) (hb : Base13 ad cap n a b la lo ka g capm two vb kk bb c) (hW : World13 n la lo a b ka ad cap g two vb kk bb w) (hF : ∀ j ∈ anc13 10, factsAt (facts13 ad cap n a b la lo ka g capm two vb kk bb) j (val R13 c j) w) :
    Does Tryd.prog R13 Q (factsAt (facts13 ad cap n a b la lo ka g capm two vb kk bb)) 10 c w := by
  have ho : R13[10]? = some ({ dst := some 66, op := Op.move (Operand.tmp 65), type := 4, pos := "law.go:38", after := #[{ on := 9, ground := Ground.data }], guard := none } : Oper) := by kernel_rfl
  have e65 : c.eval (.tmp 65) = .bool true := fact_at (p := eqv (.bool true)) (by kernel_rfl) rfl (hF 9 (by decide))
  have hw : Region.wanted ({ dst := some 66, op := Op.move (Operand.tmp 65), type := 4, pos := "law.go:38", after := #[{ on := 9, ground := Ground.data }], guard := none } : Oper) (yielded R13 c.tmps) = true := want_none rfl
  refine does_value ho hw (v := .bool true) ?_ rfl (Below.refl _ _)
  · have ec : ∀ v, c.eval (.const v) = v := fun _ => rfl
    have ef : ∀ f, c.eval (.func f) = .func (.func f) #[] #[] := fun _ => rfl
    generalize c.eval = ρ at *
    clear hF hb hW hw ho
    go_simp

set_option maxRecDepth 10000 in
theorem o13_11 (ad : Option Addr) (cap n : Nat) (a b la lo ka : Int) (g capm two vb : Nat) (kk : Int) (bb : Bool) (Q : Exit → Act → World → Prop) (c : Act) (w : World) (hcap : n + 1 ≤ capm) (hn : n ≤ 1000) (hc2 : capm ≤ 9223372036854775807) (hb : Base13 ad cap n a b la lo ka g capm two vb kk bb c) (hW : World13 n la lo a b ka ad cap g two vb kk bb w) (hF : ∀ j ∈ anc13 11, factsAt (facts13 ad cap n a b la lo ka g capm two vb kk bb) j (val R13 c j) w) :
    Does Tryd.prog R13 Q (factsAt (facts13 ad cap n a b la lo ka g capm two vb kk bb)) 11 c w := by
  have ho : R13[11]? = some ({ dst := some 67, op := Op.move (Operand.tmp 8), type := 23, pos := "law.go:38", after := #[{ on := 10, ground := Ground.guard }], guard := some (10, true) } : Oper) := by kernel_rfl
  have e8 := hb.t8
  have hw : Region.wanted ({ dst := some 67, op := Op.move (Operand.tmp 8), type := 23, pos := "law.go:38", after := #[{ on := 10, ground := Ground.guard }], guard := some (10, true) } : Oper) (yielded R13 c.tmps) = true := want_eq (b := true) rfl (hF 10 (by decide))
  refine does_value ho hw (v := .int .i64 la) ?_ rfl (Below.refl _ _)
  · have ec : ∀ v, c.eval (.const v) = v := fun _ => rfl
    have ef : ∀ f, c.eval (.func f) = .func (.func f) #[] #[] := fun _ => rfl
    generalize c.eval = ρ at *
    clear hF hb hW hw ho
    go_simp

set_option maxRecDepth 10000 in
theorem o13_12 (ad : Option Addr) (cap n : Nat) (a b la lo ka : Int) (g capm two vb : Nat) (kk : Int) (bb : Bool) (Q : Exit → Act → World → Prop) (c : Act) (w : World) (hcap : n + 1 ≤ capm) (hn : n ≤ 1000) (hc2 : capm ≤ 9223372036854775807) (hb : Base13 ad cap n a b la lo ka g capm two vb kk bb c) (hW : World13 n la lo a b ka ad cap g two vb kk bb w) (hF : ∀ j ∈ anc13 12, factsAt (facts13 ad cap n a b la lo ka g capm two vb kk bb) j (val R13 c j) w) :
    Does Tryd.prog R13 Q (factsAt (facts13 ad cap n a b la lo ka g capm two vb kk bb)) 12 c w := by
  have ho : R13[12]? = some ({ dst := some 68, op := Op.move (Operand.tmp 0), type := 22, pos := "law.go:38", after := #[{ on := 10, ground := Ground.guard }], guard := some (10, true) } : Oper) := by kernel_rfl
  have e0 := hb.t0
  have hw : Region.wanted ({ dst := some 68, op := Op.move (Operand.tmp 0), type := 22, pos := "law.go:38", after := #[{ on := 10, ground := Ground.guard }], guard := some (10, true) } : Oper) (yielded R13 c.tmps) = true := want_eq (b := true) rfl (hF 10 (by decide))
  refine does_value ho hw (v := .slice ad n cap) ?_ rfl (Below.refl _ _)
  · have ec : ∀ v, c.eval (.const v) = v := fun _ => rfl
    have ef : ∀ f, c.eval (.func f) = .func (.func f) #[] #[] := fun _ => rfl
    generalize c.eval = ρ at *
    clear hF hb hW hw ho
    go_simp

set_option maxRecDepth 10000 in
theorem o13_13 (ad : Option Addr) (cap n : Nat) (a b la lo ka : Int) (g capm two vb : Nat) (kk : Int) (bb : Bool) (Q : Exit → Act → World → Prop) (c : Act) (w : World) (hcap : n + 1 ≤ capm) (hn : n ≤ 1000) (hc2 : capm ≤ 9223372036854775807) (hb : Base13 ad cap n a b la lo ka g capm two vb kk bb c) (hW : World13 n la lo a b ka ad cap g two vb kk bb w) (hF : ∀ j ∈ anc13 13, factsAt (facts13 ad cap n a b la lo ka g capm two vb kk bb) j (val R13 c j) w) :
    Does Tryd.prog R13 Q (factsAt (facts13 ad cap n a b la lo ka g capm two vb kk bb)) 13 c w := by
  have ho : R13[13]? = some ({ dst := some 69, op := Op.call { callee := Callee.value (Operand.func 11), args := #[Operand.tmp 68], argTypes := #[22] }, type := 23, pos := "law.go:38", after := #[{ on := 12, ground := Ground.data }, { on := 10, ground := Ground.chain }, { on := 10, ground := Ground.guard }], guard := some (10, true) } : Oper) := by kernel_rfl
  have e68 : c.eval (.tmp 68) = .slice ad n cap := fact_at (p := eqv (.slice ad n cap)) (by kernel_rfl) rfl (hF 12 (by decide))
  have hw : Region.wanted ({ dst := some 69, op := Op.call { callee := Callee.value (Operand.func 11), args := #[Operand.tmp 68], argTypes := #[22] }, type := 23, pos := "law.go:38", after := #[{ on := 12, ground := Ground.data }, { on := 10, ground := Ground.chain }, { on := 10, ground := Ground.guard }], guard := some (10, true) } : Oper) (yielded R13 c.tmps) = true := want_eq (b := true) rfl (hF 10 (by decide))
  refine does_call ho hw (f := 11) (args := #[.slice ad n cap]) ?_ ((hW.rand).mono fun e w' ⟨h1, h2⟩ => ⟨_, h1, rfl, by subst h2; exact Below.refl _ _⟩)
  · have ec : ∀ v, c.eval (.const v) = v := fun _ => rfl
    have ef : ∀ f, c.eval (.func f) = .func (.func f) #[] #[] := fun _ => rfl
    generalize c.eval = ρ at *
    clear hF hb hW hw ho
    go_simp

set_option maxRecDepth 10000 in
theorem o13_14 (ad : Option Addr) (cap n : Nat) (a b la lo ka : Int) (g capm two vb : Nat) (kk : Int) (bb : Bool) (Q : Exit → Act → World → Prop) (c : Act) (w : World) (hcap : n + 1 ≤ capm) (hn : n ≤ 1000) (hc2 : capm ≤ 9223372036854775807) (hb : Base13 ad cap n a b la lo ka g capm two vb kk bb c) (hW : World13 n la lo a b ka ad cap g two vb kk bb w) (hF : ∀ j ∈ anc13 14, factsAt (facts13 ad cap n a b la lo ka g capm two vb kk bb) j (val R13 c j) w) :
    Does Tryd.prog R13 Q (factsAt (facts13 ad cap n a b la lo ka g capm two vb kk bb)) 14 c w := by
  have ho : R13[14]? = some ({ dst := some 70, op := Op.binOp BinOp.eql 23 (Operand.tmp 67) (Operand.tmp 69) 23, type := 4, pos := "law.go:38", after := #[{ on := 11, ground := Ground.data }, { on := 13, ground := Ground.data }, { on := 10, ground := Ground.guard }], guard := some (10, true) } : Oper) := by kernel_rfl
  have e67 : c.eval (.tmp 67) = .int .i64 la := fact_at (p := eqv (.int .i64 la)) (by kernel_rfl) rfl (hF 11 (by decide))
  have e69 : c.eval (.tmp 69) = .int .i64 la := fact_at (p := eqv (.int .i64 la)) (by kernel_rfl) rfl (hF 13 (by decide))
  have hw : Region.wanted ({ dst := some 70, op := Op.binOp BinOp.eql 23 (Operand.tmp 67) (Operand.tmp 69) 23, type := 4, pos := "law.go:38", after := #[{ on := 11, ground := Ground.data }, { on := 13, ground := Ground.data }, { on := 10, ground := Ground.guard }], guard := some (10, true) } : Oper) (yielded R13 c.tmps) = true := want_eq (b := true) rfl (hF 10 (by decide))
  refine does_value ho hw (v := .bool true) ?_ rfl (Below.refl _ _)
  · have ec : ∀ v, c.eval (.const v) = v := fun _ => rfl
    have ef : ∀ f, c.eval (.func f) = .func (.func f) #[] #[] := fun _ => rfl
    generalize c.eval = ρ at *
    clear hF hb hW hw ho
    go_simp

set_option maxRecDepth 10000 in
theorem o13_15 (ad : Option Addr) (cap n : Nat) (a b la lo ka : Int) (g capm two vb : Nat) (kk : Int) (bb : Bool) (Q : Exit → Act → World → Prop) (c : Act) (w : World) (hcap : n + 1 ≤ capm) (hn : n ≤ 1000) (hc2 : capm ≤ 9223372036854775807) (hb : Base13 ad cap n a b la lo ka g capm two vb kk bb c) (hW : World13 n la lo a b ka ad cap g two vb kk bb w) (hF : ∀ j ∈ anc13 15, factsAt (facts13 ad cap n a b la lo ka g capm two vb kk bb) j (val R13 c j) w) :
    Does Tryd.prog R13 Q (factsAt (facts13 ad cap n a b la lo ka g capm two vb kk bb)) 15 c w := by
  have ho : R13[15]? = some ({ dst := some 71, op := Op.pick (Operand.tmp 66) (Operand.tmp 70) (Operand.const (Value.bool false)), type := 4, pos := "law.go:38", after := #[{ on := 10, ground := Ground.data }, { on := 14, ground := Ground.data }], guard := none } : Oper) := by kernel_rfl
  have e66 : c.eval (.tmp 66) = .bool true := fact_at (p := eqv (.bool true)) (by kernel_rfl) rfl (hF 10 (by decide))
  have e70 : c.eval (.tmp 70) = .bool true := fact_at (p := eqv (.bool true)) (by kernel_rfl) rfl (hF 14 (by decide))
  have hw : Region.wanted ({ dst := some 71, op := Op.pick (Operand.tmp 66) (Operand.tmp 70) (Operand.const (Value.bool false)), type := 4, pos := "law.go:38", after := #[{ on := 10, ground := Ground.data }, { on := 14, ground := Ground.data }], guard := none } : Oper) (yielded R13 c.tmps) = true := want_none rfl
  refine does_value ho hw (v := .bool true) ?_ rfl (Below.refl _ _)
  · have ec : ∀ v, c.eval (.const v) = v := fun _ => rfl
    have ef : ∀ f, c.eval (.func f) = .func (.func f) #[] #[] := fun _ => rfl
    generalize c.eval = ρ at *
    clear hF hb hW hw ho
    go_simp

set_option maxRecDepth 10000 in
theorem o13_16 (ad : Option Addr) (cap n : Nat) (a b la lo ka : Int) (g capm two vb : Nat) (kk : Int) (bb : Bool) (Q : Exit → Act → World → Prop) (c : Act) (w : World) (hcap : n + 1 ≤ capm) (hn : n ≤ 1000) (hc2 : capm ≤ 9223372036854775807) (hb : Base13 ad cap n a b la lo ka g capm two vb kk bb c) (hW : World13 n la lo a b ka ad cap g two vb kk bb w) (hF : ∀ j ∈ anc13 16, factsAt (facts13 ad cap n a b la lo ka g capm two vb kk bb) j (val R13 c j) w) :
    Does Tryd.prog R13 Q (factsAt (facts13 ad cap n a b la lo ka g capm two vb kk bb)) 16 c w := by
  have ho : R13[16]? = some ({ dst := some 72, op := Op.move (Operand.tmp 71), type := 4, pos := "law.go:38", after := #[{ on := 15, ground := Ground.data }, { on := 13, ground := Ground.chain }], guard := none } : Oper) := by kernel_rfl
  have e71 : c.eval (.tmp 71) = .bool true := fact_at (p := eqv (.bool true)) (by kernel_rfl) rfl (hF 15 (by decide))
  have hw : Region.wanted ({ dst := some 72, op := Op.move (Operand.tmp 71), type := 4, pos := "law.go:38", after := #[{ on := 15, ground := Ground.data }, { on := 13, ground := Ground.chain }], guard := none } : Oper) (yielded R13 c.tmps) = true := want_none rfl
  refine does_value ho hw (v := .bool true) ?_ rfl (Below.refl _ _)
  · have ec : ∀ v, c.eval (.const v) = v := fun _ => rfl
    have ef : ∀ f, c.eval (.func f) = .func (.func f) #[] #[] := fun _ => rfl
    generalize c.eval = ρ at *
    clear hF hb hW hw ho
    go_simp

set_option maxRecDepth 10000 in
theorem o13_17 (ad : Option Addr) (cap n : Nat) (a b la lo ka : Int) (g capm two vb : Nat) (kk : Int) (bb : Bool) (Q : Exit → Act → World → Prop) (c : Act) (w : World) (hcap : n + 1 ≤ capm) (hn : n ≤ 1000) (hc2 : capm ≤ 9223372036854775807) (hb : Base13 ad cap n a b la lo ka g capm two vb kk bb c) (hW : World13 n la lo a b ka ad cap g two vb kk bb w) (hF : ∀ j ∈ anc13 17, factsAt (facts13 ad cap n a b la lo ka g capm two vb kk bb) j (val R13 c j) w) :
    Does Tryd.prog R13 Q (factsAt (facts13 ad cap n a b la lo ka g capm two vb kk bb)) 17 c w := by
  have ho : R13[17]? = some ({ dst := some 73, op := Op.move (Operand.tmp 9), type := 23, pos := "law.go:38", after := #[{ on := 16, ground := Ground.guard }], guard := some (16, true) } : Oper) := by kernel_rfl
  have e9 := hb.t9
  have hw : Region.wanted ({ dst := some 73, op := Op.move (Operand.tmp 9), type := 23, pos := "law.go:38", after := #[{ on := 16, ground := Ground.guard }], guard := some (16, true) } : Oper) (yielded R13 c.tmps) = true := want_eq (b := true) rfl (hF 16 (by decide))
  refine does_value ho hw (v := .int .i64 lo) ?_ rfl (Below.refl _ _)
  · have ec : ∀ v, c.eval (.const v) = v := fun _ => rfl
    have ef : ∀ f, c.eval (.func f) = .func (.func f) #[] #[] := fun _ => rfl
    generalize c.eval = ρ at *
    clear hF hb hW hw ho
    go_simp

set_option maxRecDepth 10000 in
theorem o13_18 (ad : Option Addr) (cap n : Nat) (a b la lo ka : Int) (g capm two vb : Nat) (kk : Int) (bb : Bool) (Q : Exit → Act → World → Prop) (c : Act) (w : World) (hcap : n + 1 ≤ capm) (hn : n ≤ 1000) (hc2 : capm ≤ 9223372036854775807) (hb : Base13 ad cap n a b la lo ka g capm two vb kk bb c) (hW : World13 n la lo a b ka ad cap g two vb kk bb w) (hF : ∀ j ∈ anc13 18, factsAt (facts13 ad cap n a b la lo ka g capm two vb kk bb) j (val R13 c j) w) :
    Does Tryd.prog R13 Q (factsAt (facts13 ad cap n a b la lo ka g capm two vb kk bb)) 18 c w := by
  have ho : R13[18]? = some ({ dst := some 74, op := Op.move (Operand.tmp 0), type := 22, pos := "law.go:38", after := #[{ on := 16, ground := Ground.guard }], guard := some (16, true) } : Oper) := by kernel_rfl
  have e0 := hb.t0
  have hw : Region.wanted ({ dst := some 74, op := Op.move (Operand.tmp 0), type := 22, pos := "law.go:38", after := #[{ on := 16, ground := Ground.guard }], guard := some (16, true) } : Oper) (yielded R13 c.tmps) = true := want_eq (b := true) rfl (hF 16 (by decide))
  refine does_value ho hw (v := .slice ad n cap) ?_ rfl (Below.refl _ _)
  · have ec : ∀ v, c.eval (.const v) = v := fun _ => rfl
    have ef : ∀ f, c.eval (.func f) = .func (.func f) #[] #[] := fun _ => rfl
    generalize c.eval = ρ at *
    clear hF hb hW hw ho
    go_simp

set_option maxRecDepth 10000 in
theorem o13_19 (ad : Option Addr) (cap n : Nat) (a b la lo ka : Int) (g capm two vb : Nat) (kk : Int) (bb : Bool) (Q : Exit → Act → World → Prop) (c : Act) (w : World) (hcap : n + 1 ≤ capm) (hn : n ≤ 1000) (hc2 : capm ≤ 9223372036854775807) (hb : Base13 ad cap n a b la lo ka g capm two vb kk bb c) (hW : World13 n la lo a b ka ad cap g two vb kk bb w) (hF : ∀ j ∈ anc13 19, factsAt (facts13 ad cap n a b la lo ka g capm two vb kk bb) j (val R13 c j) w) :
    Does Tryd.prog R13 Q (factsAt (facts13 ad cap n a b la lo ka g capm two vb kk bb)) 19 c w := by
  have ho : R13[19]? = some ({ dst := some 75, op := Op.call { callee := Callee.value (Operand.func 12), args := #[Operand.tmp 74], argTypes := #[22] }, type := 23, pos := "law.go:38", after := #[{ on := 18, ground := Ground.data }, { on := 16, ground := Ground.chain }, { on := 16, ground := Ground.guard }], guard := some (16, true) } : Oper) := by kernel_rfl
  have e74 : c.eval (.tmp 74) = .slice ad n cap := fact_at (p := eqv (.slice ad n cap)) (by kernel_rfl) rfl (hF 18 (by decide))
  have hw : Region.wanted ({ dst := some 75, op := Op.call { callee := Callee.value (Operand.func 12), args := #[Operand.tmp 74], argTypes := #[22] }, type := 23, pos := "law.go:38", after := #[{ on := 18, ground := Ground.data }, { on := 16, ground := Ground.chain }, { on := 16, ground := Ground.guard }], guard := some (16, true) } : Oper) (yielded R13 c.tmps) = true := want_eq (b := true) rfl (hF 16 (by decide))
  refine does_call ho hw (f := 12) (args := #[.slice ad n cap]) ?_ ((hW.ror).mono fun e w' ⟨h1, h2⟩ => ⟨_, h1, rfl, by subst h2; exact Below.refl _ _⟩)
  · have ec : ∀ v, c.eval (.const v) = v := fun _ => rfl
    have ef : ∀ f, c.eval (.func f) = .func (.func f) #[] #[] := fun _ => rfl
    generalize c.eval = ρ at *
    clear hF hb hW hw ho
    go_simp

set_option maxRecDepth 10000 in
theorem o13_20 (ad : Option Addr) (cap n : Nat) (a b la lo ka : Int) (g capm two vb : Nat) (kk : Int) (bb : Bool) (Q : Exit → Act → World → Prop) (c : Act) (w : World) (hcap : n + 1 ≤ capm) (hn : n ≤ 1000) (hc2 : capm ≤ 9223372036854775807) (hb : Base13 ad cap n a b la lo ka g capm two vb kk bb c) (hW : World13 n la lo a b ka ad cap g two vb kk bb w) (hF : ∀ j ∈ anc13 20, factsAt (facts13 ad cap n a b la lo ka g capm two vb kk bb) j (val R13 c j) w) :
    Does Tryd.prog R13 Q (factsAt (facts13 ad cap n a b la lo ka g capm two vb kk bb)) 20 c w := by
  have ho : R13[20]? = some ({ dst := some 76, op := Op.binOp BinOp.eql 23 (Operand.tmp 73) (Operand.tmp 75) 23, type := 4, pos := "law.go:38", after := #[{ on := 17, ground := Ground.data }, { on := 19, ground := Ground.data }, { on := 16, ground := Ground.guard }], guard := some (16, true) } : Oper) := by kernel_rfl
  have e73 : c.eval (.tmp 73) = .int .i64 lo := fact_at (p := eqv (.int .i64 lo)) (by kernel_rfl) rfl (hF 17 (by decide))
  have e75 : c.eval (.tmp 75) = .int .i64 lo := fact_at (p := eqv (.int .i64 lo)) (by kernel_rfl) rfl (hF 19 (by decide))
  have hw : Region.wanted ({ dst := some 76, op := Op.binOp BinOp.eql 23 (Operand.tmp 73) (Operand.tmp 75) 23, type := 4, pos := "law.go:38", after := #[{ on := 17, ground := Ground.data }, { on := 19, ground := Ground.data }, { on := 16, ground := Ground.guard }], guard := some (16, true) } : Oper) (yielded R13 c.tmps) = true := want_eq (b := true) rfl (hF 16 (by decide))
  refine does_value ho hw (v := .bool true) ?_ rfl (Below.refl _ _)
  · have ec : ∀ v, c.eval (.const v) = v := fun _ => rfl
    have ef : ∀ f, c.eval (.func f) = .func (.func f) #[] #[] := fun _ => rfl
    generalize c.eval = ρ at *
    clear hF hb hW hw ho
    go_simp

set_option maxRecDepth 10000 in
theorem o13_21 (ad : Option Addr) (cap n : Nat) (a b la lo ka : Int) (g capm two vb : Nat) (kk : Int) (bb : Bool) (Q : Exit → Act → World → Prop) (c : Act) (w : World) (hcap : n + 1 ≤ capm) (hn : n ≤ 1000) (hc2 : capm ≤ 9223372036854775807) (hb : Base13 ad cap n a b la lo ka g capm two vb kk bb c) (hW : World13 n la lo a b ka ad cap g two vb kk bb w) (hF : ∀ j ∈ anc13 21, factsAt (facts13 ad cap n a b la lo ka g capm two vb kk bb) j (val R13 c j) w) :
    Does Tryd.prog R13 Q (factsAt (facts13 ad cap n a b la lo ka g capm two vb kk bb)) 21 c w := by
  have ho : R13[21]? = some ({ dst := some 77, op := Op.pick (Operand.tmp 72) (Operand.tmp 76) (Operand.const (Value.bool false)), type := 4, pos := "law.go:38", after := #[{ on := 16, ground := Ground.data }, { on := 20, ground := Ground.data }], guard := none } : Oper) := by kernel_rfl
  have e72 : c.eval (.tmp 72) = .bool true := fact_at (p := eqv (.bool true)) (by kernel_rfl) rfl (hF 16 (by decide))
  have e76 : c.eval (.tmp 76) = .bool true := fact_at (p := eqv (.bool true)) (by kernel_rfl) rfl (hF 20 (by decide))
  have hw : Region.wanted ({ dst := some 77, op := Op.pick (Operand.tmp 72) (Operand.tmp 76) (Operand.const (Value.bool false)), type := 4, pos := "law.go:38", after := #[{ on := 16, ground := Ground.data }, { on := 20, ground := Ground.data }], guard := none } : Oper) (yielded R13 c.tmps) = true := want_none rfl
  refine does_value ho hw (v := .bool true) ?_ rfl (Below.refl _ _)
  · have ec : ∀ v, c.eval (.const v) = v := fun _ => rfl
    have ef : ∀ f, c.eval (.func f) = .func (.func f) #[] #[] := fun _ => rfl
    generalize c.eval = ρ at *
    clear hF hb hW hw ho
    go_simp

set_option maxRecDepth 10000 in
theorem o13_22 (ad : Option Addr) (cap n : Nat) (a b la lo ka : Int) (g capm two vb : Nat) (kk : Int) (bb : Bool) (Q : Exit → Act → World → Prop) (c : Act) (w : World) (hcap : n + 1 ≤ capm) (hn : n ≤ 1000) (hc2 : capm ≤ 9223372036854775807) (hb : Base13 ad cap n a b la lo ka g capm two vb kk bb c) (hW : World13 n la lo a b ka ad cap g two vb kk bb w) (hF : ∀ j ∈ anc13 22, factsAt (facts13 ad cap n a b la lo ka g capm two vb kk bb) j (val R13 c j) w) :
    Does Tryd.prog R13 Q (factsAt (facts13 ad cap n a b la lo ka g capm two vb kk bb)) 22 c w := by
  have ho : R13[22]? = some ({ dst := some 78, op := Op.move (Operand.tmp 77), type := 4, pos := "law.go:38", after := #[{ on := 21, ground := Ground.data }, { on := 19, ground := Ground.chain }], guard := none } : Oper) := by kernel_rfl
  have e77 : c.eval (.tmp 77) = .bool true := fact_at (p := eqv (.bool true)) (by kernel_rfl) rfl (hF 21 (by decide))
  have hw : Region.wanted ({ dst := some 78, op := Op.move (Operand.tmp 77), type := 4, pos := "law.go:38", after := #[{ on := 21, ground := Ground.data }, { on := 19, ground := Ground.chain }], guard := none } : Oper) (yielded R13 c.tmps) = true := want_none rfl
  refine does_value ho hw (v := .bool true) ?_ rfl (Below.refl _ _)
  · have ec : ∀ v, c.eval (.const v) = v := fun _ => rfl
    have ef : ∀ f, c.eval (.func f) = .func (.func f) #[] #[] := fun _ => rfl
    generalize c.eval = ρ at *
    clear hF hb hW hw ho
    go_simp

set_option maxRecDepth 10000 in
theorem o13_23 (ad : Option Addr) (cap n : Nat) (a b la lo ka : Int) (g capm two vb : Nat) (kk : Int) (bb : Bool) (Q : Exit → Act → World → Prop) (c : Act) (w : World) (hcap : n + 1 ≤ capm) (hn : n ≤ 1000) (hc2 : capm ≤ 9223372036854775807) (hb : Base13 ad cap n a b la lo ka g capm two vb kk bb c) (hW : World13 n la lo a b ka ad cap g two vb kk bb w) (hF : ∀ j ∈ anc13 23, factsAt (facts13 ad cap n a b la lo ka g capm two vb kk bb) j (val R13 c j) w) :
    Does Tryd.prog R13 Q (factsAt (facts13 ad cap n a b la lo ka g capm two vb kk bb)) 23 c w := by
  have ho : R13[23]? = some ({ dst := some 79, op := Op.move (Operand.tmp 1), type := 23, pos := "law.go:38", after := #[{ on := 22, ground := Ground.guard }], guard := some (22, true) } : Oper) := by kernel_rfl
  have e1 := hb.t1
  have hw : Region.wanted ({ dst := some 79, op := Op.move (Operand.tmp 1), type := 23, pos := "law.go:38", after := #[{ on := 22, ground := Ground.guard }], guard := some (22, true) } : Oper) (yielded R13 c.tmps) = true := want_eq (b := true) rfl (hF 22 (by decide))
  refine does_value ho hw (v := .int .i64 a) ?_ rfl (Below.refl _ _)
  · have ec : ∀ v, c.eval (.const v) = v := fun _ => rfl
    have ef : ∀ f, c.eval (.func f) = .func (.func f) #[] #[] := fun _ => rfl
    generalize c.eval = ρ at *
    clear hF hb hW hw ho
    go_simp

set_option maxRecDepth 10000 in
theorem o13_24 (ad : Option Addr) (cap n : Nat) (a b la lo ka : Int) (g capm two vb : Nat) (kk : Int) (bb : Bool) (Q : Exit → Act → World → Prop) (c : Act) (w : World) (hcap : n + 1 ≤ capm) (hn : n ≤ 1000) (hc2 : capm ≤ 9223372036854775807) (hb : Base13 ad cap n a b la lo ka g capm two vb kk bb c) (hW : World13 n la lo a b ka ad cap g two vb kk bb w) (hF : ∀ j ∈ anc13 24, factsAt (facts13 ad cap n a b la lo ka g capm two vb kk bb) j (val R13 c j) w) :
    Does Tryd.prog R13 Q (factsAt (facts13 ad cap n a b la lo ka g capm two vb kk bb)) 24 c w := by
  have ho : R13[24]? = some ({ dst := some 80, op := Op.move (Operand.tmp 2), type := 23, pos := "law.go:38", after := #[{ on := 22, ground := Ground.guard }], guard := some (22, true) } : Oper) := by kernel_rfl
  have e2 := hb.t2
  have hw : Region.wanted ({ dst := some 80, op := Op.move (Operand.tmp 2), type := 23, pos := "law.go:38", after := #[{ on := 22, ground := Ground.guard }], guard := some (22, true) } : Oper) (yielded R13 c.tmps) = true := want_eq (b := true) rfl (hF 22 (by decide))
  refine does_value ho hw (v := .int .i64 b) ?_ rfl (Below.refl _ _)
  · have ec : ∀ v, c.eval (.const v) = v := fun _ => rfl
    have ef : ∀ f, c.eval (.func f) = .func (.func f) #[] #[] := fun _ => rfl
    generalize c.eval = ρ at *
    clear hF hb hW hw ho
    go_simp

set_option maxRecDepth 10000 in
theorem o13_25 (ad : Option Addr) (cap n : Nat) (a b la lo ka : Int) (g capm two vb : Nat) (kk : Int) (bb : Bool) (Q : Exit → Act → World → Prop) (c : Act) (w : World) (hcap : n + 1 ≤ capm) (hn : n ≤ 1000) (hc2 : capm ≤ 9223372036854775807) (hb : Base13 ad cap n a b la lo ka g capm two vb kk bb c) (hW : World13 n la lo a b ka ad cap g two vb kk bb w) (hF : ∀ j ∈ anc13 25, factsAt (facts13 ad cap n a b la lo ka g capm two vb kk bb) j (val R13 c j) w) :
    Does Tryd.prog R13 Q (factsAt (facts13 ad cap n a b la lo ka g capm two vb kk bb)) 25 c w := by
  have ho : R13[25]? = some ({ dst := some 81, op := Op.buildSlice 22 2 #[(0, Operand.tmp 79), (1, Operand.tmp 80)], type := 22, pos := "law.go:38", after := #[{ on := 23, ground := Ground.data }, { on := 24, ground := Ground.data }, { on := 22, ground := Ground.guard }], guard := some (22, true) } : Oper) := by kernel_rfl
  have e79 : c.eval (.tmp 79) = .int .i64 a := fact_at (p := eqv (.int .i64 a)) (by kernel_rfl) rfl (hF 23 (by decide))
  have e80 : c.eval (.tmp 80) = .int .i64 b := fact_at (p := eqv (.int .i64 b)) (by kernel_rfl) rfl (hF 24 (by decide))
  have hw : Region.wanted ({ dst := some 81, op := Op.buildSlice 22 2 #[(0, Operand.tmp 79), (1, Operand.tmp 80)], type := 22, pos := "law.go:38", after := #[{ on := 23, ground := Ground.data }, { on := 24, ground := Ground.data }, { on := 22, ground := Ground.guard }], guard := some (22, true) } : Oper) (yielded R13 c.tmps) = true := want_eq (b := true) rfl (hF 22 (by decide))
  refine does_value ho hw (v := .slice (some ⟨w.heap.size, 0, none⟩) 2 2) (w' := w.alloc (.cells #[.int .i64 a, .int .i64 b] 23)) ?_ ⟨w.heap.size, rfl, by simp, ?_⟩ ((Below.refl _ _).alloc (Nat.le_refl _) _)
  · have ec : ∀ v, c.eval (.const v) = v := fun _ => rfl
    have ef : ∀ f, c.eval (.func f) = .func (.func f) #[] #[] := fun _ => rfl
    generalize c.eval = ρ at *
    clear hF hb hW hw ho
    go_simp
  · intro j hj
    match j, hj with
    | 0, _ => exact cell_new _ _ _ 0 _ rfl
    | 1, _ => exact cell_new _ _ _ 1 _ rfl

set_option maxRecDepth 10000 in
theorem o13_26 (ad : Option Addr) (cap n : Nat) (a b la lo ka : Int) (g capm two vb : Nat) (kk : Int) (bb : Bool) (Q : Exit → Act → World → Prop) (c : Act) (w : World) (hcap : n + 1 ≤ capm) (hn : n ≤ 1000) (hc2 : capm ≤ 9223372036854775807) (hb : Base13 ad cap n a b la lo ka g capm two vb kk bb c) (hW : World13 n la lo a b ka ad cap g two vb kk bb w) (hF : ∀ j ∈ anc13 26, factsAt (facts13 ad cap n a b la lo ka g capm two vb kk bb) j (val R13 c j) w) :
    Does Tryd.prog R13 Q (factsAt (facts13 ad cap n a b la lo ka g capm two vb kk bb)) 26 c w := by
  have ho : R13[26]? = some ({ dst := some 82, op := Op.call { callee := Callee.value (Operand.func 7), args := #[Operand.tmp 81], argTypes := #[22] }, type := 23, pos := "law.go:38", after := #[{ on := 25, ground := Ground.data }, { on := 22, ground := Ground.chain }, { on := 22, ground := Ground.guard }], guard := some (22, true) } : Oper) := by kernel_rfl
  have e81 : laid [a, b] (c.eval (.tmp 81)) w := fact_at (p := laid [a, b]) (by kernel_rfl) rfl (hF 25 (by decide))
  have hw : Region.wanted ({ dst := some 82, op := Op.call { callee := Callee.value (Operand.func 7), args := #[Operand.tmp 81], argTypes := #[22] }, type := 23, pos := "law.go:38", after := #[{ on := 25, ground := Ground.data }, { on := 22, ground := Ground.chain }, { on := 22, ground := Ground.guard }], guard := some (22, true) } : Oper) (yielded R13 c.tmps) = true := want_eq (b := true) rfl (hF 22 (by decide))
  obtain ⟨t, et, ht, hcl⟩ := e81
  refine does_call ho hw (f := 7) (args := #[.slice (some ⟨t, 0, none⟩) 2 2]) ?_ ((and_any t 0 2 2 [a, b] w rfl (by omega) ht (by simpa using hcl)).mono fun e w' ⟨h1, h2⟩ => ⟨_, h1, rfl, h2⟩)
  · have ec : ∀ v, c.eval (.const v) = v := fun _ => rfl
    have ef : ∀ f, c.eval (.func f) = .func (.func f) #[] #[] := fun _ => rfl
    generalize c.eval = ρ at *
    clear hF hb hW hw ho
    go_simp

set_option maxRecDepth 10000 in
theorem o13_27 (ad : Option Addr) (cap n : Nat) (a b la lo ka : Int) (g capm two vb : Nat) (kk : Int) (bb : Bool) (Q : Exit → Act → World → Prop) (c : Act) (w : World) (hcap : n + 1 ≤ capm) (hn : n ≤ 1000) (hc2 : capm ≤ 9223372036854775807) (hb : Base13 ad cap n a b la lo ka g capm two vb kk bb c) (hW : World13 n la lo a b ka ad cap g two vb kk bb w) (hF : ∀ j ∈ anc13 27, factsAt (facts13 ad cap n a b la lo ka g capm two vb kk bb) j (val R13 c j) w) :
    Does Tryd.prog R13 Q (factsAt (facts13 ad cap n a b la lo ka g capm two vb kk bb)) 27 c w := by
  have ho : R13[27]? = some ({ dst := some 83, op := Op.move (Operand.tmp 11), type := 22, pos := "law.go:38", after := #[{ on := 22, ground := Ground.guard }], guard := some (22, true) } : Oper) := by kernel_rfl
  have e11 := hb.t11
  have hw : Region.wanted ({ dst := some 83, op := Op.move (Operand.tmp 11), type := 22, pos := "law.go:38", after := #[{ on := 22, ground := Ground.guard }], guard := some (22, true) } : Oper) (yielded R13 c.tmps) = true := want_eq (b := true) rfl (hF 22 (by decide))
  refine does_value ho hw (v := .slice (some ⟨two, 0, none⟩) 2 2) ?_ rfl (Below.refl _ _)
  · have ec : ∀ v, c.eval (.const v) = v := fun _ => rfl
    have ef : ∀ f, c.eval (.func f) = .func (.func f) #[] #[] := fun _ => rfl
    generalize c.eval = ρ at *
    clear hF hb hW hw ho
    go_simp

set_option maxRecDepth 10000 in
theorem o13_28 (ad : Option Addr) (cap n : Nat) (a b la lo ka : Int) (g capm two vb : Nat) (kk : Int) (bb : Bool) (Q : Exit → Act → World → Prop) (c : Act) (w : World) (hcap : n + 1 ≤ capm) (hn : n ≤ 1000) (hc2 : capm ≤ 9223372036854775807) (hb : Base13 ad cap n a b la lo ka g capm two vb kk bb c) (hW : World13 n la lo a b ka ad cap g two vb kk bb w) (hF : ∀ j ∈ anc13 28, factsAt (facts13 ad cap n a b la lo ka g capm two vb kk bb) j (val R13 c j) w) :
    Does Tryd.prog R13 Q (factsAt (facts13 ad cap n a b la lo ka g capm two vb kk bb)) 28 c w := by
  have ho : R13[28]? = some ({ dst := some 84, op := Op.call { callee := Callee.value (Operand.func 11), args := #[Operand.tmp 83], argTypes := #[22] }, type := 23, pos := "law.go:38", after := #[{ on := 27, ground := Ground.data }, { on := 26, ground := Ground.chain }, { on := 22, ground := Ground.guard }], guard := some (22, true) } : Oper) := by kernel_rfl
  have e83 : c.eval (.tmp 83) = .slice (some ⟨two, 0, none⟩) 2 2 := fact_at (p := eqv (.slice (some ⟨two, 0, none⟩) 2 2)) (by kernel_rfl) rfl (hF 27 (by decide))
  have hw : Region.wanted ({ dst := some 84, op := Op.call { callee := Callee.value (Operand.func 11), args := #[Operand.tmp 83], argTypes := #[22] }, type := 23, pos := "law.go:38", after := #[{ on := 27, ground := Ground.data }, { on := 26, ground := Ground.chain }, { on := 22, ground := Ground.guard }], guard := some (22, true) } : Oper) (yielded R13 c.tmps) = true := want_eq (b := true) rfl (hF 22 (by decide))
  refine does_call ho hw (f := 11) (args := #[.slice (some ⟨two, 0, none⟩) 2 2]) ?_ ((rand_any two 0 2 [a, b] w (by simp) (two_cells hW.tw0 hW.tw1)).mono fun e w' ⟨h1, h2⟩ => ⟨_, h1, rfl, by subst h2; exact Below.refl _ _⟩)
  · have ec : ∀ v, c.eval (.const v) = v := fun _ => rfl
    have ef : ∀ f, c.eval (.func f) = .func (.func f) #[] #[] := fun _ => rfl
    generalize c.eval = ρ at *
    clear hF hb hW hw ho
    go_simp

set_option maxRecDepth 10000 in
theorem o13_29 (ad : Option Addr) (cap n : Nat) (a b la lo ka : Int) (g capm two vb : Nat) (kk : Int) (bb : Bool) (Q : Exit → Act → World → Prop) (c : Act) (w : World) (hcap : n + 1 ≤ capm) (hn : n ≤ 1000) (hc2 : capm ≤ 9223372036854775807) (hb : Base13 ad cap n a b la lo ka g capm two vb kk bb c) (hW : World13 n la lo a b ka ad cap g two vb kk bb w) (hF : ∀ j ∈ anc13 29, factsAt (facts13 ad cap n a b la lo ka g capm two vb kk bb) j (val R13 c j) w) :
    Does Tryd.prog R13 Q (factsAt (facts13 ad cap n a b la lo ka g capm two vb kk bb)) 29 c w := by
  have ho : R13[29]? = some ({ dst := some 85, op := Op.binOp BinOp.eql 23 (Operand.tmp 82) (Operand.tmp 84) 23, type := 4, pos := "law.go:38", after := #[{ on := 26, ground := Ground.data }, { on := 28, ground := Ground.data }, { on := 22, ground := Ground.guard }], guard := some (22, true) } : Oper) := by kernel_rfl
  have e82 : c.eval (.tmp 82) = .int .i64 (andL [a, b]) := fact_at (p := eqv (.int .i64 (andL [a, b]))) (by kernel_rfl) rfl (hF 26 (by decide))
  have e84 : c.eval (.tmp 84) = .int .i64 (andL [a, b]) := fact_at (p := eqv (.int .i64 (andL [a, b]))) (by kernel_rfl) rfl (hF 28 (by decide))
  have hw : Region.wanted ({ dst := some 85, op := Op.binOp BinOp.eql 23 (Operand.tmp 82) (Operand.tmp 84) 23, type := 4, pos := "law.go:38", after := #[{ on := 26, ground := Ground.data }, { on := 28, ground := Ground.data }, { on := 22, ground := Ground.guard }], guard := some (22, true) } : Oper) (yielded R13 c.tmps) = true := want_eq (b := true) rfl (hF 22 (by decide))
  refine does_value ho hw (v := .bool true) ?_ rfl (Below.refl _ _)
  · have ec : ∀ v, c.eval (.const v) = v := fun _ => rfl
    have ef : ∀ f, c.eval (.func f) = .func (.func f) #[] #[] := fun _ => rfl
    generalize c.eval = ρ at *
    clear hF hb hW hw ho
    go_simp

set_option maxRecDepth 10000 in
theorem o13_30 (ad : Option Addr) (cap n : Nat) (a b la lo ka : Int) (g capm two vb : Nat) (kk : Int) (bb : Bool) (Q : Exit → Act → World → Prop) (c : Act) (w : World) (hcap : n + 1 ≤ capm) (hn : n ≤ 1000) (hc2 : capm ≤ 9223372036854775807) (hb : Base13 ad cap n a b la lo ka g capm two vb kk bb c) (hW : World13 n la lo a b ka ad cap g two vb kk bb w) (hF : ∀ j ∈ anc13 30, factsAt (facts13 ad cap n a b la lo ka g capm two vb kk bb) j (val R13 c j) w) :
    Does Tryd.prog R13 Q (factsAt (facts13 ad cap n a b la lo ka g capm two vb kk bb)) 30 c w := by
  have ho : R13[30]? = some ({ dst := some 86, op := Op.pick (Operand.tmp 78) (Operand.tmp 85) (Operand.const (Value.bool false)), type := 4, pos := "law.go:38", after := #[{ on := 22, ground := Ground.data }, { on := 29, ground := Ground.data }], guard := none } : Oper) := by kernel_rfl
  have e78 : c.eval (.tmp 78) = .bool true := fact_at (p := eqv (.bool true)) (by kernel_rfl) rfl (hF 22 (by decide))
  have e85 : c.eval (.tmp 85) = .bool true := fact_at (p := eqv (.bool true)) (by kernel_rfl) rfl (hF 29 (by decide))
  have hw : Region.wanted ({ dst := some 86, op := Op.pick (Operand.tmp 78) (Operand.tmp 85) (Operand.const (Value.bool false)), type := 4, pos := "law.go:38", after := #[{ on := 22, ground := Ground.data }, { on := 29, ground := Ground.data }], guard := none } : Oper) (yielded R13 c.tmps) = true := want_none rfl
  refine does_value ho hw (v := .bool true) ?_ rfl (Below.refl _ _)
  · have ec : ∀ v, c.eval (.const v) = v := fun _ => rfl
    have ef : ∀ f, c.eval (.func f) = .func (.func f) #[] #[] := fun _ => rfl
    generalize c.eval = ρ at *
    clear hF hb hW hw ho
    go_simp

set_option maxRecDepth 10000 in
theorem o13_31 (ad : Option Addr) (cap n : Nat) (a b la lo ka : Int) (g capm two vb : Nat) (kk : Int) (bb : Bool) (Q : Exit → Act → World → Prop) (c : Act) (w : World) (hcap : n + 1 ≤ capm) (hn : n ≤ 1000) (hc2 : capm ≤ 9223372036854775807) (hb : Base13 ad cap n a b la lo ka g capm two vb kk bb c) (hW : World13 n la lo a b ka ad cap g two vb kk bb w) (hF : ∀ j ∈ anc13 31, factsAt (facts13 ad cap n a b la lo ka g capm two vb kk bb) j (val R13 c j) w) :
    Does Tryd.prog R13 Q (factsAt (facts13 ad cap n a b la lo ka g capm two vb kk bb)) 31 c w := by
  have ho : R13[31]? = some ({ dst := some 87, op := Op.move (Operand.tmp 86), type := 4, pos := "law.go:38", after := #[{ on := 30, ground := Ground.data }, { on := 28, ground := Ground.chain }], guard := none } : Oper) := by kernel_rfl
  have e86 : c.eval (.tmp 86) = .bool true := fact_at (p := eqv (.bool true)) (by kernel_rfl) rfl (hF 30 (by decide))
  have hw : Region.wanted ({ dst := some 87, op := Op.move (Operand.tmp 86), type := 4, pos := "law.go:38", after := #[{ on := 30, ground := Ground.data }, { on := 28, ground := Ground.chain }], guard := none } : Oper) (yielded R13 c.tmps) = true := want_none rfl
  refine does_value ho hw (v := .bool true) ?_ rfl (Below.refl _ _)
  · have ec : ∀ v, c.eval (.const v) = v := fun _ => rfl
    have ef : ∀ f, c.eval (.func f) = .func (.func f) #[] #[] := fun _ => rfl
    generalize c.eval = ρ at *
    clear hF hb hW hw ho
    go_simp

set_option maxRecDepth 10000 in
theorem o13_32 (ad : Option Addr) (cap n : Nat) (a b la lo ka : Int) (g capm two vb : Nat) (kk : Int) (bb : Bool) (Q : Exit → Act → World → Prop) (c : Act) (w : World) (hcap : n + 1 ≤ capm) (hn : n ≤ 1000) (hc2 : capm ≤ 9223372036854775807) (hb : Base13 ad cap n a b la lo ka g capm two vb kk bb c) (hW : World13 n la lo a b ka ad cap g two vb kk bb w) (hF : ∀ j ∈ anc13 32, factsAt (facts13 ad cap n a b la lo ka g capm two vb kk bb) j (val R13 c j) w) :
    Does Tryd.prog R13 Q (factsAt (facts13 ad cap n a b la lo ka g capm two vb kk bb)) 32 c w := by
  have ho : R13[32]? = some ({ dst := some 88, op := Op.move (Operand.tmp 1), type := 23, pos := "law.go:38", after := #[{ on := 31, ground := Ground.guard }], guard := some (31, true) } : Oper) := by kernel_rfl
  have e1 := hb.t1
  have hw : Region.wanted ({ dst := some 88, op := Op.move (Operand.tmp 1), type := 23, pos := "law.go:38", after := #[{ on := 31, ground := Ground.guard }], guard := some (31, true) } : Oper) (yielded R13 c.tmps) = true := want_eq (b := true) rfl (hF 31 (by decide))
  refine does_value ho hw (v := .int .i64 a) ?_ rfl (Below.refl _ _)
  · have ec : ∀ v, c.eval (.const v) = v := fun _ => rfl
    have ef : ∀ f, c.eval (.func f) = .func (.func f) #[] #[] := fun _ => rfl
    generalize c.eval = ρ at *
    clear hF hb hW hw ho
    go_simp

set_option maxRecDepth 10000 in
theorem o13_33 (ad : Option Addr) (cap n : Nat) (a b la lo ka : Int) (g capm two vb : Nat) (kk : Int) (bb : Bool) (Q : Exit → Act → World → Prop) (c : Act) (w : World) (hcap : n + 1 ≤ capm) (hn : n ≤ 1000) (hc2 : capm ≤ 9223372036854775807) (hb : Base13 ad cap n a b la lo ka g capm two vb kk bb c) (hW : World13 n la lo a b ka ad cap g two vb kk bb w) (hF : ∀ j ∈ anc13 33, factsAt (facts13 ad cap n a b la lo ka g capm two vb kk bb) j (val R13 c j) w) :
    Does Tryd.prog R13 Q (factsAt (facts13 ad cap n a b la lo ka g capm two vb kk bb)) 33 c w := by
  have ho : R13[33]? = some ({ dst := some 89, op := Op.move (Operand.tmp 2), type := 23, pos := "law.go:38", after := #[{ on := 31, ground := Ground.guard }], guard := some (31, true) } : Oper) := by kernel_rfl
  have e2 := hb.t2
  have hw : Region.wanted ({ dst := some 89, op := Op.move (Operand.tmp 2), type := 23, pos := "law.go:38", after := #[{ on := 31, ground := Ground.guard }], guard := some (31, true) } : Oper) (yielded R13 c.tmps) = true := want_eq (b := true) rfl (hF 31 (by decide))
  refine does_value ho hw (v := .int .i64 b) ?_ rfl (Below.refl _ _)
  · have ec : ∀ v, c.eval (.const v) = v := fun _ => rfl
    have ef : ∀ f, c.eval (.func f) = .func (.func f) #[] #[] := fun _ => rfl
    generalize c.eval = ρ at *
    clear hF hb hW hw ho
    go_simp

set_option maxRecDepth 10000 in
theorem o13_34 (ad : Option Addr) (cap n : Nat) (a b la lo ka : Int) (g capm two vb : Nat) (kk : Int) (bb : Bool) (Q : Exit → Act → World → Prop) (c : Act) (w : World) (hcap : n + 1 ≤ capm) (hn : n ≤ 1000) (hc2 : capm ≤ 9223372036854775807) (hb : Base13 ad cap n a b la lo ka g capm two vb kk bb c) (hW : World13 n la lo a b ka ad cap g two vb kk bb w) (hF : ∀ j ∈ anc13 34, factsAt (facts13 ad cap n a b la lo ka g capm two vb kk bb) j (val R13 c j) w) :
    Does Tryd.prog R13 Q (factsAt (facts13 ad cap n a b la lo ka g capm two vb kk bb)) 34 c w := by
  have ho : R13[34]? = some ({ dst := some 90, op := Op.buildSlice 22 2 #[(0, Operand.tmp 88), (1, Operand.tmp 89)], type := 22, pos := "law.go:38", after := #[{ on := 32, ground := Ground.data }, { on := 33, ground := Ground.data }, { on := 31, ground := Ground.guard }], guard := some (31, true) } : Oper) := by kernel_rfl
  have e88 : c.eval (.tmp 88) = .int .i64 a := fact_at (p := eqv (.int .i64 a)) (by kernel_rfl) rfl (hF 32 (by decide))
  have e89 : c.eval (.tmp 89) = .int .i64 b := fact_at (p := eqv (.int .i64 b)) (by kernel_rfl) rfl (hF 33 (by decide))
  have hw : Region.wanted ({ dst := some 90, op := Op.buildSlice 22 2 #[(0, Operand.tmp 88), (1, Operand.tmp 89)], type := 22, pos := "law.go:38", after := #[{ on := 32, ground := Ground.data }, { on := 33, ground := Ground.data }, { on := 31, ground := Ground.guard }], guard := some (31, true) } : Oper) (yielded R13 c.tmps) = true := want_eq (b := true) rfl (hF 31 (by decide))
  refine does_value ho hw (v := .slice (some ⟨w.heap.size, 0, none⟩) 2 2) (w' := w.alloc (.cells #[.int .i64 a, .int .i64 b] 23)) ?_ ⟨w.heap.size, rfl, by simp, ?_⟩ ((Below.refl _ _).alloc (Nat.le_refl _) _)
  · have ec : ∀ v, c.eval (.const v) = v := fun _ => rfl
    have ef : ∀ f, c.eval (.func f) = .func (.func f) #[] #[] := fun _ => rfl
    generalize c.eval = ρ at *
    clear hF hb hW hw ho
    go_simp
  · intro j hj
    match j, hj with
    | 0, _ => exact cell_new _ _ _ 0 _ rfl
    | 1, _ => exact cell_new _ _ _ 1 _ rfl

set_option maxRecDepth 10000 in
theorem o13_35 (ad : Option Addr) (cap n : Nat) (a b la lo ka : Int) (g capm two vb : Nat) (kk : Int) (bb : Bool) (Q : Exit → Act → World → Prop) (c : Act) (w : World) (hcap : n + 1 ≤ capm) (hn : n ≤ 1000) (hc2 : capm ≤ 9223372036854775807) (hb : Base13 ad cap n a b la lo ka g capm two vb kk bb c) (hW : World13 n la lo a b ka ad cap g two vb kk bb w) (hF : ∀ j ∈ anc13 35, factsAt (facts13 ad cap n a b la lo ka g capm two vb kk bb) j (val R13 c j) w) :
    Does Tryd.prog R13 Q (factsAt (facts13 ad cap n a b la lo ka g capm two vb kk bb)) 35 c w := by
  have ho : R13[35]? = some ({ dst := some 91, op := Op.call { callee := Callee.value (Operand.func 8), args := #[Operand.tmp 90], argTypes := #[22] }, type := 23, pos := "law.go:38", after := #[{ on := 34, ground := Ground.data }, { on := 31, ground := Ground.chain }, { on := 31, ground := Ground.guard }], guard := some (31, true) } : Oper) := by kernel_rfl
  have e90 : laid [a, b] (c.eval (.tmp 90)) w := fact_at (p := laid [a, b]) (by kernel_rfl) rfl (hF 34 (by decide))
  have hw : Region.wanted ({ dst := some 91, op := Op.call { callee := Callee.value (Operand.func 8), args := #[Operand.tmp 90], argTypes := #[22] }, type := 23, pos := "law.go:38", after := #[{ on := 34, ground := Ground.data }, { on := 31, ground := Ground.chain }, { on := 31, ground := Ground.guard }], guard := some (31, true) } : Oper) (yielded R13 c.tmps) = true := want_eq (b := true) rfl (hF 31 (by decide))
  obtain ⟨t, et, ht, hcl⟩ := e90
  refine does_call ho hw (f := 8) (args := #[.slice (some ⟨t, 0, none⟩) 2 2]) ?_ ((or_any t 0 2 2 [a, b] w rfl (by omega) ht (by simpa using hcl)).mono fun e w' ⟨h1, h2⟩ => ⟨_, h1, rfl, h2⟩)
  · have ec : ∀ v, c.eval (.const v) = v := fun _ => rfl
    have ef : ∀ f, c.eval (.func f) = .func (.func f) #[] #[] := fun _ => rfl
    generalize c.eval = ρ at *
    clear hF hb hW hw ho
    go_simp

set_option maxRecDepth 10000 in
theorem o13_36 (ad : Option Addr) (cap n : Nat) (a b la lo ka : Int) (g capm two vb : Nat) (kk : Int) (bb : Bool) (Q : Exit → Act → World → Prop) (c : Act) (w : World) (hcap : n + 1 ≤ capm) (hn : n ≤ 1000) (hc2 : capm ≤ 9223372036854775807) (hb : Base13 ad cap n a b la lo ka g capm two vb kk bb c) (hW : World13 n la lo a b ka ad cap g two vb kk bb w) (hF : ∀ j ∈ anc13 36, factsAt (facts13 ad cap n a b la lo ka g capm two vb kk bb) j (val R13 c j) w) :
    Does Tryd.prog R13 Q (factsAt (facts13 ad cap n a b la lo ka g capm two vb kk bb)) 36 c w := by
  have ho : R13[36]? = some ({ dst := some 92, op := Op.move (Operand.tmp 11), type := 22, pos := "law.go:38", after := #[{ on := 31, ground := Ground.guard }], guard := some (31, true) } : Oper) := by kernel_rfl
  have e11 := hb.t11
  have hw : Region.wanted ({ dst := some 92, op := Op.move (Operand.tmp 11), type := 22, pos := "law.go:38", after := #[{ on := 31, ground := Ground.guard }], guard := some (31, true) } : Oper) (yielded R13 c.tmps) = true := want_eq (b := true) rfl (hF 31 (by decide))
  refine does_value ho hw (v := .slice (some ⟨two, 0, none⟩) 2 2) ?_ rfl (Below.refl _ _)
  · have ec : ∀ v, c.eval (.const v) = v := fun _ => rfl
    have ef : ∀ f, c.eval (.func f) = .func (.func f) #[] #[] := fun _ => rfl
    generalize c.eval = ρ at *
    clear hF hb hW hw ho
    go_simp

set_option maxRecDepth 10000 in
theorem o13_37 (ad : Option Addr) (cap n : Nat) (a b la lo ka : Int) (g capm two vb : Nat) (kk : Int) (bb : Bool) (Q : Exit → Act → World → Prop) (c : Act) (w : World) (hcap : n + 1 ≤ capm) (hn : n ≤ 1000) (hc2 : capm ≤ 9223372036854775807) (hb : Base13 ad cap n a b la lo ka g capm two vb kk bb c) (hW : World13 n la lo a b ka ad cap g two vb kk bb w) (hF : ∀ j ∈ anc13 37, factsAt (facts13 ad cap n a b la lo ka g capm two vb kk bb) j (val R13 c j) w) :
    Does Tryd.prog R13 Q (factsAt (facts13 ad cap n a b la lo ka g capm two vb kk bb)) 37 c w := by
  have ho : R13[37]? = some ({ dst := some 93, op := Op.call { callee := Callee.value (Operand.func 12), args := #[Operand.tmp 92], argTypes := #[22] }, type := 23, pos := "law.go:38", after := #[{ on := 36, ground := Ground.data }, { on := 35, ground := Ground.chain }, { on := 31, ground := Ground.guard }], guard := some (31, true) } : Oper) := by kernel_rfl
  have e92 : c.eval (.tmp 92) = .slice (some ⟨two, 0, none⟩) 2 2 := fact_at (p := eqv (.slice (some ⟨two, 0, none⟩) 2 2)) (by kernel_rfl) rfl (hF 36 (by decide))
  have hw : Region.wanted ({ dst := some 93, op := Op.call { callee := Callee.value (Operand.func 12), args := #[Operand.tmp 92], argTypes := #[22] }, type := 23, pos := "law.go:38", after := #[{ on := 36, ground := Ground.data }, { on := 35, ground := Ground.chain }, { on := 31, ground := Ground.guard }], guard := some (31, true) } : Oper) (yielded R13 c.tmps) = true := want_eq (b := true) rfl (hF 31 (by decide))
  refine does_call ho hw (f := 12) (args := #[.slice (some ⟨two, 0, none⟩) 2 2]) ?_ ((ror_any two 0 2 [a, b] w (by simp) (two_cells hW.tw0 hW.tw1)).mono fun e w' ⟨h1, h2⟩ => ⟨_, h1, rfl, by subst h2; exact Below.refl _ _⟩)
  · have ec : ∀ v, c.eval (.const v) = v := fun _ => rfl
    have ef : ∀ f, c.eval (.func f) = .func (.func f) #[] #[] := fun _ => rfl
    generalize c.eval = ρ at *
    clear hF hb hW hw ho
    go_simp

set_option maxRecDepth 10000 in
theorem o13_38 (ad : Option Addr) (cap n : Nat) (a b la lo ka : Int) (g capm two vb : Nat) (kk : Int) (bb : Bool) (Q : Exit → Act → World → Prop) (c : Act) (w : World) (hcap : n + 1 ≤ capm) (hn : n ≤ 1000) (hc2 : capm ≤ 9223372036854775807) (hb : Base13 ad cap n a b la lo ka g capm two vb kk bb c) (hW : World13 n la lo a b ka ad cap g two vb kk bb w) (hF : ∀ j ∈ anc13 38, factsAt (facts13 ad cap n a b la lo ka g capm two vb kk bb) j (val R13 c j) w) :
    Does Tryd.prog R13 Q (factsAt (facts13 ad cap n a b la lo ka g capm two vb kk bb)) 38 c w := by
  have ho : R13[38]? = some ({ dst := some 94, op := Op.binOp BinOp.eql 23 (Operand.tmp 91) (Operand.tmp 93) 23, type := 4, pos := "law.go:38", after := #[{ on := 35, ground := Ground.data }, { on := 37, ground := Ground.data }, { on := 31, ground := Ground.guard }], guard := some (31, true) } : Oper) := by kernel_rfl
  have e91 : c.eval (.tmp 91) = .int .i64 (orL [a, b]) := fact_at (p := eqv (.int .i64 (orL [a, b]))) (by kernel_rfl) rfl (hF 35 (by decide))
  have e93 : c.eval (.tmp 93) = .int .i64 (orL [a, b]) := fact_at (p := eqv (.int .i64 (orL [a, b]))) (by kernel_rfl) rfl (hF 37 (by decide))
  have hw : Region.wanted ({ dst := some 94, op := Op.binOp BinOp.eql 23 (Operand.tmp 91) (Operand.tmp 93) 23, type := 4, pos := "law.go:38", after := #[{ on := 35, ground := Ground.data }, { on := 37, ground := Ground.data }, { on := 31, ground := Ground.guard }], guard := some (31, true) } : Oper) (yielded R13 c.tmps) = true := want_eq (b := true) rfl (hF 31 (by decide))
  refine does_value ho hw (v := .bool true) ?_ rfl (Below.refl _ _)
  · have ec : ∀ v, c.eval (.const v) = v := fun _ => rfl
    have ef : ∀ f, c.eval (.func f) = .func (.func f) #[] #[] := fun _ => rfl
    generalize c.eval = ρ at *
    clear hF hb hW hw ho
    go_simp

set_option maxRecDepth 10000 in
theorem o13_39 (ad : Option Addr) (cap n : Nat) (a b la lo ka : Int) (g capm two vb : Nat) (kk : Int) (bb : Bool) (Q : Exit → Act → World → Prop) (c : Act) (w : World) (hcap : n + 1 ≤ capm) (hn : n ≤ 1000) (hc2 : capm ≤ 9223372036854775807) (hb : Base13 ad cap n a b la lo ka g capm two vb kk bb c) (hW : World13 n la lo a b ka ad cap g two vb kk bb w) (hF : ∀ j ∈ anc13 39, factsAt (facts13 ad cap n a b la lo ka g capm two vb kk bb) j (val R13 c j) w) :
    Does Tryd.prog R13 Q (factsAt (facts13 ad cap n a b la lo ka g capm two vb kk bb)) 39 c w := by
  have ho : R13[39]? = some ({ dst := some 95, op := Op.pick (Operand.tmp 87) (Operand.tmp 94) (Operand.const (Value.bool false)), type := 4, pos := "law.go:38", after := #[{ on := 31, ground := Ground.data }, { on := 38, ground := Ground.data }], guard := none } : Oper) := by kernel_rfl
  have e87 : c.eval (.tmp 87) = .bool true := fact_at (p := eqv (.bool true)) (by kernel_rfl) rfl (hF 31 (by decide))
  have e94 : c.eval (.tmp 94) = .bool true := fact_at (p := eqv (.bool true)) (by kernel_rfl) rfl (hF 38 (by decide))
  have hw : Region.wanted ({ dst := some 95, op := Op.pick (Operand.tmp 87) (Operand.tmp 94) (Operand.const (Value.bool false)), type := 4, pos := "law.go:38", after := #[{ on := 31, ground := Ground.data }, { on := 38, ground := Ground.data }], guard := none } : Oper) (yielded R13 c.tmps) = true := want_none rfl
  refine does_value ho hw (v := .bool true) ?_ rfl (Below.refl _ _)
  · have ec : ∀ v, c.eval (.const v) = v := fun _ => rfl
    have ef : ∀ f, c.eval (.func f) = .func (.func f) #[] #[] := fun _ => rfl
    generalize c.eval = ρ at *
    clear hF hb hW hw ho
    go_simp

set_option maxRecDepth 10000 in
theorem o13_40 (ad : Option Addr) (cap n : Nat) (a b la lo ka : Int) (g capm two vb : Nat) (kk : Int) (bb : Bool) (Q : Exit → Act → World → Prop) (c : Act) (w : World) (hcap : n + 1 ≤ capm) (hn : n ≤ 1000) (hc2 : capm ≤ 9223372036854775807) (hb : Base13 ad cap n a b la lo ka g capm two vb kk bb c) (hW : World13 n la lo a b ka ad cap g two vb kk bb w) (hF : ∀ j ∈ anc13 40, factsAt (facts13 ad cap n a b la lo ka g capm two vb kk bb) j (val R13 c j) w) :
    Does Tryd.prog R13 Q (factsAt (facts13 ad cap n a b la lo ka g capm two vb kk bb)) 40 c w := by
  have ho : R13[40]? = some ({ dst := some 96, op := Op.move (Operand.tmp 95), type := 4, pos := "law.go:38", after := #[{ on := 39, ground := Ground.data }, { on := 37, ground := Ground.chain }], guard := none } : Oper) := by kernel_rfl
  have e95 : c.eval (.tmp 95) = .bool true := fact_at (p := eqv (.bool true)) (by kernel_rfl) rfl (hF 39 (by decide))
  have hw : Region.wanted ({ dst := some 96, op := Op.move (Operand.tmp 95), type := 4, pos := "law.go:38", after := #[{ on := 39, ground := Ground.data }, { on := 37, ground := Ground.chain }], guard := none } : Oper) (yielded R13 c.tmps) = true := want_none rfl
  refine does_value ho hw (v := .bool true) ?_ rfl (Below.refl _ _)
  · have ec : ∀ v, c.eval (.const v) = v := fun _ => rfl
    have ef : ∀ f, c.eval (.func f) = .func (.func f) #[] #[] := fun _ => rfl
    generalize c.eval = ρ at *
    clear hF hb hW hw ho
    go_simp

set_option maxRecDepth 10000 in
theorem o13_41 (ad : Option Addr) (cap n : Nat) (a b la lo ka : Int) (g capm two vb : Nat) (kk : Int) (bb : Bool) (Q : Exit → Act → World → Prop) (c : Act) (w : World) (hcap : n + 1 ≤ capm) (hn : n ≤ 1000) (hc2 : capm ≤ 9223372036854775807) (hb : Base13 ad cap n a b la lo ka g capm two vb kk bb c) (hW : World13 n la lo a b ka ad cap g two vb kk bb w) (hF : ∀ j ∈ anc13 41, factsAt (facts13 ad cap n a b la lo ka g capm two vb kk bb) j (val R13 c j) w) :
    Does Tryd.prog R13 Q (factsAt (facts13 ad cap n a b la lo ka g capm two vb kk bb)) 41 c w := by
  have ho : R13[41]? = some ({ dst := some 97, op := Op.move (Operand.tmp 1), type := 23, pos := "law.go:38", after := #[{ on := 40, ground := Ground.guard }], guard := some (40, true) } : Oper) := by kernel_rfl
  have e1 := hb.t1
  have hw : Region.wanted ({ dst := some 97, op := Op.move (Operand.tmp 1), type := 23, pos := "law.go:38", after := #[{ on := 40, ground := Ground.guard }], guard := some (40, true) } : Oper) (yielded R13 c.tmps) = true := want_eq (b := true) rfl (hF 40 (by decide))
  refine does_value ho hw (v := .int .i64 a) ?_ rfl (Below.refl _ _)
  · have ec : ∀ v, c.eval (.const v) = v := fun _ => rfl
    have ef : ∀ f, c.eval (.func f) = .func (.func f) #[] #[] := fun _ => rfl
    generalize c.eval = ρ at *
    clear hF hb hW hw ho
    go_simp

set_option maxRecDepth 10000 in
theorem o13_42 (ad : Option Addr) (cap n : Nat) (a b la lo ka : Int) (g capm two vb : Nat) (kk : Int) (bb : Bool) (Q : Exit → Act → World → Prop) (c : Act) (w : World) (hcap : n + 1 ≤ capm) (hn : n ≤ 1000) (hc2 : capm ≤ 9223372036854775807) (hb : Base13 ad cap n a b la lo ka g capm two vb kk bb c) (hW : World13 n la lo a b ka ad cap g two vb kk bb w) (hF : ∀ j ∈ anc13 42, factsAt (facts13 ad cap n a b la lo ka g capm two vb kk bb) j (val R13 c j) w) :
    Does Tryd.prog R13 Q (factsAt (facts13 ad cap n a b la lo ka g capm two vb kk bb)) 42 c w := by
  have ho : R13[42]? = some ({ dst := some 98, op := Op.move (Operand.tmp 2), type := 23, pos := "law.go:38", after := #[{ on := 40, ground := Ground.guard }], guard := some (40, true) } : Oper) := by kernel_rfl
  have e2 := hb.t2
  have hw : Region.wanted ({ dst := some 98, op := Op.move (Operand.tmp 2), type := 23, pos := "law.go:38", after := #[{ on := 40, ground := Ground.guard }], guard := some (40, true) } : Oper) (yielded R13 c.tmps) = true := want_eq (b := true) rfl (hF 40 (by decide))
  refine does_value ho hw (v := .int .i64 b) ?_ rfl (Below.refl _ _)
  · have ec : ∀ v, c.eval (.const v) = v := fun _ => rfl
    have ef : ∀ f, c.eval (.func f) = .func (.func f) #[] #[] := fun _ => rfl
    generalize c.eval = ρ at *
    clear hF hb hW hw ho
    go_simp

set_option maxRecDepth 10000 in
theorem o13_43 (ad : Option Addr) (cap n : Nat) (a b la lo ka : Int) (g capm two vb : Nat) (kk : Int) (bb : Bool) (Q : Exit → Act → World → Prop) (c : Act) (w : World) (hcap : n + 1 ≤ capm) (hn : n ≤ 1000) (hc2 : capm ≤ 9223372036854775807) (hb : Base13 ad cap n a b la lo ka g capm two vb kk bb c) (hW : World13 n la lo a b ka ad cap g two vb kk bb w) (hF : ∀ j ∈ anc13 43, factsAt (facts13 ad cap n a b la lo ka g capm two vb kk bb) j (val R13 c j) w) :
    Does Tryd.prog R13 Q (factsAt (facts13 ad cap n a b la lo ka g capm two vb kk bb)) 43 c w := by
  have ho : R13[43]? = some ({ dst := some 99, op := Op.call { callee := Callee.value (Operand.func 13), args := #[Operand.tmp 97, Operand.tmp 98], argTypes := #[23, 23] }, type := 23, pos := "law.go:38", after := #[{ on := 41, ground := Ground.data }, { on := 42, ground := Ground.data }, { on := 40, ground := Ground.chain }, { on := 40, ground := Ground.guard }], guard := some (40, true) } : Oper) := by kernel_rfl
  have e97 : c.eval (.tmp 97) = .int .i64 a := fact_at (p := eqv (.int .i64 a)) (by kernel_rfl) rfl (hF 41 (by decide))
  have e98 : c.eval (.tmp 98) = .int .i64 b := fact_at (p := eqv (.int .i64 b)) (by kernel_rfl) rfl (hF 42 (by decide))
  have hw : Region.wanted ({ dst := some 99, op := Op.call { callee := Callee.value (Operand.func 13), args := #[Operand.tmp 97, Operand.tmp 98], argTypes := #[23, 23] }, type := 23, pos := "law.go:38", after := #[{ on := 41, ground := Ground.data }, { on := 42, ground := Ground.data }, { on := 40, ground := Ground.chain }, { on := 40, ground := Ground.guard }], guard := some (40, true) } : Oper) (yielded R13 c.tmps) = true := want_eq (b := true) rfl (hF 40 (by decide))
  refine does_call ho hw (f := 13) (args := #[.int .i64 a, .int .i64 b]) ?_ ((xor_any a b w).mono fun e w' ⟨h1, h2⟩ => ⟨_, h1, rfl, h2⟩)
  · have ec : ∀ v, c.eval (.const v) = v := fun _ => rfl
    have ef : ∀ f, c.eval (.func f) = .func (.func f) #[] #[] := fun _ => rfl
    generalize c.eval = ρ at *
    clear hF hb hW hw ho
    go_simp

set_option maxRecDepth 10000 in
theorem o13_44 (ad : Option Addr) (cap n : Nat) (a b la lo ka : Int) (g capm two vb : Nat) (kk : Int) (bb : Bool) (Q : Exit → Act → World → Prop) (c : Act) (w : World) (hcap : n + 1 ≤ capm) (hn : n ≤ 1000) (hc2 : capm ≤ 9223372036854775807) (hb : Base13 ad cap n a b la lo ka g capm two vb kk bb c) (hW : World13 n la lo a b ka ad cap g two vb kk bb w) (hF : ∀ j ∈ anc13 44, factsAt (facts13 ad cap n a b la lo ka g capm two vb kk bb) j (val R13 c j) w) :
    Does Tryd.prog R13 Q (factsAt (facts13 ad cap n a b la lo ka g capm two vb kk bb)) 44 c w := by
  have ho : R13[44]? = some ({ dst := some 100, op := Op.move (Operand.tmp 1), type := 23, pos := "law.go:38", after := #[{ on := 40, ground := Ground.guard }], guard := some (40, true) } : Oper) := by kernel_rfl
  have e1 := hb.t1
  have hw : Region.wanted ({ dst := some 100, op := Op.move (Operand.tmp 1), type := 23, pos := "law.go:38", after := #[{ on := 40, ground := Ground.guard }], guard := some (40, true) } : Oper) (yielded R13 c.tmps) = true := want_eq (b := true) rfl (hF 40 (by decide))
  refine does_value ho hw (v := .int .i64 a) ?_ rfl (Below.refl _ _)
  · have ec : ∀ v, c.eval (.const v) = v := fun _ => rfl
    have ef : ∀ f, c.eval (.func f) = .func (.func f) #[] #[] := fun _ => rfl
    generalize c.eval = ρ at *
    clear hF hb hW hw ho
    go_simp

set_option maxRecDepth 10000 in
theorem o13_45 (ad : Option Addr) (cap n : Nat) (a b la lo ka : Int) (g capm two vb : Nat) (kk : Int) (bb : Bool) (Q : Exit → Act → World → Prop) (c : Act) (w : World) (hcap : n + 1 ≤ capm) (hn : n ≤ 1000) (hc2 : capm ≤ 9223372036854775807) (hb : Base13 ad cap n a b la lo ka g capm two vb kk bb c) (hW : World13 n la lo a b ka ad cap g two vb kk bb w) (hF : ∀ j ∈ anc13 45, factsAt (facts13 ad cap n a b la lo ka g capm two vb kk bb) j (val R13 c j) w) :
    Does Tryd.prog R13 Q (factsAt (facts13 ad cap n a b la lo ka g capm two vb kk bb)) 45 c w := by
  have ho : R13[45]? = some ({ dst := some 101, op := Op.move (Operand.tmp 2), type := 23, pos := "law.go:38", after := #[{ on := 40, ground := Ground.guard }], guard := some (40, true) } : Oper) := by kernel_rfl
  have e2 := hb.t2
  have hw : Region.wanted ({ dst := some 101, op := Op.move (Operand.tmp 2), type := 23, pos := "law.go:38", after := #[{ on := 40, ground := Ground.guard }], guard := some (40, true) } : Oper) (yielded R13 c.tmps) = true := want_eq (b := true) rfl (hF 40 (by decide))
  refine does_value ho hw (v := .int .i64 b) ?_ rfl (Below.refl _ _)
  · have ec : ∀ v, c.eval (.const v) = v := fun _ => rfl
    have ef : ∀ f, c.eval (.func f) = .func (.func f) #[] #[] := fun _ => rfl
    generalize c.eval = ρ at *
    clear hF hb hW hw ho
    go_simp

set_option maxRecDepth 10000 in
theorem o13_46 (ad : Option Addr) (cap n : Nat) (a b la lo ka : Int) (g capm two vb : Nat) (kk : Int) (bb : Bool) (Q : Exit → Act → World → Prop) (c : Act) (w : World) (hcap : n + 1 ≤ capm) (hn : n ≤ 1000) (hc2 : capm ≤ 9223372036854775807) (hb : Base13 ad cap n a b la lo ka g capm two vb kk bb c) (hW : World13 n la lo a b ka ad cap g two vb kk bb w) (hF : ∀ j ∈ anc13 46, factsAt (facts13 ad cap n a b la lo ka g capm two vb kk bb) j (val R13 c j) w) :
    Does Tryd.prog R13 Q (factsAt (facts13 ad cap n a b la lo ka g capm two vb kk bb)) 46 c w := by
  have ho : R13[46]? = some ({ dst := some 102, op := Op.call { callee := Callee.value (Operand.func 14), args := #[Operand.tmp 100, Operand.tmp 101], argTypes := #[23, 23] }, type := 23, pos := "law.go:38", after := #[{ on := 44, ground := Ground.data }, { on := 45, ground := Ground.data }, { on := 43, ground := Ground.chain }, { on := 40, ground := Ground.guard }], guard := some (40, true) } : Oper) := by kernel_rfl
  have e100 : c.eval (.tmp 100) = .int .i64 a := fact_at (p := eqv (.int .i64 a)) (by kernel_rfl) rfl (hF 44 (by decide))
  have e101 : c.eval (.tmp 101) = .int .i64 b := fact_at (p := eqv (.int .i64 b)) (by kernel_rfl) rfl (hF 45 (by decide))
  have hw : Region.wanted ({ dst := some 102, op := Op.call { callee := Callee.value (Operand.func 14), args := #[Operand.tmp 100, Operand.tmp 101], argTypes := #[23, 23] }, type := 23, pos := "law.go:38", after := #[{ on := 44, ground := Ground.data }, { on := 45, ground := Ground.data }, { on := 43, ground := Ground.chain }, { on := 40, ground := Ground.guard }], guard := some (40, true) } : Oper) (yielded R13 c.tmps) = true := want_eq (b := true) rfl (hF 40 (by decide))
  refine does_call ho hw (f := 14) (args := #[.int .i64 a, .int .i64 b]) ?_ ((rxor_any a b w).mono fun e w' ⟨h1, h2⟩ => ⟨_, h1, rfl, by subst h2; exact Below.refl _ _⟩)
  · have ec : ∀ v, c.eval (.const v) = v := fun _ => rfl
    have ef : ∀ f, c.eval (.func f) = .func (.func f) #[] #[] := fun _ => rfl
    generalize c.eval = ρ at *
    clear hF hb hW hw ho
    go_simp

set_option maxRecDepth 10000 in
theorem o13_47 (ad : Option Addr) (cap n : Nat) (a b la lo ka : Int) (g capm two vb : Nat) (kk : Int) (bb : Bool) (Q : Exit → Act → World → Prop) (c : Act) (w : World) (hcap : n + 1 ≤ capm) (hn : n ≤ 1000) (hc2 : capm ≤ 9223372036854775807) (hb : Base13 ad cap n a b la lo ka g capm two vb kk bb c) (hW : World13 n la lo a b ka ad cap g two vb kk bb w) (hF : ∀ j ∈ anc13 47, factsAt (facts13 ad cap n a b la lo ka g capm two vb kk bb) j (val R13 c j) w) :
    Does Tryd.prog R13 Q (factsAt (facts13 ad cap n a b la lo ka g capm two vb kk bb)) 47 c w := by
  have ho : R13[47]? = some ({ dst := some 103, op := Op.binOp BinOp.eql 23 (Operand.tmp 99) (Operand.tmp 102) 23, type := 4, pos := "law.go:38", after := #[{ on := 43, ground := Ground.data }, { on := 46, ground := Ground.data }, { on := 40, ground := Ground.guard }], guard := some (40, true) } : Oper) := by kernel_rfl
  have e99 : c.eval (.tmp 99) = .int .i64 (xorL [a, b]) := fact_at (p := eqv (.int .i64 (xorL [a, b]))) (by kernel_rfl) rfl (hF 43 (by decide))
  have e102 : c.eval (.tmp 102) = .int .i64 (xorL [a, b]) := fact_at (p := eqv (.int .i64 (xorL [a, b]))) (by kernel_rfl) rfl (hF 46 (by decide))
  have hw : Region.wanted ({ dst := some 103, op := Op.binOp BinOp.eql 23 (Operand.tmp 99) (Operand.tmp 102) 23, type := 4, pos := "law.go:38", after := #[{ on := 43, ground := Ground.data }, { on := 46, ground := Ground.data }, { on := 40, ground := Ground.guard }], guard := some (40, true) } : Oper) (yielded R13 c.tmps) = true := want_eq (b := true) rfl (hF 40 (by decide))
  refine does_value ho hw (v := .bool true) ?_ rfl (Below.refl _ _)
  · have ec : ∀ v, c.eval (.const v) = v := fun _ => rfl
    have ef : ∀ f, c.eval (.func f) = .func (.func f) #[] #[] := fun _ => rfl
    generalize c.eval = ρ at *
    clear hF hb hW hw ho
    go_simp

set_option maxRecDepth 10000 in
theorem o13_48 (ad : Option Addr) (cap n : Nat) (a b la lo ka : Int) (g capm two vb : Nat) (kk : Int) (bb : Bool) (Q : Exit → Act → World → Prop) (c : Act) (w : World) (hcap : n + 1 ≤ capm) (hn : n ≤ 1000) (hc2 : capm ≤ 9223372036854775807) (hb : Base13 ad cap n a b la lo ka g capm two vb kk bb c) (hW : World13 n la lo a b ka ad cap g two vb kk bb w) (hF : ∀ j ∈ anc13 48, factsAt (facts13 ad cap n a b la lo ka g capm two vb kk bb) j (val R13 c j) w) :
    Does Tryd.prog R13 Q (factsAt (facts13 ad cap n a b la lo ka g capm two vb kk bb)) 48 c w := by
  have ho : R13[48]? = some ({ dst := some 104, op := Op.pick (Operand.tmp 96) (Operand.tmp 103) (Operand.const (Value.bool false)), type := 4, pos := "law.go:38", after := #[{ on := 40, ground := Ground.data }, { on := 47, ground := Ground.data }], guard := none } : Oper) := by kernel_rfl
  have e96 : c.eval (.tmp 96) = .bool true := fact_at (p := eqv (.bool true)) (by kernel_rfl) rfl (hF 40 (by decide))
  have e103 : c.eval (.tmp 103) = .bool true := fact_at (p := eqv (.bool true)) (by kernel_rfl) rfl (hF 47 (by decide))
  have hw : Region.wanted ({ dst := some 104, op := Op.pick (Operand.tmp 96) (Operand.tmp 103) (Operand.const (Value.bool false)), type := 4, pos := "law.go:38", after := #[{ on := 40, ground := Ground.data }, { on := 47, ground := Ground.data }], guard := none } : Oper) (yielded R13 c.tmps) = true := want_none rfl
  refine does_value ho hw (v := .bool true) ?_ rfl (Below.refl _ _)
  · have ec : ∀ v, c.eval (.const v) = v := fun _ => rfl
    have ef : ∀ f, c.eval (.func f) = .func (.func f) #[] #[] := fun _ => rfl
    generalize c.eval = ρ at *
    clear hF hb hW hw ho
    go_simp

set_option maxRecDepth 10000 in
theorem o13_49 (ad : Option Addr) (cap n : Nat) (a b la lo ka : Int) (g capm two vb : Nat) (kk : Int) (bb : Bool) (Q : Exit → Act → World → Prop) (c : Act) (w : World) (hcap : n + 1 ≤ capm) (hn : n ≤ 1000) (hc2 : capm ≤ 9223372036854775807) (hb : Base13 ad cap n a b la lo ka g capm two vb kk bb c) (hW : World13 n la lo a b ka ad cap g two vb kk bb w) (hF : ∀ j ∈ anc13 49, factsAt (facts13 ad cap n a b la lo ka g capm two vb kk bb) j (val R13 c j) w) :
    Does Tryd.prog R13 Q (factsAt (facts13 ad cap n a b la lo ka g capm two vb kk bb)) 49 c w := by
  have ho : R13[49]? = some ({ dst := some 105, op := Op.move (Operand.tmp 104), type := 4, pos := "law.go:38", after := #[{ on := 48, ground := Ground.data }, { on := 46, ground := Ground.chain }], guard := none } : Oper) := by kernel_rfl
  have e104 : c.eval (.tmp 104) = .bool true := fact_at (p := eqv (.bool true)) (by kernel_rfl) rfl (hF 48 (by decide))
  have hw : Region.wanted ({ dst := some 105, op := Op.move (Operand.tmp 104), type := 4, pos := "law.go:38", after := #[{ on := 48, ground := Ground.data }, { on := 46, ground := Ground.chain }], guard := none } : Oper) (yielded R13 c.tmps) = true := want_none rfl
  refine does_value ho hw (v := .bool true) ?_ rfl (Below.refl _ _)
  · have ec : ∀ v, c.eval (.const v) = v := fun _ => rfl
    have ef : ∀ f, c.eval (.func f) = .func (.func f) #[] #[] := fun _ => rfl
    generalize c.eval = ρ at *
    clear hF hb hW hw ho
    go_simp

set_option maxRecDepth 10000 in
theorem o13_50 (ad : Option Addr) (cap n : Nat) (a b la lo ka : Int) (g capm two vb : Nat) (kk : Int) (bb : Bool) (Q : Exit → Act → World → Prop) (c : Act) (w : World) (hcap : n + 1 ≤ capm) (hn : n ≤ 1000) (hc2 : capm ≤ 9223372036854775807) (hb : Base13 ad cap n a b la lo ka g capm two vb kk bb c) (hW : World13 n la lo a b ka ad cap g two vb kk bb w) (hF : ∀ j ∈ anc13 50, factsAt (facts13 ad cap n a b la lo ka g capm two vb kk bb) j (val R13 c j) w) :
    Does Tryd.prog R13 Q (factsAt (facts13 ad cap n a b la lo ka g capm two vb kk bb)) 50 c w := by
  have ho : R13[50]? = some ({ dst := some 106, op := Op.move (Operand.tmp 1), type := 23, pos := "law.go:38", after := #[{ on := 49, ground := Ground.guard }], guard := some (49, true) } : Oper) := by kernel_rfl
  have e1 := hb.t1
  have hw : Region.wanted ({ dst := some 106, op := Op.move (Operand.tmp 1), type := 23, pos := "law.go:38", after := #[{ on := 49, ground := Ground.guard }], guard := some (49, true) } : Oper) (yielded R13 c.tmps) = true := want_eq (b := true) rfl (hF 49 (by decide))
  refine does_value ho hw (v := .int .i64 a) ?_ rfl (Below.refl _ _)
  · have ec : ∀ v, c.eval (.const v) = v := fun _ => rfl
    have ef : ∀ f, c.eval (.func f) = .func (.func f) #[] #[] := fun _ => rfl
    generalize c.eval = ρ at *
    clear hF hb hW hw ho
    go_simp

set_option maxRecDepth 10000 in
theorem o13_51 (ad : Option Addr) (cap n : Nat) (a b la lo ka : Int) (g capm two vb : Nat) (kk : Int) (bb : Bool) (Q : Exit → Act → World → Prop) (c : Act) (w : World) (hcap : n + 1 ≤ capm) (hn : n ≤ 1000) (hc2 : capm ≤ 9223372036854775807) (hb : Base13 ad cap n a b la lo ka g capm two vb kk bb c) (hW : World13 n la lo a b ka ad cap g two vb kk bb w) (hF : ∀ j ∈ anc13 51, factsAt (facts13 ad cap n a b la lo ka g capm two vb kk bb) j (val R13 c j) w) :
    Does Tryd.prog R13 Q (factsAt (facts13 ad cap n a b la lo ka g capm two vb kk bb)) 51 c w := by
  have ho : R13[51]? = some ({ dst := some 107, op := Op.call { callee := Callee.value (Operand.func 15), args := #[Operand.tmp 106], argTypes := #[23] }, type := 23, pos := "law.go:38", after := #[{ on := 50, ground := Ground.data }, { on := 49, ground := Ground.chain }, { on := 49, ground := Ground.guard }], guard := some (49, true) } : Oper) := by kernel_rfl
  have e106 : c.eval (.tmp 106) = .int .i64 a := fact_at (p := eqv (.int .i64 a)) (by kernel_rfl) rfl (hF 50 (by decide))
  have hw : Region.wanted ({ dst := some 107, op := Op.call { callee := Callee.value (Operand.func 15), args := #[Operand.tmp 106], argTypes := #[23] }, type := 23, pos := "law.go:38", after := #[{ on := 50, ground := Ground.data }, { on := 49, ground := Ground.chain }, { on := 49, ground := Ground.guard }], guard := some (49, true) } : Oper) (yielded R13 c.tmps) = true := want_eq (b := true) rfl (hF 49 (by decide))
  refine does_call ho hw (f := 15) (args := #[.int .i64 a]) ?_ ((not_any a w).mono fun e w' ⟨h1, h2⟩ => ⟨_, h1, rfl, h2⟩)
  · have ec : ∀ v, c.eval (.const v) = v := fun _ => rfl
    have ef : ∀ f, c.eval (.func f) = .func (.func f) #[] #[] := fun _ => rfl
    generalize c.eval = ρ at *
    clear hF hb hW hw ho
    go_simp

set_option maxRecDepth 10000 in
theorem o13_52 (ad : Option Addr) (cap n : Nat) (a b la lo ka : Int) (g capm two vb : Nat) (kk : Int) (bb : Bool) (Q : Exit → Act → World → Prop) (c : Act) (w : World) (hcap : n + 1 ≤ capm) (hn : n ≤ 1000) (hc2 : capm ≤ 9223372036854775807) (hb : Base13 ad cap n a b la lo ka g capm two vb kk bb c) (hW : World13 n la lo a b ka ad cap g two vb kk bb w) (hF : ∀ j ∈ anc13 52, factsAt (facts13 ad cap n a b la lo ka g capm two vb kk bb) j (val R13 c j) w) :
    Does Tryd.prog R13 Q (factsAt (facts13 ad cap n a b la lo ka g capm two vb kk bb)) 52 c w := by
  have ho : R13[52]? = some ({ dst := some 108, op := Op.move (Operand.tmp 1), type := 23, pos := "law.go:38", after := #[{ on := 49, ground := Ground.guard }], guard := some (49, true) } : Oper) := by kernel_rfl
  have e1 := hb.t1
  have hw : Region.wanted ({ dst := some 108, op := Op.move (Operand.tmp 1), type := 23, pos := "law.go:38", after := #[{ on := 49, ground := Ground.guard }], guard := some (49, true) } : Oper) (yielded R13 c.tmps) = true := want_eq (b := true) rfl (hF 49 (by decide))
  refine does_value ho hw (v := .int .i64 a) ?_ rfl (Below.refl _ _)
  · have ec : ∀ v, c.eval (.const v) = v := fun _ => rfl
    have ef : ∀ f, c.eval (.func f) = .func (.func f) #[] #[] := fun _ => rfl
    generalize c.eval = ρ at *
    clear hF hb hW hw ho
    go_simp

set_option maxRecDepth 10000 in
theorem o13_53 (ad : Option Addr) (cap n : Nat) (a b la lo ka : Int) (g capm two vb : Nat) (kk : Int) (bb : Bool) (Q : Exit → Act → World → Prop) (c : Act) (w : World) (hcap : n + 1 ≤ capm) (hn : n ≤ 1000) (hc2 : capm ≤ 9223372036854775807) (hb : Base13 ad cap n a b la lo ka g capm two vb kk bb c) (hW : World13 n la lo a b ka ad cap g two vb kk bb w) (hF : ∀ j ∈ anc13 53, factsAt (facts13 ad cap n a b la lo ka g capm two vb kk bb) j (val R13 c j) w) :
    Does Tryd.prog R13 Q (factsAt (facts13 ad cap n a b la lo ka g capm two vb kk bb)) 53 c w := by
  have ho : R13[53]? = some ({ dst := some 109, op := Op.call { callee := Callee.value (Operand.func 16), args := #[Operand.tmp 108], argTypes := #[23] }, type := 23, pos := "law.go:38", after := #[{ on := 52, ground := Ground.data }, { on := 51, ground := Ground.chain }, { on := 49, ground := Ground.guard }], guard := some (49, true) } : Oper) := by kernel_rfl
  have e108 : c.eval (.tmp 108) = .int .i64 a := fact_at (p := eqv (.int .i64 a)) (by kernel_rfl) rfl (hF 52 (by decide))
  have hw : Region.wanted ({ dst := some 109, op := Op.call { callee := Callee.value (Operand.func 16), args := #[Operand.tmp 108], argTypes := #[23] }, type := 23, pos := "law.go:38", after := #[{ on := 52, ground := Ground.data }, { on := 51, ground := Ground.chain }, { on := 49, ground := Ground.guard }], guard := some (49, true) } : Oper) (yielded R13 c.tmps) = true := want_eq (b := true) rfl (hF 49 (by decide))
  refine does_call ho hw (f := 16) (args := #[.int .i64 a]) ?_ ((rnot_any a w).mono fun e w' ⟨h1, h2⟩ => ⟨_, h1, rfl, by subst h2; exact Below.refl _ _⟩)
  · have ec : ∀ v, c.eval (.const v) = v := fun _ => rfl
    have ef : ∀ f, c.eval (.func f) = .func (.func f) #[] #[] := fun _ => rfl
    generalize c.eval = ρ at *
    clear hF hb hW hw ho
    go_simp

set_option maxRecDepth 10000 in
theorem o13_54 (ad : Option Addr) (cap n : Nat) (a b la lo ka : Int) (g capm two vb : Nat) (kk : Int) (bb : Bool) (Q : Exit → Act → World → Prop) (c : Act) (w : World) (hcap : n + 1 ≤ capm) (hn : n ≤ 1000) (hc2 : capm ≤ 9223372036854775807) (hb : Base13 ad cap n a b la lo ka g capm two vb kk bb c) (hW : World13 n la lo a b ka ad cap g two vb kk bb w) (hF : ∀ j ∈ anc13 54, factsAt (facts13 ad cap n a b la lo ka g capm two vb kk bb) j (val R13 c j) w) :
    Does Tryd.prog R13 Q (factsAt (facts13 ad cap n a b la lo ka g capm two vb kk bb)) 54 c w := by
  have ho : R13[54]? = some ({ dst := some 110, op := Op.binOp BinOp.eql 23 (Operand.tmp 107) (Operand.tmp 109) 23, type := 4, pos := "law.go:38", after := #[{ on := 51, ground := Ground.data }, { on := 53, ground := Ground.data }, { on := 49, ground := Ground.guard }], guard := some (49, true) } : Oper) := by kernel_rfl
  have e107 : c.eval (.tmp 107) = .int .i64 (notI a) := fact_at (p := eqv (.int .i64 (notI a))) (by kernel_rfl) rfl (hF 51 (by decide))
  have e109 : c.eval (.tmp 109) = .int .i64 (notI a) := fact_at (p := eqv (.int .i64 (notI a))) (by kernel_rfl) rfl (hF 53 (by decide))
  have hw : Region.wanted ({ dst := some 110, op := Op.binOp BinOp.eql 23 (Operand.tmp 107) (Operand.tmp 109) 23, type := 4, pos := "law.go:38", after := #[{ on := 51, ground := Ground.data }, { on := 53, ground := Ground.data }, { on := 49, ground := Ground.guard }], guard := some (49, true) } : Oper) (yielded R13 c.tmps) = true := want_eq (b := true) rfl (hF 49 (by decide))
  refine does_value ho hw (v := .bool true) ?_ rfl (Below.refl _ _)
  · have ec : ∀ v, c.eval (.const v) = v := fun _ => rfl
    have ef : ∀ f, c.eval (.func f) = .func (.func f) #[] #[] := fun _ => rfl
    generalize c.eval = ρ at *
    clear hF hb hW hw ho
    go_simp

set_option maxRecDepth 10000 in
theorem o13_55 (ad : Option Addr) (cap n : Nat) (a b la lo ka : Int) (g capm two vb : Nat) (kk : Int) (bb : Bool) (Q : Exit → Act → World → Prop) (c : Act) (w : World) (hcap : n + 1 ≤ capm) (hn : n ≤ 1000) (hc2 : capm ≤ 9223372036854775807) (hb : Base13 ad cap n a b la lo ka g capm two vb kk bb c) (hW : World13 n la lo a b ka ad cap g two vb kk bb w) (hF : ∀ j ∈ anc13 55, factsAt (facts13 ad cap n a b la lo ka g capm two vb kk bb) j (val R13 c j) w) :
    Does Tryd.prog R13 Q (factsAt (facts13 ad cap n a b la lo ka g capm two vb kk bb)) 55 c w := by
  have ho : R13[55]? = some ({ dst := some 111, op := Op.pick (Operand.tmp 105) (Operand.tmp 110) (Operand.const (Value.bool false)), type := 4, pos := "law.go:38", after := #[{ on := 49, ground := Ground.data }, { on := 54, ground := Ground.data }], guard := none } : Oper) := by kernel_rfl
  have e105 : c.eval (.tmp 105) = .bool true := fact_at (p := eqv (.bool true)) (by kernel_rfl) rfl (hF 49 (by decide))
  have e110 : c.eval (.tmp 110) = .bool true := fact_at (p := eqv (.bool true)) (by kernel_rfl) rfl (hF 54 (by decide))
  have hw : Region.wanted ({ dst := some 111, op := Op.pick (Operand.tmp 105) (Operand.tmp 110) (Operand.const (Value.bool false)), type := 4, pos := "law.go:38", after := #[{ on := 49, ground := Ground.data }, { on := 54, ground := Ground.data }], guard := none } : Oper) (yielded R13 c.tmps) = true := want_none rfl
  refine does_value ho hw (v := .bool true) ?_ rfl (Below.refl _ _)
  · have ec : ∀ v, c.eval (.const v) = v := fun _ => rfl
    have ef : ∀ f, c.eval (.func f) = .func (.func f) #[] #[] := fun _ => rfl
    generalize c.eval = ρ at *
    clear hF hb hW hw ho
    go_simp

set_option maxRecDepth 10000 in
theorem o13_56 (ad : Option Addr) (cap n : Nat) (a b la lo ka : Int) (g capm two vb : Nat) (kk : Int) (bb : Bool) (Q : Exit → Act → World → Prop) (c : Act) (w : World) (hcap : n + 1 ≤ capm) (hn : n ≤ 1000) (hc2 : capm ≤ 9223372036854775807) (hb : Base13 ad cap n a b la lo ka g capm two vb kk bb c) (hW : World13 n la lo a b ka ad cap g two vb kk bb w) (hF : ∀ j ∈ anc13 56, factsAt (facts13 ad cap n a b la lo ka g capm two vb kk bb) j (val R13 c j) w) :
    Does Tryd.prog R13 Q (factsAt (facts13 ad cap n a b la lo ka g capm two vb kk bb)) 56 c w := by
  have ho : R13[56]? = some ({ dst := some 112, op := Op.move (Operand.tmp 111), type := 4, pos := "law.go:38", after := #[{ on := 55, ground := Ground.data }, { on := 53, ground := Ground.chain }], guard := none } : Oper) := by kernel_rfl
  have e111 : c.eval (.tmp 111) = .bool true := fact_at (p := eqv (.bool true)) (by kernel_rfl) rfl (hF 55 (by decide))
  have hw : Region.wanted ({ dst := some 112, op := Op.move (Operand.tmp 111), type := 4, pos := "law.go:38", after := #[{ on := 55, ground := Ground.data }, { on := 53, ground := Ground.chain }], guard := none } : Oper) (yielded R13 c.tmps) = true := want_none rfl
  refine does_value ho hw (v := .bool true) ?_ rfl (Below.refl _ _)
  · have ec : ∀ v, c.eval (.const v) = v := fun _ => rfl
    have ef : ∀ f, c.eval (.func f) = .func (.func f) #[] #[] := fun _ => rfl
    generalize c.eval = ρ at *
    clear hF hb hW hw ho
    go_simp

set_option maxRecDepth 10000 in
theorem o13_57 (ad : Option Addr) (cap n : Nat) (a b la lo ka : Int) (g capm two vb : Nat) (kk : Int) (bb : Bool) (Q : Exit → Act → World → Prop) (c : Act) (w : World) (hcap : n + 1 ≤ capm) (hn : n ≤ 1000) (hc2 : capm ≤ 9223372036854775807) (hb : Base13 ad cap n a b la lo ka g capm two vb kk bb c) (hW : World13 n la lo a b ka ad cap g two vb kk bb w) (hF : ∀ j ∈ anc13 57, factsAt (facts13 ad cap n a b la lo ka g capm two vb kk bb) j (val R13 c j) w) :
    Does Tryd.prog R13 Q (factsAt (facts13 ad cap n a b la lo ka g capm two vb kk bb)) 57 c w := by
  have ho : R13[57]? = some ({ dst := some 113, op := Op.load 30 (Operand.tmp 12), type := 30, pos := "law.go:38", after := #[{ on := 56, ground := Ground.guard }], guard := some (56, true) } : Oper) := by kernel_rfl
  have e12 := hb.t12
  have hw : Region.wanted ({ dst := some 113, op := Op.load 30 (Operand.tmp 12), type := 30, pos := "law.go:38", after := #[{ on := 56, ground := Ground.guard }], guard := some (56, true) } : Oper) (yielded R13 c.tmps) = true := want_eq (b := true) rfl (hF 56 (by decide))
  refine does_value ho hw (v := leaf kk bb 0) ?_ rfl (Below.refl _ _)
  · have c0 := hW.v0
    have c1 := hW.v1
    have c2 := hW.v2
    have c3 := hW.v3
    have c4 := hW.v4
    have c5 := hW.v5
    unfold leaf
    have ec : ∀ v, c.eval (.const v) = v := fun _ => rfl
    have ef : ∀ f, c.eval (.func f) = .func (.func f) #[] #[] := fun _ => rfl
    generalize c.eval = ρ at *
    clear hF hb hW hw ho
    go_simp

set_option maxRecDepth 10000 in
theorem o13_58 (ad : Option Addr) (cap n : Nat) (a b la lo ka : Int) (g capm two vb : Nat) (kk : Int) (bb : Bool) (Q : Exit → Act → World → Prop) (c : Act) (w : World) (hcap : n + 1 ≤ capm) (hn : n ≤ 1000) (hc2 : capm ≤ 9223372036854775807) (hb : Base13 ad cap n a b la lo ka g capm two vb kk bb c) (hW : World13 n la lo a b ka ad cap g two vb kk bb w) (hF : ∀ j ∈ anc13 58, factsAt (facts13 ad cap n a b la lo ka g capm two vb kk bb) j (val R13 c j) w) :
    Does Tryd.prog R13 Q (factsAt (facts13 ad cap n a b la lo ka g capm two vb kk bb)) 58 c w := by
  have ho : R13[58]? = some ({ dst := some 114, op := Op.move (Operand.tmp 1), type := 23, pos := "law.go:38", after := #[{ on := 56, ground := Ground.guard }], guard := some (56, true) } : Oper) := by kernel_rfl
  have e1 := hb.t1
  have hw : Region.wanted ({ dst := some 114, op := Op.move (Operand.tmp 1), type := 23, pos := "law.go:38", after := #[{ on := 56, ground := Ground.guard }], guard := some (56, true) } : Oper) (yielded R13 c.tmps) = true := want_eq (b := true) rfl (hF 56 (by decide))
  refine does_value ho hw (v := .int .i64 a) ?_ rfl (Below.refl _ _)
  · have ec : ∀ v, c.eval (.const v) = v := fun _ => rfl
    have ef : ∀ f, c.eval (.func f) = .func (.func f) #[] #[] := fun _ => rfl
    generalize c.eval = ρ at *
    clear hF hb hW hw ho
    go_simp

set_option maxRecDepth 10000 in
theorem o13_59 (ad : Option Addr) (cap n : Nat) (a b la lo ka : Int) (g capm two vb : Nat) (kk : Int) (bb : Bool) (Q : Exit → Act → World → Prop) (c : Act) (w : World) (hcap : n + 1 ≤ capm) (hn : n ≤ 1000) (hc2 : capm ≤ 9223372036854775807) (hb : Base13 ad cap n a b la lo ka g capm two vb kk bb c) (hW : World13 n la lo a b ka ad cap g two vb kk bb w) (hF : ∀ j ∈ anc13 59, factsAt (facts13 ad cap n a b la lo ka g capm two vb kk bb) j (val R13 c j) w) :
    Does Tryd.prog R13 Q (factsAt (facts13 ad cap n a b la lo ka g capm two vb kk bb)) 59 c w := by
  have ho : R13[59]? = some ({ dst := some 115, op := Op.call { callee := Callee.value (Operand.func 18), args := #[Operand.tmp 114], argTypes := #[23] }, type := 30, pos := "law.go:38", after := #[{ on := 58, ground := Ground.data }, { on := 56, ground := Ground.chain }, { on := 56, ground := Ground.guard }], guard := some (56, true) } : Oper) := by kernel_rfl
  have e114 : c.eval (.tmp 114) = .int .i64 a := fact_at (p := eqv (.int .i64 a)) (by kernel_rfl) rfl (hF 58 (by decide))
  have hw : Region.wanted ({ dst := some 115, op := Op.call { callee := Callee.value (Operand.func 18), args := #[Operand.tmp 114], argTypes := #[23] }, type := 30, pos := "law.go:38", after := #[{ on := 58, ground := Ground.data }, { on := 56, ground := Ground.chain }, { on := 56, ground := Ground.guard }], guard := some (56, true) } : Oper) (yielded R13 c.tmps) = true := want_eq (b := true) rfl (hF 56 (by decide))
  refine does_call ho hw (f := 18) (args := #[.int .i64 a]) ?_ ((rvalue_any a w).mono fun e w' ⟨h1, h2⟩ => ⟨_, h1, hW.same, h2⟩)
  · have ec : ∀ v, c.eval (.const v) = v := fun _ => rfl
    have ef : ∀ f, c.eval (.func f) = .func (.func f) #[] #[] := fun _ => rfl
    generalize c.eval = ρ at *
    clear hF hb hW hw ho
    go_simp

set_option maxRecDepth 10000 in
theorem o13_60 (ad : Option Addr) (cap n : Nat) (a b la lo ka : Int) (g capm two vb : Nat) (kk : Int) (bb : Bool) (Q : Exit → Act → World → Prop) (c : Act) (w : World) (hcap : n + 1 ≤ capm) (hn : n ≤ 1000) (hc2 : capm ≤ 9223372036854775807) (hb : Base13 ad cap n a b la lo ka g capm two vb kk bb c) (hW : World13 n la lo a b ka ad cap g two vb kk bb w) (hF : ∀ j ∈ anc13 60, factsAt (facts13 ad cap n a b la lo ka g capm two vb kk bb) j (val R13 c j) w) :
    Does Tryd.prog R13 Q (factsAt (facts13 ad cap n a b la lo ka g capm two vb kk bb)) 60 c w := by
  have ho : R13[60]? = some ({ dst := some 116, op := Op.call { callee := Callee.value (Operand.func 17), args := #[Operand.tmp 113, Operand.tmp 115], argTypes := #[30, 30] }, type := 4, pos := "law.go:38", after := #[{ on := 57, ground := Ground.data }, { on := 59, ground := Ground.data }, { on := 59, ground := Ground.chain }, { on := 56, ground := Ground.guard }], guard := some (56, true) } : Oper) := by kernel_rfl
  have e113 : c.eval (.tmp 113) = leaf kk bb 0 := fact_at (p := eqv (leaf kk bb 0)) (by kernel_rfl) rfl (hF 57 (by decide))
  have e115 : c.eval (.tmp 115) = leaf kk bb 0 := fact_at (p := eqv (leaf kk bb 0)) (by kernel_rfl) rfl (hF 59 (by decide))
  have hw : Region.wanted ({ dst := some 116, op := Op.call { callee := Callee.value (Operand.func 17), args := #[Operand.tmp 113, Operand.tmp 115], argTypes := #[30, 30] }, type := 4, pos := "law.go:38", after := #[{ on := 57, ground := Ground.data }, { on := 59, ground := Ground.data }, { on := 59, ground := Ground.chain }, { on := 56, ground := Ground.guard }], guard := some (56, true) } : Oper) (yielded R13 c.tmps) = true := want_eq (b := true) rfl (hF 56 (by decide))
  refine does_call ho hw (f := 17) (args := #[leaf kk bb 0, leaf kk bb 0]) ?_ ((hW.same ▸ value_alike a w).mono fun e w' ⟨h1, h2⟩ => ⟨_, h1, rfl, h2⟩)
  · have ec : ∀ v, c.eval (.const v) = v := fun _ => rfl
    have ef : ∀ f, c.eval (.func f) = .func (.func f) #[] #[] := fun _ => rfl
    generalize c.eval = ρ at *
    clear hF hb hW hw ho
    go_simp

set_option maxRecDepth 10000 in
theorem o13_61 (ad : Option Addr) (cap n : Nat) (a b la lo ka : Int) (g capm two vb : Nat) (kk : Int) (bb : Bool) (Q : Exit → Act → World → Prop) (c : Act) (w : World) (hcap : n + 1 ≤ capm) (hn : n ≤ 1000) (hc2 : capm ≤ 9223372036854775807) (hb : Base13 ad cap n a b la lo ka g capm two vb kk bb c) (hW : World13 n la lo a b ka ad cap g two vb kk bb w) (hF : ∀ j ∈ anc13 61, factsAt (facts13 ad cap n a b la lo ka g capm two vb kk bb) j (val R13 c j) w) :
    Does Tryd.prog R13 Q (factsAt (facts13 ad cap n a b la lo ka g capm two vb kk bb)) 61 c w := by
  have ho : R13[61]? = some ({ dst := some 117, op := Op.pick (Operand.tmp 112) (Operand.tmp 116) (Operand.const (Value.bool false)), type := 4, pos := "law.go:38", after := #[{ on := 56, ground := Ground.data }, { on := 60, ground := Ground.data }], guard := none } : Oper) := by kernel_rfl
  have e112 : c.eval (.tmp 112) = .bool true := fact_at (p := eqv (.bool true)) (by kernel_rfl) rfl (hF 56 (by decide))
  have e116 : c.eval (.tmp 116) = .bool true := fact_at (p := eqv (.bool true)) (by kernel_rfl) rfl (hF 60 (by decide))
  have hw : Region.wanted ({ dst := some 117, op := Op.pick (Operand.tmp 112) (Operand.tmp 116) (Operand.const (Value.bool false)), type := 4, pos := "law.go:38", after := #[{ on := 56, ground := Ground.data }, { on := 60, ground := Ground.data }], guard := none } : Oper) (yielded R13 c.tmps) = true := want_none rfl
  refine does_value ho hw (v := .bool true) ?_ rfl (Below.refl _ _)
  · have ec : ∀ v, c.eval (.const v) = v := fun _ => rfl
    have ef : ∀ f, c.eval (.func f) = .func (.func f) #[] #[] := fun _ => rfl
    generalize c.eval = ρ at *
    clear hF hb hW hw ho
    go_simp

set_option maxRecDepth 10000 in
theorem o13_62 (ad : Option Addr) (cap n : Nat) (a b la lo ka : Int) (g capm two vb : Nat) (kk : Int) (bb : Bool) (Q : Exit → Act → World → Prop) (c : Act) (w : World) (hcap : n + 1 ≤ capm) (hn : n ≤ 1000) (hc2 : capm ≤ 9223372036854775807) (hb : Base13 ad cap n a b la lo ka g capm two vb kk bb c) (hW : World13 n la lo a b ka ad cap g two vb kk bb w) (hF : ∀ j ∈ anc13 62, factsAt (facts13 ad cap n a b la lo ka g capm two vb kk bb) j (val R13 c j) w) :
    Does Tryd.prog R13 Q (factsAt (facts13 ad cap n a b la lo ka g capm two vb kk bb)) 62 c w := by
  have ho : R13[62]? = some ({ dst := some 118, op := Op.move (Operand.tmp 117), type := 4, pos := "law.go:38", after := #[{ on := 61, ground := Ground.data }, { on := 60, ground := Ground.chain }], guard := none } : Oper) := by kernel_rfl
  have e117 : c.eval (.tmp 117) = .bool true := fact_at (p := eqv (.bool true)) (by kernel_rfl) rfl (hF 61 (by decide))
  have hw : Region.wanted ({ dst := some 118, op := Op.move (Operand.tmp 117), type := 4, pos := "law.go:38", after := #[{ on := 61, ground := Ground.data }, { on := 60, ground := Ground.chain }], guard := none } : Oper) (yielded R13 c.tmps) = true := want_none rfl
  refine does_value ho hw (v := .bool true) ?_ rfl (Below.refl _ _)
  · have ec : ∀ v, c.eval (.const v) = v := fun _ => rfl
    have ef : ∀ f, c.eval (.func f) = .func (.func f) #[] #[] := fun _ => rfl
    generalize c.eval = ρ at *
    clear hF hb hW hw ho
    go_simp

set_option maxRecDepth 10000 in
theorem o13_63 (ad : Option Addr) (cap n : Nat) (a b la lo ka : Int) (g capm two vb : Nat) (kk : Int) (bb : Bool) (Q : Exit → Act → World → Prop) (c : Act) (w : World) (hcap : n + 1 ≤ capm) (hn : n ≤ 1000) (hc2 : capm ≤ 9223372036854775807) (hb : Base13 ad cap n a b la lo ka g capm two vb kk bb c) (hW : World13 n la lo a b ka ad cap g two vb kk bb w) (hF : ∀ j ∈ anc13 63, factsAt (facts13 ad cap n a b la lo ka g capm two vb kk bb) j (val R13 c j) w) :
    Does Tryd.prog R13 Q (factsAt (facts13 ad cap n a b la lo ka g capm two vb kk bb)) 63 c w := by
  have ho : R13[63]? = some ({ dst := some 119, op := Op.move (Operand.tmp 14), type := 4, pos := "law.go:38", after := #[{ on := 62, ground := Ground.guard }], guard := some (62, true) } : Oper) := by kernel_rfl
  have e14 := hb.t14
  have hw : Region.wanted ({ dst := some 119, op := Op.move (Operand.tmp 14), type := 4, pos := "law.go:38", after := #[{ on := 62, ground := Ground.guard }], guard := some (62, true) } : Oper) (yielded R13 c.tmps) = true := want_eq (b := true) rfl (hF 62 (by decide))
  refine does_value ho hw (v := .bool true) ?_ rfl (Below.refl _ _)
  · have ec : ∀ v, c.eval (.const v) = v := fun _ => rfl
    have ef : ∀ f, c.eval (.func f) = .func (.func f) #[] #[] := fun _ => rfl
    generalize c.eval = ρ at *
    clear hF hb hW hw ho
    go_simp

set_option maxRecDepth 10000 in
theorem o13_64 (ad : Option Addr) (cap n : Nat) (a b la lo ka : Int) (g capm two vb : Nat) (kk : Int) (bb : Bool) (Q : Exit → Act → World → Prop) (c : Act) (w : World) (hcap : n + 1 ≤ capm) (hn : n ≤ 1000) (hc2 : capm ≤ 9223372036854775807) (hb : Base13 ad cap n a b la lo ka g capm two vb kk bb c) (hW : World13 n la lo a b ka ad cap g two vb kk bb w) (hF : ∀ j ∈ anc13 64, factsAt (facts13 ad cap n a b la lo ka g capm two vb kk bb) j (val R13 c j) w) :
    Does Tryd.prog R13 Q (factsAt (facts13 ad cap n a b la lo ka g capm two vb kk bb)) 64 c w := by
  have ho : R13[64]? = some ({ dst := some 120, op := Op.pick (Operand.tmp 118) (Operand.tmp 119) (Operand.const (Value.bool false)), type := 4, pos := "law.go:38", after := #[{ on := 62, ground := Ground.data }, { on := 63, ground := Ground.data }], guard := none } : Oper) := by kernel_rfl
  have e118 : c.eval (.tmp 118) = .bool true := fact_at (p := eqv (.bool true)) (by kernel_rfl) rfl (hF 62 (by decide))
  have e119 : c.eval (.tmp 119) = .bool true := fact_at (p := eqv (.bool true)) (by kernel_rfl) rfl (hF 63 (by decide))
  have hw : Region.wanted ({ dst := some 120, op := Op.pick (Operand.tmp 118) (Operand.tmp 119) (Operand.const (Value.bool false)), type := 4, pos := "law.go:38", after := #[{ on := 62, ground := Ground.data }, { on := 63, ground := Ground.data }], guard := none } : Oper) (yielded R13 c.tmps) = true := want_none rfl
  refine does_value ho hw (v := .bool true) ?_ rfl (Below.refl _ _)
  · have ec : ∀ v, c.eval (.const v) = v := fun _ => rfl
    have ef : ∀ f, c.eval (.func f) = .func (.func f) #[] #[] := fun _ => rfl
    generalize c.eval = ρ at *
    clear hF hb hW hw ho
    go_simp

set_option maxRecDepth 10000 in
theorem o13_65 (ad : Option Addr) (cap n : Nat) (a b la lo ka : Int) (g capm two vb : Nat) (kk : Int) (bb : Bool) (Q : Exit → Act → World → Prop) (c : Act) (w : World) (hcap : n + 1 ≤ capm) (hn : n ≤ 1000) (hc2 : capm ≤ 9223372036854775807) (hb : Base13 ad cap n a b la lo ka g capm two vb kk bb c) (hW : World13 n la lo a b ka ad cap g two vb kk bb w) (hF : ∀ j ∈ anc13 65, factsAt (facts13 ad cap n a b la lo ka g capm two vb kk bb) j (val R13 c j) w) :
    Does Tryd.prog R13 Q (factsAt (facts13 ad cap n a b la lo ka g capm two vb kk bb)) 65 c w := by
  have ho : R13[65]? = some ({ dst := some 121, op := Op.move (Operand.tmp 120), type := 4, pos := "law.go:38", after := #[{ on := 64, ground := Ground.data }, { on := 62, ground := Ground.chain }], guard := none } : Oper) := by kernel_rfl
  have e120 : c.eval (.tmp 120) = .bool true := fact_at (p := eqv (.bool true)) (by kernel_rfl) rfl (hF 64 (by decide))
  have hw : Region.wanted ({ dst := some 121, op := Op.move (Operand.tmp 120), type := 4, pos := "law.go:38", after := #[{ on := 64, ground := Ground.data }, { on := 62, ground := Ground.chain }], guard := none } : Oper) (yielded R13 c.tmps) = true := want_none rfl
  refine does_value ho hw (v := .bool true) ?_ rfl (Below.refl _ _)
  · have ec : ∀ v, c.eval (.const v) = v := fun _ => rfl
    have ef : ∀ f, c.eval (.func f) = .func (.func f) #[] #[] := fun _ => rfl
    generalize c.eval = ρ at *
    clear hF hb hW hw ho
    go_simp

set_option maxRecDepth 10000 in
theorem o13_66 (ad : Option Addr) (cap n : Nat) (a b la lo ka : Int) (g capm two vb : Nat) (kk : Int) (bb : Bool) (Q : Exit → Act → World → Prop) (c : Act) (w : World) (hcap : n + 1 ≤ capm) (hn : n ≤ 1000) (hc2 : capm ≤ 9223372036854775807) (hb : Base13 ad cap n a b la lo ka g capm two vb kk bb c) (hW : World13 n la lo a b ka ad cap g two vb kk bb w) (hF : ∀ j ∈ anc13 66, factsAt (facts13 ad cap n a b la lo ka g capm two vb kk bb) j (val R13 c j) w) :
    Does Tryd.prog R13 Q (factsAt (facts13 ad cap n a b la lo ka g capm two vb kk bb)) 66 c w := by
  have ho : R13[66]? = some ({ dst := some 122, op := Op.move (Operand.tmp 13), type := 23, pos := "law.go:38", after := #[{ on := 65, ground := Ground.guard }], guard := some (65, true) } : Oper) := by kernel_rfl
  have e13 := hb.t13
  have hw : Region.wanted ({ dst := some 122, op := Op.move (Operand.tmp 13), type := 23, pos := "law.go:38", after := #[{ on := 65, ground := Ground.guard }], guard := some (65, true) } : Oper) (yielded R13 c.tmps) = true := want_eq (b := true) rfl (hF 65 (by decide))
  refine does_value ho hw (v := .int .i64 ka) ?_ rfl (Below.refl _ _)
  · have ec : ∀ v, c.eval (.const v) = v := fun _ => rfl
    have ef : ∀ f, c.eval (.func f) = .func (.func f) #[] #[] := fun _ => rfl
    generalize c.eval = ρ at *
    clear hF hb hW hw ho
    go_simp

set_option maxRecDepth 10000 in
theorem o13_67 (ad : Option Addr) (cap n : Nat) (a b la lo ka : Int) (g capm two vb : Nat) (kk : Int) (bb : Bool) (Q : Exit → Act → World → Prop) (c : Act) (w : World) (hcap : n + 1 ≤ capm) (hn : n ≤ 1000) (hc2 : capm ≤ 9223372036854775807) (hb : Base13 ad cap n a b la lo ka g capm two vb kk bb c) (hW : World13 n la lo a b ka ad cap g two vb kk bb w) (hF : ∀ j ∈ anc13 67, factsAt (facts13 ad cap n a b la lo ka g capm two vb kk bb) j (val R13 c j) w) :
    Does Tryd.prog R13 Q (factsAt (facts13 ad cap n a b la lo ka g capm two vb kk bb)) 67 c w := by
  have ho : R13[67]? = some ({ dst := some 123, op := Op.move (Operand.tmp 1), type := 23, pos := "law.go:38", after := #[{ on := 65, ground := Ground.guard }], guard := some (65, true) } : Oper) := by kernel_rfl
  have e1 := hb.t1
  have hw : Region.wanted ({ dst := some 123, op := Op.move (Operand.tmp 1), type := 23, pos := "law.go:38", after := #[{ on := 65, ground := Ground.guard }], guard := some (65, true) } : Oper) (yielded R13 c.tmps) = true := want_eq (b := true) rfl (hF 65 (by decide))
  refine does_value ho hw (v := .int .i64 a) ?_ rfl (Below.refl _ _)
  · have ec : ∀ v, c.eval (.const v) = v := fun _ => rfl
    have ef : ∀ f, c.eval (.func f) = .func (.func f) #[] #[] := fun _ => rfl
    generalize c.eval = ρ at *
    clear hF hb hW hw ho
    go_simp

set_option maxRecDepth 10000 in
theorem o13_68 (ad : Option Addr) (cap n : Nat) (a b la lo ka : Int) (g capm two vb : Nat) (kk : Int) (bb : Bool) (Q : Exit → Act → World → Prop) (c : Act) (w : World) (hcap : n + 1 ≤ capm) (hn : n ≤ 1000) (hc2 : capm ≤ 9223372036854775807) (hb : Base13 ad cap n a b la lo ka g capm two vb kk bb c) (hW : World13 n la lo a b ka ad cap g two vb kk bb w) (hF : ∀ j ∈ anc13 68, factsAt (facts13 ad cap n a b la lo ka g capm two vb kk bb) j (val R13 c j) w) :
    Does Tryd.prog R13 Q (factsAt (facts13 ad cap n a b la lo ka g capm two vb kk bb)) 68 c w := by
  have ho : R13[68]? = some ({ dst := some 124, op := Op.buildSlice 22 1 #[(0, Operand.tmp 123)], type := 22, pos := "law.go:38", after := #[{ on := 67, ground := Ground.data }, { on := 65, ground := Ground.guard }], guard := some (65, true) } : Oper) := by kernel_rfl
  have e123 : c.eval (.tmp 123) = .int .i64 a := fact_at (p := eqv (.int .i64 a)) (by kernel_rfl) rfl (hF 67 (by decide))
  have hw : Region.wanted ({ dst := some 124, op := Op.buildSlice 22 1 #[(0, Operand.tmp 123)], type := 22, pos := "law.go:38", after := #[{ on := 67, ground := Ground.data }, { on := 65, ground := Ground.guard }], guard := some (65, true) } : Oper) (yielded R13 c.tmps) = true := want_eq (b := true) rfl (hF 65 (by decide))
  refine does_value ho hw (v := .slice (some ⟨w.heap.size, 0, none⟩) 1 1) (w' := w.alloc (.cells #[.int .i64 a] 23)) ?_ ⟨w.heap.size, rfl, by simp, ?_⟩ ((Below.refl _ _).alloc (Nat.le_refl _) _)
  · have ec : ∀ v, c.eval (.const v) = v := fun _ => rfl
    have ef : ∀ f, c.eval (.func f) = .func (.func f) #[] #[] := fun _ => rfl
    generalize c.eval = ρ at *
    clear hF hb hW hw ho
    go_simp
  · intro j hj
    match j, hj with
    | 0, _ => exact cell_new _ _ _ 0 _ rfl

set_option maxRecDepth 10000 in
theorem o13_69 (ad : Option Addr) (cap n : Nat) (a b la lo ka : Int) (g capm two vb : Nat) (kk : Int) (bb : Bool) (Q : Exit → Act → World → Prop) (c : Act) (w : World) (hcap : n + 1 ≤ capm) (hn : n ≤ 1000) (hc2 : capm ≤ 9223372036854775807) (hb : Base13 ad cap n a b la lo ka g capm two vb kk bb c) (hW : World13 n la lo a b ka ad cap g two vb kk bb w) (hF : ∀ j ∈ anc13 69, factsAt (facts13 ad cap n a b la lo ka g capm two vb kk bb) j (val R13 c j) w) :
    Does Tryd.prog R13 Q (factsAt (facts13 ad cap n a b la lo ka g capm two vb kk bb)) 69 c w := by
  have ho : R13[69]? = some ({ dst := some 125, op := Op.call { callee := Callee.value (Operand.func 11), args := #[Operand.tmp 124], argTypes := #[22] }, type := 23, pos := "law.go:38", after := #[{ on := 68, ground := Ground.data }, { on := 65, ground := Ground.chain }, { on := 65, ground := Ground.guard }], guard := some (65, true) } : Oper) := by kernel_rfl
  have e124 : laid [a] (c.eval (.tmp 124)) w := fact_at (p := laid [a]) (by kernel_rfl) rfl (hF 68 (by decide))
  have hw : Region.wanted ({ dst := some 125, op := Op.call { callee := Callee.value (Operand.func 11), args := #[Operand.tmp 124], argTypes := #[22] }, type := 23, pos := "law.go:38", after := #[{ on := 68, ground := Ground.data }, { on := 65, ground := Ground.chain }, { on := 65, ground := Ground.guard }], guard := some (65, true) } : Oper) (yielded R13 c.tmps) = true := want_eq (b := true) rfl (hF 65 (by decide))
  obtain ⟨t, et, ht, hcl⟩ := e124
  refine does_call ho hw (f := 11) (args := #[.slice (some ⟨t, 0, none⟩) 1 1]) ?_ ((rand_any t 0 1 [a] w (by simp) (by simpa using hcl)).mono fun e w' ⟨h1, h2⟩ => ⟨_, h1, congrArg (Value.int .i64) hW.one, by subst h2; exact Below.refl _ _⟩)
  · have ec : ∀ v, c.eval (.const v) = v := fun _ => rfl
    have ef : ∀ f, c.eval (.func f) = .func (.func f) #[] #[] := fun _ => rfl
    generalize c.eval = ρ at *
    clear hF hb hW hw ho
    go_simp

set_option maxRecDepth 10000 in
theorem o13_70 (ad : Option Addr) (cap n : Nat) (a b la lo ka : Int) (g capm two vb : Nat) (kk : Int) (bb : Bool) (Q : Exit → Act → World → Prop) (c : Act) (w : World) (hcap : n + 1 ≤ capm) (hn : n ≤ 1000) (hc2 : capm ≤ 9223372036854775807) (hb : Base13 ad cap n a b la lo ka g capm two vb kk bb c) (hW : World13 n la lo a b ka ad cap g two vb kk bb w) (hF : ∀ j ∈ anc13 70, factsAt (facts13 ad cap n a b la lo ka g capm two vb kk bb) j (val R13 c j) w) :
    Does Tryd.prog R13 Q (factsAt (facts13 ad cap n a b la lo ka g capm two vb kk bb)) 70 c w := by
  have ho : R13[70]? = some ({ dst := some 126, op := Op.binOp BinOp.eql 23 (Operand.tmp 122) (Operand.tmp 125) 23, type := 4, pos := "law.go:38", after := #[{ on := 66, ground := Ground.data }, { on := 69, ground := Ground.data }, { on := 65, ground := Ground.guard }], guard := some (65, true) } : Oper) := by kernel_rfl
  have e122 : c.eval (.tmp 122) = .int .i64 ka := fact_at (p := eqv (.int .i64 ka)) (by kernel_rfl) rfl (hF 66 (by decide))
  have e125 : c.eval (.tmp 125) = .int .i64 ka := fact_at (p := eqv (.int .i64 ka)) (by kernel_rfl) rfl (hF 69 (by decide))
  have hw : Region.wanted ({ dst := some 126, op := Op.binOp BinOp.eql 23 (Operand.tmp 122) (Operand.tmp 125) 23, type := 4, pos := "law.go:38", after := #[{ on := 66, ground := Ground.data }, { on := 69, ground := Ground.data }, { on := 65, ground := Ground.guard }], guard := some (65, true) } : Oper) (yielded R13 c.tmps) = true := want_eq (b := true) rfl (hF 65 (by decide))
  refine does_value ho hw (v := .bool true) ?_ rfl (Below.refl _ _)
  · have ec : ∀ v, c.eval (.const v) = v := fun _ => rfl
    have ef : ∀ f, c.eval (.func f) = .func (.func f) #[] #[] := fun _ => rfl
    generalize c.eval = ρ at *
    clear hF hb hW hw ho
    go_simp

set_option maxRecDepth 10000 in
theorem o13_71 (ad : Option Addr) (cap n : Nat) (a b la lo ka : Int) (g capm two vb : Nat) (kk : Int) (bb : Bool) (Q : Exit → Act → World → Prop) (c : Act) (w : World) (hcap : n + 1 ≤ capm) (hn : n ≤ 1000) (hc2 : capm ≤ 9223372036854775807) (hb : Base13 ad cap n a b la lo ka g capm two vb kk bb c) (hW : World13 n la lo a b ka ad cap g two vb kk bb w) (hF : ∀ j ∈ anc13 71, factsAt (facts13 ad cap n a b la lo ka g capm two vb kk bb) j (val R13 c j) w) :
    Does Tryd.prog R13 Q (factsAt (facts13 ad cap n a b la lo ka g capm two vb kk bb)) 71 c w := by
  have ho : R13[71]? = some ({ dst := some 127, op := Op.pick (Operand.tmp 121) (Operand.tmp 126) (Operand.const (Value.bool false)), type := 4, pos := "law.go:38", after := #[{ on := 65, ground := Ground.data }, { on := 70, ground := Ground.data }], guard := none } : Oper) := by kernel_rfl
  have e121 : c.eval (.tmp 121) = .bool true := fact_at (p := eqv (.bool true)) (by kernel_rfl) rfl (hF 65 (by decide))
  have e126 : c.eval (.tmp 126) = .bool true := fact_at (p := eqv (.bool true)) (by kernel_rfl) rfl (hF 70 (by decide))
  have hw : Region.wanted ({ dst := some 127, op := Op.pick (Operand.tmp 121) (Operand.tmp 126) (Operand.const (Value.bool false)), type := 4, pos := "law.go:38", after := #[{ on := 65, ground := Ground.data }, { on := 70, ground := Ground.data }], guard := none } : Oper) (yielded R13 c.tmps) = true := want_none rfl
  refine does_value ho hw (v := .bool true) ?_ rfl (Below.refl _ _)
  · have ec : ∀ v, c.eval (.const v) = v := fun _ => rfl
    have ef : ∀ f, c.eval (.func f) = .func (.func f) #[] #[] := fun _ => rfl
    generalize c.eval = ρ at *
    clear hF hb hW hw ho
    go_simp

set_option maxRecDepth 10000 in
theorem o13_72 (ad : Option Addr) (cap n : Nat) (a b la lo ka : Int) (g capm two vb : Nat) (kk : Int) (bb : Bool) (Q : Exit → Act → World → Prop) (c : Act) (w : World) (hcap : n + 1 ≤ capm) (hn : n ≤ 1000) (hc2 : capm ≤ 9223372036854775807) (hb : Base13 ad cap n a b la lo ka g capm two vb kk bb c) (hW : World13 n la lo a b ka ad cap g two vb kk bb w) (hF : ∀ j ∈ anc13 72, factsAt (facts13 ad cap n a b la lo ka g capm two vb kk bb) j (val R13 c j) w) :
    Does Tryd.prog R13 Q (factsAt (facts13 ad cap n a b la lo ka g capm two vb kk bb)) 72 c w := by
  have ho : R13[72]? = some ({ dst := some 128, op := Op.move (Operand.tmp 127), type := 4, pos := "law.go:38", after := #[{ on := 71, ground := Ground.data }, { on := 69, ground := Ground.chain }], guard := none } : Oper) := by kernel_rfl
  have e127 : c.eval (.tmp 127) = .bool true := fact_at (p := eqv (.bool true)) (by kernel_rfl) rfl (hF 71 (by decide))
  have hw : Region.wanted ({ dst := some 128, op := Op.move (Operand.tmp 127), type := 4, pos := "law.go:38", after := #[{ on := 71, ground := Ground.data }, { on := 69, ground := Ground.chain }], guard := none } : Oper) (yielded R13 c.tmps) = true := want_none rfl
  refine does_value ho hw (v := .bool true) ?_ rfl (Below.refl _ _)
  · have ec : ∀ v, c.eval (.const v) = v := fun _ => rfl
    have ef : ∀ f, c.eval (.func f) = .func (.func f) #[] #[] := fun _ => rfl
    generalize c.eval = ρ at *
    clear hF hb hW hw ho
    go_simp

set_option maxRecDepth 10000 in
theorem o13_73 (ad : Option Addr) (cap n : Nat) (a b la lo ka : Int) (g capm two vb : Nat) (kk : Int) (bb : Bool) (Q : Exit → Act → World → Prop) (c : Act) (w : World) (hcap : n + 1 ≤ capm) (hn : n ≤ 1000) (hc2 : capm ≤ 9223372036854775807) (hb : Base13 ad cap n a b la lo ka g capm two vb kk bb c) (hW : World13 n la lo a b ka ad cap g two vb kk bb w) (hF : ∀ j ∈ anc13 73, factsAt (facts13 ad cap n a b la lo ka g capm two vb kk bb) j (val R13 c j) w) :
    Does Tryd.prog R13 Q (factsAt (facts13 ad cap n a b la lo ka g capm two vb kk bb)) 73 c w := by
  have ho : R13[73]? = some ({ dst := some 129, op := Op.move (Operand.tmp 1), type := 23, pos := "law.go:38", after := #[{ on := 72, ground := Ground.guard }], guard := some (72, true) } : Oper) := by kernel_rfl
  have e1 := hb.t1
  have hw : Region.wanted ({ dst := some 129, op := Op.move (Operand.tmp 1), type := 23, pos := "law.go:38", after := #[{ on := 72, ground := Ground.guard }], guard := some (72, true) } : Oper) (yielded R13 c.tmps) = true := want_eq (b := true) rfl (hF 72 (by decide))
  refine does_value ho hw (v := .int .i64 a) ?_ rfl (Below.refl _ _)
  · have ec : ∀ v, c.eval (.const v) = v := fun _ => rfl
    have ef : ∀ f, c.eval (.func f) = .func (.func f) #[] #[] := fun _ => rfl
    generalize c.eval = ρ at *
    clear hF hb hW hw ho
    go_simp

set_option maxRecDepth 10000 in
theorem o13_74 (ad : Option Addr) (cap n : Nat) (a b la lo ka : Int) (g capm two vb : Nat) (kk : Int) (bb : Bool) (Q : Exit → Act → World → Prop) (c : Act) (w : World) (hcap : n + 1 ≤ capm) (hn : n ≤ 1000) (hc2 : capm ≤ 9223372036854775807) (hb : Base13 ad cap n a b la lo ka g capm two vb kk bb c) (hW : World13 n la lo a b ka ad cap g two vb kk bb w) (hF : ∀ j ∈ anc13 74, factsAt (facts13 ad cap n a b la lo ka g capm two vb kk bb) j (val R13 c j) w) :
    Does Tryd.prog R13 Q (factsAt (facts13 ad cap n a b la lo ka g capm two vb kk bb)) 74 c w := by
  have ho : R13[74]? = some ({ dst := some 130, op := Op.call { callee := Callee.value (Operand.func 19), args := #[Operand.tmp 129], argTypes := #[23] }, type := 4, pos := "law.go:38", after := #[{ on := 73, ground := Ground.data }, { on := 72, ground := Ground.chain }, { on := 72, ground := Ground.guard }], guard := some (72, true) } : Oper) := by kernel_rfl
  have e129 : c.eval (.tmp 129) = .int .i64 a := fact_at (p := eqv (.int .i64 a)) (by kernel_rfl) rfl (hF 73 (by decide))
  have hw : Region.wanted ({ dst := some 130, op := Op.call { callee := Callee.value (Operand.func 19), args := #[Operand.tmp 129], argTypes := #[23] }, type := 4, pos := "law.go:38", after := #[{ on := 73, ground := Ground.data }, { on := 72, ground := Ground.chain }, { on := 72, ground := Ground.guard }], guard := some (72, true) } : Oper) (yielded R13 c.tmps) = true := want_eq (b := true) rfl (hF 72 (by decide))
  refine does_call ho hw (f := 19) (args := #[.int .i64 a]) ?_ ((holds_any a w).mono fun e w' ⟨h1, h2⟩ => ⟨_, h1, rfl, by subst h2; exact Below.refl _ _⟩)
  · have ec : ∀ v, c.eval (.const v) = v := fun _ => rfl
    have ef : ∀ f, c.eval (.func f) = .func (.func f) #[] #[] := fun _ => rfl
    generalize c.eval = ρ at *
    clear hF hb hW hw ho
    go_simp

set_option maxRecDepth 10000 in
theorem o13_75 (ad : Option Addr) (cap n : Nat) (a b la lo ka : Int) (g capm two vb : Nat) (kk : Int) (bb : Bool) (Q : Exit → Act → World → Prop) (c : Act) (w : World) (hcap : n + 1 ≤ capm) (hn : n ≤ 1000) (hc2 : capm ≤ 9223372036854775807) (hb : Base13 ad cap n a b la lo ka g capm two vb kk bb c) (hW : World13 n la lo a b ka ad cap g two vb kk bb w) (hF : ∀ j ∈ anc13 75, factsAt (facts13 ad cap n a b la lo ka g capm two vb kk bb) j (val R13 c j) w) :
    Does Tryd.prog R13 Q (factsAt (facts13 ad cap n a b la lo ka g capm two vb kk bb)) 75 c w := by
  have ho : R13[75]? = some ({ dst := some 131, op := Op.move (Operand.tmp 1), type := 23, pos := "law.go:38", after := #[{ on := 72, ground := Ground.guard }], guard := some (72, true) } : Oper) := by kernel_rfl
  have e1 := hb.t1
  have hw : Region.wanted ({ dst := some 131, op := Op.move (Operand.tmp 1), type := 23, pos := "law.go:38", after := #[{ on := 72, ground := Ground.guard }], guard := some (72, true) } : Oper) (yielded R13 c.tmps) = true := want_eq (b := true) rfl (hF 72 (by decide))
  refine does_value ho hw (v := .int .i64 a) ?_ rfl (Below.refl _ _)
  · have ec : ∀ v, c.eval (.const v) = v := fun _ => rfl
    have ef : ∀ f, c.eval (.func f) = .func (.func f) #[] #[] := fun _ => rfl
    generalize c.eval = ρ at *
    clear hF hb hW hw ho
    go_simp

set_option maxRecDepth 10000 in
theorem o13_76 (ad : Option Addr) (cap n : Nat) (a b la lo ka : Int) (g capm two vb : Nat) (kk : Int) (bb : Bool) (Q : Exit → Act → World → Prop) (c : Act) (w : World) (hcap : n + 1 ≤ capm) (hn : n ≤ 1000) (hc2 : capm ≤ 9223372036854775807) (hb : Base13 ad cap n a b la lo ka g capm two vb kk bb c) (hW : World13 n la lo a b ka ad cap g two vb kk bb w) (hF : ∀ j ∈ anc13 76, factsAt (facts13 ad cap n a b la lo ka g capm two vb kk bb) j (val R13 c j) w) :
    Does Tryd.prog R13 Q (factsAt (facts13 ad cap n a b la lo ka g capm two vb kk bb)) 76 c w := by
  have ho : R13[76]? = some ({ dst := some 132, op := Op.binOp BinOp.eql 23 (Operand.tmp 131) (Operand.const (Value.int IntKind.i64 2)) 23, type := 4, pos := "law.go:38", after := #[{ on := 75, ground := Ground.data }, { on := 72, ground := Ground.guard }], guard := some (72, true) } : Oper) := by kernel_rfl
  have e131 : c.eval (.tmp 131) = .int .i64 a := fact_at (p := eqv (.int .i64 a)) (by kernel_rfl) rfl (hF 75 (by decide))
  have hw : Region.wanted ({ dst := some 132, op := Op.binOp BinOp.eql 23 (Operand.tmp 131) (Operand.const (Value.int IntKind.i64 2)) 23, type := 4, pos := "law.go:38", after := #[{ on := 75, ground := Ground.data }, { on := 72, ground := Ground.guard }], guard := some (72, true) } : Oper) (yielded R13 c.tmps) = true := want_eq (b := true) rfl (hF 72 (by decide))
  refine does_value ho hw (v := .bool (a == 2)) ?_ rfl (Below.refl _ _)
  · have ec : ∀ v, c.eval (.const v) = v := fun _ => rfl
    have ef : ∀ f, c.eval (.func f) = .func (.func f) #[] #[] := fun _ => rfl
    generalize c.eval = ρ at *
    clear hF hb hW hw ho
    go_simp

set_option maxRecDepth 10000 in
theorem o13_77 (ad : Option Addr) (cap n : Nat) (a b la lo ka : Int) (g capm two vb : Nat) (kk : Int) (bb : Bool) (Q : Exit → Act → World → Prop) (c : Act) (w : World) (hcap : n + 1 ≤ capm) (hn : n ≤ 1000) (hc2 : capm ≤ 9223372036854775807) (hb : Base13 ad cap n a b la lo ka g capm two vb kk bb c) (hW : World13 n la lo a b ka ad cap g two vb kk bb w) (hF : ∀ j ∈ anc13 77, factsAt (facts13 ad cap n a b la lo ka g capm two vb kk bb) j (val R13 c j) w) :
    Does Tryd.prog R13 Q (factsAt (facts13 ad cap n a b la lo ka g capm two vb kk bb)) 77 c w := by
  have ho : R13[77]? = some ({ dst := some 133, op := Op.binOp BinOp.eql 4 (Operand.tmp 130) (Operand.tmp 132) 4, type := 4, pos := "law.go:38", after := #[{ on := 74, ground := Ground.data }, { on := 76, ground := Ground.data }, { on := 72, ground := Ground.guard }], guard := some (72, true) } : Oper) := by kernel_rfl
  have e130 : c.eval (.tmp 130) = .bool (a == 2) := fact_at (p := eqv (.bool (a == 2))) (by kernel_rfl) rfl (hF 74 (by decide))
  have e132 : c.eval (.tmp 132) = .bool (a == 2) := fact_at (p := eqv (.bool (a == 2))) (by kernel_rfl) rfl (hF 76 (by decide))
  have hw : Region.wanted ({ dst := some 133, op := Op.binOp BinOp.eql 4 (Operand.tmp 130) (Operand.tmp 132) 4, type := 4, pos := "law.go:38", after := #[{ on := 74, ground := Ground.data }, { on := 76, ground := Ground.data }, { on := 72, ground := Ground.guard }], guard := some (72, true) } : Oper) (yielded R13 c.tmps) = true := want_eq (b := true) rfl (hF 72 (by decide))
  refine does_value ho hw (v := .bool true) ?_ rfl (Below.refl _ _)
  · have ec : ∀ v, c.eval (.const v) = v := fun _ => rfl
    have ef : ∀ f, c.eval (.func f) = .func (.func f) #[] #[] := fun _ => rfl
    generalize c.eval = ρ at *
    clear hF hb hW hw ho
    go_simp

set_option maxRecDepth 10000 in
theorem o13_78 (ad : Option Addr) (cap n : Nat) (a b la lo ka : Int) (g capm two vb : Nat) (kk : Int) (bb : Bool) (Q : Exit → Act → World → Prop) (c : Act) (w : World) (hcap : n + 1 ≤ capm) (hn : n ≤ 1000) (hc2 : capm ≤ 9223372036854775807) (hb : Base13 ad cap n a b la lo ka g capm two vb kk bb c) (hW : World13 n la lo a b ka ad cap g two vb kk bb w) (hF : ∀ j ∈ anc13 78, factsAt (facts13 ad cap n a b la lo ka g capm two vb kk bb) j (val R13 c j) w) :
    Does Tryd.prog R13 Q (factsAt (facts13 ad cap n a b la lo ka g capm two vb kk bb)) 78 c w := by
  have ho : R13[78]? = some ({ dst := some 134, op := Op.pick (Operand.tmp 128) (Operand.tmp 133) (Operand.const (Value.bool false)), type := 4, pos := "law.go:38", after := #[{ on := 72, ground := Ground.data }, { on := 77, ground := Ground.data }], guard := none } : Oper) := by kernel_rfl
  have e128 : c.eval (.tmp 128) = .bool true := fact_at (p := eqv (.bool true)) (by kernel_rfl) rfl (hF 72 (by decide))
  have e133 : c.eval (.tmp 133) = .bool true := fact_at (p := eqv (.bool true)) (by kernel_rfl) rfl (hF 77 (by decide))
  have hw : Region.wanted ({ dst := some 134, op := Op.pick (Operand.tmp 128) (Operand.tmp 133) (Operand.const (Value.bool false)), type := 4, pos := "law.go:38", after := #[{ on := 72, ground := Ground.data }, { on := 77, ground := Ground.data }], guard := none } : Oper) (yielded R13 c.tmps) = true := want_none rfl
  refine does_value ho hw (v := .bool true) ?_ rfl (Below.refl _ _)
  · have ec : ∀ v, c.eval (.const v) = v := fun _ => rfl
    have ef : ∀ f, c.eval (.func f) = .func (.func f) #[] #[] := fun _ => rfl
    generalize c.eval = ρ at *
    clear hF hb hW hw ho
    go_simp

set_option maxRecDepth 10000 in
theorem o13_79 (ad : Option Addr) (cap n : Nat) (a b la lo ka : Int) (g capm two vb : Nat) (kk : Int) (bb : Bool) (Q : Exit → Act → World → Prop) (c : Act) (w : World) (hcap : n + 1 ≤ capm) (hn : n ≤ 1000) (hc2 : capm ≤ 9223372036854775807) (hb : Base13 ad cap n a b la lo ka g capm two vb kk bb c) (hW : World13 n la lo a b ka ad cap g two vb kk bb w) (hF : ∀ j ∈ anc13 79, factsAt (facts13 ad cap n a b la lo ka g capm two vb kk bb) j (val R13 c j) w) :
    Does Tryd.prog R13 Q (factsAt (facts13 ad cap n a b la lo ka g capm two vb kk bb)) 79 c w := by
  have ho : R13[79]? = some ({ dst := some 135, op := Op.move (Operand.tmp 134), type := 4, pos := "law.go:38", after := #[{ on := 78, ground := Ground.data }, { on := 74, ground := Ground.chain }], guard := none } : Oper) := by kernel_rfl
  have e134 : c.eval (.tmp 134) = .bool true := fact_at (p := eqv (.bool true)) (by kernel_rfl) rfl (hF 78 (by decide))
  have hw : Region.wanted ({ dst := some 135, op := Op.move (Operand.tmp 134), type := 4, pos := "law.go:38", after := #[{ on := 78, ground := Ground.data }, { on := 74, ground := Ground.chain }], guard := none } : Oper) (yielded R13 c.tmps) = true := want_none rfl
  refine does_value ho hw (v := .bool true) ?_ rfl (Below.refl _ _)
  · have ec : ∀ v, c.eval (.const v) = v := fun _ => rfl
    have ef : ∀ f, c.eval (.func f) = .func (.func f) #[] #[] := fun _ => rfl
    generalize c.eval = ρ at *
    clear hF hb hW hw ho
    go_simp

set_option maxRecDepth 10000 in
theorem o13_80 (ad : Option Addr) (cap n : Nat) (a b la lo ka : Int) (g capm two vb : Nat) (kk : Int) (bb : Bool) (Q : Exit → Act → World → Prop) (c : Act) (w : World) (hcap : n + 1 ≤ capm) (hn : n ≤ 1000) (hc2 : capm ≤ 9223372036854775807) (hb : Base13 ad cap n a b la lo ka g capm two vb kk bb c) (hW : World13 n la lo a b ka ad cap g two vb kk bb w) (hF : ∀ j ∈ anc13 80, factsAt (facts13 ad cap n a b la lo ka g capm two vb kk bb) j (val R13 c j) w) :
    Does Tryd.prog R13 Q (factsAt (facts13 ad cap n a b la lo ka g capm two vb kk bb)) 80 c w := by
  have ho : R13[80]? = some ({ dst := some 136, op := Op.call { callee := Callee.value (Operand.func 6), args := #[], argTypes := #[] }, type := 4, pos := "law.go:38", after := #[{ on := 79, ground := Ground.chain }, { on := 79, ground := Ground.guard }], guard := some (79, true) } : Oper) := by kernel_rfl
  have hw : Region.wanted ({ dst := some 136, op := Op.call { callee := Callee.value (Operand.func 6), args := #[], argTypes := #[] }, type := 4, pos := "law.go:38", after := #[{ on := 79, ground := Ground.chain }, { on := 79, ground := Ground.guard }], guard := some (79, true) } : Oper) (yielded R13 c.tmps) = true := want_eq (b := true) rfl (hF 79 (by decide))
  refine does_call ho hw (f := 6) (args := #[]) ?_ ((works_any w).mono fun e w' ⟨h1, h2⟩ => ⟨_, h1, rfl, h2⟩)
  · have ec : ∀ v, c.eval (.const v) = v := fun _ => rfl
    have ef : ∀ f, c.eval (.func f) = .func (.func f) #[] #[] := fun _ => rfl
    generalize c.eval = ρ at *
    clear hF hb hW hw ho
    go_simp

set_option maxRecDepth 10000 in
theorem o13_81 (ad : Option Addr) (cap n : Nat) (a b la lo ka : Int) (g capm two vb : Nat) (kk : Int) (bb : Bool) (Q : Exit → Act → World → Prop) (c : Act) (w : World) (hcap : n + 1 ≤ capm) (hn : n ≤ 1000) (hc2 : capm ≤ 9223372036854775807) (hb : Base13 ad cap n a b la lo ka g capm two vb kk bb c) (hW : World13 n la lo a b ka ad cap g two vb kk bb w) (hF : ∀ j ∈ anc13 81, factsAt (facts13 ad cap n a b la lo ka g capm two vb kk bb) j (val R13 c j) w) :
    Does Tryd.prog R13 Q (factsAt (facts13 ad cap n a b la lo ka g capm two vb kk bb)) 81 c w := by
  have ho : R13[81]? = some ({ dst := some 137, op := Op.pick (Operand.tmp 135) (Operand.tmp 136) (Operand.const (Value.bool false)), type := 4, pos := "law.go:38", after := #[{ on := 79, ground := Ground.data }, { on := 80, ground := Ground.data }], guard := none } : Oper) := by kernel_rfl
  have e135 : c.eval (.tmp 135) = .bool true := fact_at (p := eqv (.bool true)) (by kernel_rfl) rfl (hF 79 (by decide))
  have e136 : c.eval (.tmp 136) = .bool true := fact_at (p := eqv (.bool true)) (by kernel_rfl) rfl (hF 80 (by decide))
  have hw : Region.wanted ({ dst := some 137, op := Op.pick (Operand.tmp 135) (Operand.tmp 136) (Operand.const (Value.bool false)), type := 4, pos := "law.go:38", after := #[{ on := 79, ground := Ground.data }, { on := 80, ground := Ground.data }], guard := none } : Oper) (yielded R13 c.tmps) = true := want_none rfl
  refine does_value ho hw (v := .bool true) ?_ rfl (Below.refl _ _)
  · have ec : ∀ v, c.eval (.const v) = v := fun _ => rfl
    have ef : ∀ f, c.eval (.func f) = .func (.func f) #[] #[] := fun _ => rfl
    generalize c.eval = ρ at *
    clear hF hb hW hw ho
    go_simp

set_option maxRecDepth 10000 in
theorem o13_82 (ad : Option Addr) (cap n : Nat) (a b la lo ka : Int) (g capm two vb : Nat) (kk : Int) (bb : Bool) (Q : Exit → Act → World → Prop) (c : Act) (w : World) (hcap : n + 1 ≤ capm) (hn : n ≤ 1000) (hc2 : capm ≤ 9223372036854775807) (hb : Base13 ad cap n a b la lo ka g capm two vb kk bb c) (hW : World13 n la lo a b ka ad cap g two vb kk bb w) (hF : ∀ j ∈ anc13 82, factsAt (facts13 ad cap n a b la lo ka g capm two vb kk bb) j (val R13 c j) w) :
    Does Tryd.prog R13 Q (factsAt (facts13 ad cap n a b la lo ka g capm two vb kk bb)) 82 c w := by
  have ho : R13[82]? = some ({ dst := some 6, op := Op.assign (Operand.tmp 137), type := 4, pos := "law.go:38", after := ([{ on := 81, ground := Ground.data }, { on := 80, ground := Ground.chain }, { on := 0, ground := Ground.phase }, { on := 1, ground := Ground.phase }, { on := 2, ground := Ground.phase }, { on := 3, ground := Ground.phase }, { on := 4, ground := Ground.phase }, { on := 5, ground := Ground.phase }, { on := 6, ground := Ground.phase }, { on := 7, ground := Ground.phase }, { on := 8, ground := Ground.phase }, { on := 9, ground := Ground.phase }, { on := 10, ground := Ground.phase }, { on := 11, ground := Ground.phase }, { on := 12, ground := Ground.phase }, { on := 13, ground := Ground.phase }, { on := 14, ground := Ground.phase }, { on := 15, ground := Ground.phase }, { on := 16, ground := Ground.phase }, { on := 17, ground := Ground.phase }, { on := 18, ground := Ground.phase }, { on := 19, ground := Ground.phase }, { on := 20, ground := Ground.phase }, { on := 21, ground := Ground.phase }, { on := 22, ground := Ground.phase }, { on := 23, ground := Ground.phase }, { on := 24, ground := Ground.phase }, { on := 25, ground := Ground.phase }, { on := 26, ground := Ground.phase }, { on := 27, ground := Ground.phase }, { on := 28, ground := Ground.phase }, { on := 29, ground := Ground.phase }, { on := 30, ground := Ground.phase }, { on := 31, ground := Ground.phase }, { on := 32, ground := Ground.phase }, { on := 33, ground := Ground.phase }, { on := 34, ground := Ground.phase }, { on := 35, ground := Ground.phase }, { on := 36, ground := Ground.phase }, { on := 37, ground := Ground.phase }, { on := 38, ground := Ground.phase }, { on := 39, ground := Ground.phase }].append [{ on := 40, ground := Ground.phase }, { on := 41, ground := Ground.phase }, { on := 42, ground := Ground.phase }, { on := 43, ground := Ground.phase }, { on := 44, ground := Ground.phase }, { on := 45, ground := Ground.phase }, { on := 46, ground := Ground.phase }, { on := 47, ground := Ground.phase }, { on := 48, ground := Ground.phase }, { on := 49, ground := Ground.phase }, { on := 50, ground := Ground.phase }, { on := 51, ground := Ground.phase }, { on := 52, ground := Ground.phase }, { on := 53, ground := Ground.phase }, { on := 54, ground := Ground.phase }, { on := 55, ground := Ground.phase }, { on := 56, ground := Ground.phase }, { on := 57, ground := Ground.phase }, { on := 58, ground := Ground.phase }, { on := 59, ground := Ground.phase }, { on := 60, ground := Ground.phase }, { on := 61, ground := Ground.phase }, { on := 62, ground := Ground.phase }, { on := 63, ground := Ground.phase }, { on := 64, ground := Ground.phase }, { on := 65, ground := Ground.phase }, { on := 66, ground := Ground.phase }, { on := 67, ground := Ground.phase }, { on := 68, ground := Ground.phase }, { on := 69, ground := Ground.phase }, { on := 70, ground := Ground.phase }, { on := 71, ground := Ground.phase }, { on := 72, ground := Ground.phase }, { on := 73, ground := Ground.phase }, { on := 74, ground := Ground.phase }, { on := 75, ground := Ground.phase }, { on := 76, ground := Ground.phase }, { on := 77, ground := Ground.phase }, { on := 78, ground := Ground.phase }, { on := 79, ground := Ground.phase }, { on := 80, ground := Ground.phase }, { on := 81, ground := Ground.phase }]).toArray, guard := none } : Oper) := by kernel_rfl
  have e137 : c.eval (.tmp 137) = .bool true := fact_at (p := eqv (.bool true)) (by kernel_rfl) rfl (hF 81 (by decide))
  have hw : Region.wanted ({ dst := some 6, op := Op.assign (Operand.tmp 137), type := 4, pos := "law.go:38", after := ([{ on := 81, ground := Ground.data }, { on := 80, ground := Ground.chain }, { on := 0, ground := Ground.phase }, { on := 1, ground := Ground.phase }, { on := 2, ground := Ground.phase }, { on := 3, ground := Ground.phase }, { on := 4, ground := Ground.phase }, { on := 5, ground := Ground.phase }, { on := 6, ground := Ground.phase }, { on := 7, ground := Ground.phase }, { on := 8, ground := Ground.phase }, { on := 9, ground := Ground.phase }, { on := 10, ground := Ground.phase }, { on := 11, ground := Ground.phase }, { on := 12, ground := Ground.phase }, { on := 13, ground := Ground.phase }, { on := 14, ground := Ground.phase }, { on := 15, ground := Ground.phase }, { on := 16, ground := Ground.phase }, { on := 17, ground := Ground.phase }, { on := 18, ground := Ground.phase }, { on := 19, ground := Ground.phase }, { on := 20, ground := Ground.phase }, { on := 21, ground := Ground.phase }, { on := 22, ground := Ground.phase }, { on := 23, ground := Ground.phase }, { on := 24, ground := Ground.phase }, { on := 25, ground := Ground.phase }, { on := 26, ground := Ground.phase }, { on := 27, ground := Ground.phase }, { on := 28, ground := Ground.phase }, { on := 29, ground := Ground.phase }, { on := 30, ground := Ground.phase }, { on := 31, ground := Ground.phase }, { on := 32, ground := Ground.phase }, { on := 33, ground := Ground.phase }, { on := 34, ground := Ground.phase }, { on := 35, ground := Ground.phase }, { on := 36, ground := Ground.phase }, { on := 37, ground := Ground.phase }, { on := 38, ground := Ground.phase }, { on := 39, ground := Ground.phase }].append [{ on := 40, ground := Ground.phase }, { on := 41, ground := Ground.phase }, { on := 42, ground := Ground.phase }, { on := 43, ground := Ground.phase }, { on := 44, ground := Ground.phase }, { on := 45, ground := Ground.phase }, { on := 46, ground := Ground.phase }, { on := 47, ground := Ground.phase }, { on := 48, ground := Ground.phase }, { on := 49, ground := Ground.phase }, { on := 50, ground := Ground.phase }, { on := 51, ground := Ground.phase }, { on := 52, ground := Ground.phase }, { on := 53, ground := Ground.phase }, { on := 54, ground := Ground.phase }, { on := 55, ground := Ground.phase }, { on := 56, ground := Ground.phase }, { on := 57, ground := Ground.phase }, { on := 58, ground := Ground.phase }, { on := 59, ground := Ground.phase }, { on := 60, ground := Ground.phase }, { on := 61, ground := Ground.phase }, { on := 62, ground := Ground.phase }, { on := 63, ground := Ground.phase }, { on := 64, ground := Ground.phase }, { on := 65, ground := Ground.phase }, { on := 66, ground := Ground.phase }, { on := 67, ground := Ground.phase }, { on := 68, ground := Ground.phase }, { on := 69, ground := Ground.phase }, { on := 70, ground := Ground.phase }, { on := 71, ground := Ground.phase }, { on := 72, ground := Ground.phase }, { on := 73, ground := Ground.phase }, { on := 74, ground := Ground.phase }, { on := 75, ground := Ground.phase }, { on := 76, ground := Ground.phase }, { on := 77, ground := Ground.phase }, { on := 78, ground := Ground.phase }, { on := 79, ground := Ground.phase }, { on := 80, ground := Ground.phase }, { on := 81, ground := Ground.phase }]).toArray, guard := none } : Oper) (yielded R13 c.tmps) = true := want_none rfl
  refine does_value ho hw (v := .bool true) ?_ rfl (Below.refl _ _)
  · have ec : ∀ v, c.eval (.const v) = v := fun _ => rfl
    have ef : ∀ f, c.eval (.func f) = .func (.func f) #[] #[] := fun _ => rfl
    generalize c.eval = ρ at *
    clear hF hb hW hw ho
    go_simp

theorem stable13 (ad : Option Addr) (cap n : Nat) (a b la lo ka : Int) (g capm two vb : Nat) (kk : Int) (bb : Bool) : ∀ p ∈ facts13 ad cap n a b la lo ka g capm two vb kk bb, Stable p := by
  unfold facts13
  repeat' (first | exact List.forall_mem_nil _ | refine List.forall_mem_cons.2 ⟨by first | exact eqv_stable _ | exact laid_stable _, ?_⟩)

set_option maxRecDepth 100000 in
theorem all13 (ad : Option Addr) (cap n : Nat) (a b la lo ka : Int) (g capm two vb : Nat) (kk : Int) (bb : Bool) (Q : Exit → Act → World → Prop) (hcap : n + 1 ≤ capm) (hn : n ≤ 1000) (hc2 : capm ≤ 9223372036854775807) : ∀ i, i < 83 → (fun i => ∀ c w, Base13 ad cap n a b la lo ka g capm two vb kk bb c → World13 n la lo a b ka ad cap g two vb kk bb w → (∀ j ∈ anc13 i, factsAt (facts13 ad cap n a b la lo ka g capm two vb kk bb) j (val R13 c j) w) → Does Tryd.prog R13 Q (factsAt (facts13 ad cap n a b la lo ka g capm two vb kk bb)) i c w) i := by
  refine below_succ ?_ (fun c w => o13_82 ad cap n a b la lo ka g capm two vb kk bb Q c w hcap hn hc2)
  refine below_succ ?_ (fun c w => o13_81 ad cap n a b la lo ka g capm two vb kk bb Q c w hcap hn hc2)
  refine below_succ ?_ (fun c w => o13_80 ad cap n a b la lo ka g capm two vb kk bb Q c w hcap hn hc2)
  refine below_succ ?_ (fun c w => o13_79 ad cap n a b la lo ka g capm two vb kk bb Q c w hcap hn hc2)
  refine below_succ ?_ (fun c w => o13_78 ad cap n a b la lo ka g capm two vb kk bb Q c w hcap hn hc2)
  refine below_succ ?_ (fun c w => o13_77 ad cap n a b la lo ka g capm two vb kk bb Q c w hcap hn hc2)
  refine below_succ ?_ (fun c w => o13_76 ad cap n a b la lo ka g capm two vb kk bb Q c w hcap hn hc2)
  refine below_succ ?_ (fun c w => o13_75 ad cap n a b la lo ka g capm two vb kk bb Q c w hcap hn hc2)
  refine below_succ ?_ (fun c w => o13_74 ad cap n a b la lo ka g capm two vb kk bb Q c w hcap hn hc2)
  refine below_succ ?_ (fun c w => o13_73 ad cap n a b la lo ka g capm two vb kk bb Q c w hcap hn hc2)
  refine below_succ ?_ (fun c w => o13_72 ad cap n a b la lo ka g capm two vb kk bb Q c w hcap hn hc2)
  refine below_succ ?_ (fun c w => o13_71 ad cap n a b la lo ka g capm two vb kk bb Q c w hcap hn hc2)
  refine below_succ ?_ (fun c w => o13_70 ad cap n a b la lo ka g capm two vb kk bb Q c w hcap hn hc2)
  refine below_succ ?_ (fun c w => o13_69 ad cap n a b la lo ka g capm two vb kk bb Q c w hcap hn hc2)
  refine below_succ ?_ (fun c w => o13_68 ad cap n a b la lo ka g capm two vb kk bb Q c w hcap hn hc2)
  refine below_succ ?_ (fun c w => o13_67 ad cap n a b la lo ka g capm two vb kk bb Q c w hcap hn hc2)
  refine below_succ ?_ (fun c w => o13_66 ad cap n a b la lo ka g capm two vb kk bb Q c w hcap hn hc2)
  refine below_succ ?_ (fun c w => o13_65 ad cap n a b la lo ka g capm two vb kk bb Q c w hcap hn hc2)
  refine below_succ ?_ (fun c w => o13_64 ad cap n a b la lo ka g capm two vb kk bb Q c w hcap hn hc2)
  refine below_succ ?_ (fun c w => o13_63 ad cap n a b la lo ka g capm two vb kk bb Q c w hcap hn hc2)
  refine below_succ ?_ (fun c w => o13_62 ad cap n a b la lo ka g capm two vb kk bb Q c w hcap hn hc2)
  refine below_succ ?_ (fun c w => o13_61 ad cap n a b la lo ka g capm two vb kk bb Q c w hcap hn hc2)
  refine below_succ ?_ (fun c w => o13_60 ad cap n a b la lo ka g capm two vb kk bb Q c w hcap hn hc2)
  refine below_succ ?_ (fun c w => o13_59 ad cap n a b la lo ka g capm two vb kk bb Q c w hcap hn hc2)
  refine below_succ ?_ (fun c w => o13_58 ad cap n a b la lo ka g capm two vb kk bb Q c w hcap hn hc2)
  refine below_succ ?_ (fun c w => o13_57 ad cap n a b la lo ka g capm two vb kk bb Q c w hcap hn hc2)
  refine below_succ ?_ (fun c w => o13_56 ad cap n a b la lo ka g capm two vb kk bb Q c w hcap hn hc2)
  refine below_succ ?_ (fun c w => o13_55 ad cap n a b la lo ka g capm two vb kk bb Q c w hcap hn hc2)
  refine below_succ ?_ (fun c w => o13_54 ad cap n a b la lo ka g capm two vb kk bb Q c w hcap hn hc2)
  refine below_succ ?_ (fun c w => o13_53 ad cap n a b la lo ka g capm two vb kk bb Q c w hcap hn hc2)
  refine below_succ ?_ (fun c w => o13_52 ad cap n a b la lo ka g capm two vb kk bb Q c w hcap hn hc2)
  refine below_succ ?_ (fun c w => o13_51 ad cap n a b la lo ka g capm two vb kk bb Q c w hcap hn hc2)
  refine below_succ ?_ (fun c w => o13_50 ad cap n a b la lo ka g capm two vb kk bb Q c w hcap hn hc2)
  refine below_succ ?_ (fun c w => o13_49 ad cap n a b la lo ka g capm two vb kk bb Q c w hcap hn hc2)
  refine below_succ ?_ (fun c w => o13_48 ad cap n a b la lo ka g capm two vb kk bb Q c w hcap hn hc2)
  refine below_succ ?_ (fun c w => o13_47 ad cap n a b la lo ka g capm two vb kk bb Q c w hcap hn hc2)
  refine below_succ ?_ (fun c w => o13_46 ad cap n a b la lo ka g capm two vb kk bb Q c w hcap hn hc2)
  refine below_succ ?_ (fun c w => o13_45 ad cap n a b la lo ka g capm two vb kk bb Q c w hcap hn hc2)
  refine below_succ ?_ (fun c w => o13_44 ad cap n a b la lo ka g capm two vb kk bb Q c w hcap hn hc2)
  refine below_succ ?_ (fun c w => o13_43 ad cap n a b la lo ka g capm two vb kk bb Q c w hcap hn hc2)
  refine below_succ ?_ (fun c w => o13_42 ad cap n a b la lo ka g capm two vb kk bb Q c w hcap hn hc2)
  refine below_succ ?_ (fun c w => o13_41 ad cap n a b la lo ka g capm two vb kk bb Q c w hcap hn hc2)
  refine below_succ ?_ (fun c w => o13_40 ad cap n a b la lo ka g capm two vb kk bb Q c w hcap hn hc2)
  refine below_succ ?_ (fun c w => o13_39 ad cap n a b la lo ka g capm two vb kk bb Q c w hcap hn hc2)
  refine below_succ ?_ (fun c w => o13_38 ad cap n a b la lo ka g capm two vb kk bb Q c w hcap hn hc2)
  refine below_succ ?_ (fun c w => o13_37 ad cap n a b la lo ka g capm two vb kk bb Q c w hcap hn hc2)
  refine below_succ ?_ (fun c w => o13_36 ad cap n a b la lo ka g capm two vb kk bb Q c w hcap hn hc2)
  refine below_succ ?_ (fun c w => o13_35 ad cap n a b la lo ka g capm two vb kk bb Q c w hcap hn hc2)
  refine below_succ ?_ (fun c w => o13_34 ad cap n a b la lo ka g capm two vb kk bb Q c w hcap hn hc2)
  refine below_succ ?_ (fun c w => o13_33 ad cap n a b la lo ka g capm two vb kk bb Q c w hcap hn hc2)
  refine below_succ ?_ (fun c w => o13_32 ad cap n a b la lo ka g capm two vb kk bb Q c w hcap hn hc2)
  refine below_succ ?_ (fun c w => o13_31 ad cap n a b la lo ka g capm two vb kk bb Q c w hcap hn hc2)
  refine below_succ ?_ (fun c w => o13_30 ad cap n a b la lo ka g capm two vb kk bb Q c w hcap hn hc2)
  refine below_succ ?_ (fun c w => o13_29 ad cap n a b la lo ka g capm two vb kk bb Q c w hcap hn hc2)
  refine below_succ ?_ (fun c w => o13_28 ad cap n a b la lo ka g capm two vb kk bb Q c w hcap hn hc2)
  refine below_succ ?_ (fun c w => o13_27 ad cap n a b la lo ka g capm two vb kk bb Q c w hcap hn hc2)
  refine below_succ ?_ (fun c w => o13_26 ad cap n a b la lo ka g capm two vb kk bb Q c w hcap hn hc2)
  refine below_succ ?_ (fun c w => o13_25 ad cap n a b la lo ka g capm two vb kk bb Q c w hcap hn hc2)
  refine below_succ ?_ (fun c w => o13_24 ad cap n a b la lo ka g capm two vb kk bb Q c w hcap hn hc2)
  refine below_succ ?_ (fun c w => o13_23 ad cap n a b la lo ka g capm two vb kk bb Q c w hcap hn hc2)
  refine below_succ ?_ (fun c w => o13_22 ad cap n a b la lo ka g capm two vb kk bb Q c w hcap hn hc2)
  refine below_succ ?_ (fun c w => o13_21 ad cap n a b la lo ka g capm two vb kk bb Q c w hcap hn hc2)
  refine below_succ ?_ (fun c w => o13_20 ad cap n a b la lo ka g capm two vb kk bb Q c w hcap hn hc2)
  refine below_succ ?_ (fun c w => o13_19 ad cap n a b la lo ka g capm two vb kk bb Q c w hcap hn hc2)
  refine below_succ ?_ (fun c w => o13_18 ad cap n a b la lo ka g capm two vb kk bb Q c w hcap hn hc2)
  refine below_succ ?_ (fun c w => o13_17 ad cap n a b la lo ka g capm two vb kk bb Q c w hcap hn hc2)
  refine below_succ ?_ (fun c w => o13_16 ad cap n a b la lo ka g capm two vb kk bb Q c w hcap hn hc2)
  refine below_succ ?_ (fun c w => o13_15 ad cap n a b la lo ka g capm two vb kk bb Q c w hcap hn hc2)
  refine below_succ ?_ (fun c w => o13_14 ad cap n a b la lo ka g capm two vb kk bb Q c w hcap hn hc2)
  refine below_succ ?_ (fun c w => o13_13 ad cap n a b la lo ka g capm two vb kk bb Q c w hcap hn hc2)
  refine below_succ ?_ (fun c w => o13_12 ad cap n a b la lo ka g capm two vb kk bb Q c w hcap hn hc2)
  refine below_succ ?_ (fun c w => o13_11 ad cap n a b la lo ka g capm two vb kk bb Q c w hcap hn hc2)
  refine below_succ ?_ (fun c w => o13_10 ad cap n a b la lo ka g capm two vb kk bb Q c w hcap hn hc2)
  refine below_succ ?_ (fun c w => o13_9 ad cap n a b la lo ka g capm two vb kk bb Q c w hcap hn hc2)
  refine below_succ ?_ (fun c w => o13_8 ad cap n a b la lo ka g capm two vb kk bb Q c w hcap hn hc2)
  refine below_succ ?_ (fun c w => o13_7 ad cap n a b la lo ka g capm two vb kk bb Q c w hcap hn hc2)
  refine below_succ ?_ (fun c w => o13_6 ad cap n a b la lo ka g capm two vb kk bb Q c w hcap hn hc2)
  refine below_succ ?_ (fun c w => o13_5 ad cap n a b la lo ka g capm two vb kk bb Q c w hcap hn hc2)
  refine below_succ ?_ (fun c w => o13_4 ad cap n a b la lo ka g capm two vb kk bb Q c w hcap hn hc2)
  refine below_succ ?_ (fun c w => o13_3 ad cap n a b la lo ka g capm two vb kk bb Q c w hcap hn hc2)
  refine below_succ ?_ (fun c w => o13_2 ad cap n a b la lo ka g capm two vb kk bb Q c w hcap hn hc2)
  refine below_succ ?_ (fun c w => o13_1 ad cap n a b la lo ka g capm two vb kk bb Q c w hcap hn hc2)
  refine below_succ ?_ (fun c w => o13_0 ad cap n a b la lo ka g capm two vb kk bb Q c w hcap hn hc2)
  exact below_zero

theorem region13 (ad : Option Addr) (cap n : Nat) (a b la lo ka : Int) (g capm two vb : Nat) (kk : Int) (bb : Bool) (Q : Exit → Act → World → Prop) (base : Act) (w0 : World) (hcap : n + 1 ≤ capm) (hn : n ≤ 1000) (hc2 : capm ≤ 9223372036854775807) (hsz : base.tmps.size = 138) (hb : Base13 ad cap n a b la lo ka g capm two vb kk bb base)
    (hW : ∀ w, Below w0.heap.size w0 w → World13 n la lo a b ka ad cap g two vb kk bb w) (hQ : ∀ c w, c.eval (.tmp 6) = .bool true → c.defers = base.defers → Below w0.heap.size w0 w → Q .normal c w) : (Code.region 13 R13 true).wp Tryd.prog Q base w0 := by
  refine facts_rule (A := anc13) (F := factsAt (facts13 ad cap n a b la lo ka g capm two vb kk bb)) (by kernel_rfl) (by rw [hsz]; kernel_rfl) (fun i v w w' => factsAt_stable (stable13 ad cap n a b la lo ka g capm two vb kk bb) i v w w') ?_ ?_
  · intro i hi c w hS hB hF
    exact all13 ad cap n a b la lo ka g capm two vb kk bb Q hcap hn hc2 i (by rwa [show R13.size = 83 by kernel_rfl] at hi) c w ⟨(same_eval hS (by kernel_rfl)).trans hb.t0, (same_eval hS (by kernel_rfl)).trans hb.t1, (same_eval hS (by kernel_rfl)).trans hb.t2, (same_eval hS (by kernel_rfl)).trans hb.t7, (same_eval hS (by kernel_rfl)).trans hb.t8, (same_eval hS (by kernel_rfl)).trans hb.t9, (same_eval hS (by kernel_rfl)).trans hb.t11, (same_eval hS (by kernel_rfl)).trans hb.t12, (same_eval hS (by kernel_rfl)).trans hb.t13, (same_eval hS (by kernel_rfl)).trans hb.t14⟩ (hW w hB) hF
  · intro c w hS hB hF
    exact hQ c w (fact_at (p := eqv (.bool true)) (by kernel_rfl) rfl (hF 82 (by rw [show R13.size = 83 by kernel_rfl]; omega))) hS.1 hB
end Go.Proofs.YtbpmhgcjefpigaaDoor
