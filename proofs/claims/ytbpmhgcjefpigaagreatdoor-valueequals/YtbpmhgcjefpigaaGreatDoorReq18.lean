/- The document's equality, one round over two lists: operation by operation, in whatever order. -/
import Derived.Test.YtbpmhgcjefpigaaGreatDoorFacts
import Derived.Test.YtbpmhgcjefpigaaGreatDoorJoin16
namespace Go.Proofs.YtbpmhgcjefpigaaGreatDoor
open Go.RowKit Go.WideShapes Go.Shelf
set_option linter.unusedVariables false
set_option linter.unusedSimpArgs false

noncomputable def RE18 : Array Oper := regionAt Tryz.f35 18
def ancE18 (i : Nat) : List Nat := ([[], [0], [], [1, 2], [3], [], [5], [], [6, 7], [8], [4, 9], [10]] : List (List Nat)).getD i []
def factsE18 (p1 p2 bl off tl lc bl' off' tl' lc' j : Nat) (v0 : Int) (v1 : Bool) (v2 : Int) (v3 : ByteArray) (v4 : Option Addr) (vn vc : Nat) (v5 : Option Addr) (vm vd : Nat) (u0 : Int) (u1 : Bool) (u2 : Int) (u3 : ByteArray) (u4 : Option Addr) (un uc : Nat) (u5 : Option Addr) (um ud : Nat) (res : Int) : List (Value → World → Prop) :=
  [eqv (.pointer (some ⟨p1, 5, none⟩)), eqv (.slice (some ⟨bl, off, none⟩) tl lc), eqv (.int .i64 (j : Int)), eqv (.pointer (some ⟨bl, off + j * 6, none⟩)), eqv (.agg #[.int .i64 v0, .bool v1, .int .i64 v2, .string v3, .slice v4 vn vc, .slice v5 vm vd]), eqv (.pointer (some ⟨p2, 5, none⟩)), eqv (.slice (some ⟨bl', off', none⟩) tl' lc'), eqv (.int .i64 (j : Int)), eqv (.pointer (some ⟨bl', off' + j * 6, none⟩)), eqv (.agg #[.int .i64 u0, .bool u1, .int .i64 u2, .string u3, .slice u4 un uc, .slice u5 um ud]), eqv (.int .i64 res), eqv (.int .i64 res)]
structure BaseE18 (p1 p2 bl off tl lc bl' off' tl' lc' j : Nat) (v0 : Int) (v1 : Bool) (v2 : Int) (v3 : ByteArray) (v4 : Option Addr) (vn vc : Nat) (v5 : Option Addr) (vm vd : Nat) (u0 : Int) (u1 : Bool) (u2 : Int) (u3 : ByteArray) (u4 : Option Addr) (un uc : Nat) (u5 : Option Addr) (um ud : Nat) (res : Int) (c : Act) : Prop where
  t2 : c.eval (.tmp 2) = .pointer (some ⟨p1, 0, none⟩)
  t3 : c.eval (.tmp 3) = .pointer (some ⟨p2, 0, none⟩)
  t7 : c.eval (.tmp 7) = .int .i64 (j : Int)
structure WorldE18 (p1 p2 bl off tl lc bl' off' tl' lc' j : Nat) (v0 : Int) (v1 : Bool) (v2 : Int) (v3 : ByteArray) (v4 : Option Addr) (vn vc : Nat) (v5 : Option Addr) (vm vd : Nat) (u0 : Int) (u1 : Bool) (u2 : Int) (u3 : ByteArray) (u4 : Option Addr) (un uc : Nat) (u5 : Option Addr) (um ud : Nat) (res : Int) (w : World) : Prop where
  q1 : w.cell? ⟨p1, 5, none⟩ = some (.slice (some ⟨bl, off, none⟩) tl lc)
  q2 : w.cell? ⟨p2, 5, none⟩ = some (.slice (some ⟨bl', off', none⟩) tl' lc')
  vc0 : w.cell? ⟨bl, off + j * 6, none⟩ = some (.int .i64 v0)
  vc1 : w.cell? ⟨bl, off + j * 6 + 1, none⟩ = some (.bool v1)
  vc2 : w.cell? ⟨bl, off + j * 6 + 2, none⟩ = some (.int .i64 v2)
  vc3 : w.cell? ⟨bl, off + j * 6 + 3, none⟩ = some (.string v3)
  vc4 : w.cell? ⟨bl, off + j * 6 + 4, none⟩ = some (.slice v4 vn vc)
  vc5 : w.cell? ⟨bl, off + j * 6 + 5, none⟩ = some (.slice v5 vm vd)
  uc0 : w.cell? ⟨bl', off' + j * 6, none⟩ = some (.int .i64 u0)
  uc1 : w.cell? ⟨bl', off' + j * 6 + 1, none⟩ = some (.bool u1)
  uc2 : w.cell? ⟨bl', off' + j * 6 + 2, none⟩ = some (.int .i64 u2)
  uc3 : w.cell? ⟨bl', off' + j * 6 + 3, none⟩ = some (.string u3)
  uc4 : w.cell? ⟨bl', off' + j * 6 + 4, none⟩ = some (.slice u4 un uc)
  uc5 : w.cell? ⟨bl', off' + j * 6 + 5, none⟩ = some (.slice u5 um ud)
  l1 : j < tl
  l2 : j < tl'
  m1 : tl ≤ 9223372036854775807
  m2 : tl' ≤ 9223372036854775807
  call : Calls Tryz.prog 35 #[.agg #[.int .i64 v0, .bool v1, .int .i64 v2, .string v3, .slice v4 vn vc, .slice v5 vm vd], .agg #[.int .i64 u0, .bool u1, .int .i64 u2, .string u3, .slice u4 un uc, .slice u5 um ud]] w fun e w' => e = .returned (.int .i64 res) ∧ Below w.heap.size w w'

set_option maxRecDepth 10000 in
theorem oE18_0 (p1 p2 bl off tl lc bl' off' tl' lc' j : Nat) (v0 : Int) (v1 : Bool) (v2 : Int) (v3 : ByteArray) (v4 : Option Addr) (vn vc : Nat) (v5 : Option Addr) (vm vd : Nat) (u0 : Int) (u1 : Bool) (u2 : Int) (u3 : ByteArray) (u4 : Option Addr) (un uc : Nat) (u5 : Option Addr) (um ud : Nat) (res : Int) (Q : Exit → Act → World → Prop) (c : Act) (w : World) (hb : BaseE18 p1 p2 bl off tl lc bl' off' tl' lc' j v0 v1 v2 v3 v4 vn vc v5 vm vd u0 u1 u2 u3 u4 un uc u5 um ud res c) (hW : WorldE18 p1 p2 bl off tl lc bl' off' tl' lc' j v0 v1 v2 v3 v4 vn vc v5 vm vd u0 u1 u2 u3 u4 un uc u5 um ud res w) (hF : ∀ q0 ∈ ancE18 0, factsAt (factsE18 p1 p2 bl off tl lc bl' off' tl' lc' j v0 v1 v2 v3 v4 vn vc v5 vm vd u0 u1 u2 u3 u4 un uc u5 um ud res) q0 (val RE18 c q0) w) :
    Does Tryz.prog RE18 Q (factsAt (factsE18 p1 p2 bl off tl lc bl' off' tl' lc' j v0 v1 v2 v3 v4 vn vc v5 vm vd u0 u1 u2 u3 u4 un uc u5 um ud res)) 0 c w := by
  have ho : RE18[0]? = some ({ dst := some 76, op := Op.fieldAddr 26 (Operand.tmp 2) 5, type := 0, pos := "ref.go:211", after := #[], guard := none } : Oper) := by kernel_rfl
  have e2 := hb.t2
  have hw : Region.wanted ({ dst := some 76, op := Op.fieldAddr 26 (Operand.tmp 2) 5, type := 0, pos := "ref.go:211", after := #[], guard := none } : Oper) (yielded RE18 c.tmps) = true := want_none rfl
  have ec : ∀ v, c.eval (.const v) = v := fun _ => rfl
  have ef : ∀ f, c.eval (.func f) = .func (.func f) #[] #[] := fun _ => rfl
  have hw0 := hw
  refine does_value ho hw0 (v := .pointer (some ⟨p1, 5, none⟩)) ?_ rfl (Below.refl _ _)
  generalize c.eval = ρ at *
  clear hF hb hW hw hw0 ho
  go_simp

set_option maxRecDepth 10000 in
theorem oE18_1 (p1 p2 bl off tl lc bl' off' tl' lc' j : Nat) (v0 : Int) (v1 : Bool) (v2 : Int) (v3 : ByteArray) (v4 : Option Addr) (vn vc : Nat) (v5 : Option Addr) (vm vd : Nat) (u0 : Int) (u1 : Bool) (u2 : Int) (u3 : ByteArray) (u4 : Option Addr) (un uc : Nat) (u5 : Option Addr) (um ud : Nat) (res : Int) (Q : Exit → Act → World → Prop) (c : Act) (w : World) (hb : BaseE18 p1 p2 bl off tl lc bl' off' tl' lc' j v0 v1 v2 v3 v4 vn vc v5 vm vd u0 u1 u2 u3 u4 un uc u5 um ud res c) (hW : WorldE18 p1 p2 bl off tl lc bl' off' tl' lc' j v0 v1 v2 v3 v4 vn vc v5 vm vd u0 u1 u2 u3 u4 un uc u5 um ud res w) (hF : ∀ q0 ∈ ancE18 1, factsAt (factsE18 p1 p2 bl off tl lc bl' off' tl' lc' j v0 v1 v2 v3 v4 vn vc v5 vm vd u0 u1 u2 u3 u4 un uc u5 um ud res) q0 (val RE18 c q0) w) :
    Does Tryz.prog RE18 Q (factsAt (factsE18 p1 p2 bl off tl lc bl' off' tl' lc' j v0 v1 v2 v3 v4 vn vc v5 vm vd u0 u1 u2 u3 u4 un uc u5 um ud res)) 1 c w := by
  have ho : RE18[1]? = some ({ dst := some 77, op := Op.load 24 (Operand.tmp 76), type := 24, pos := "ref.go:211", after := #[{ on := 0, ground := Ground.data }], guard := none } : Oper) := by kernel_rfl
  have e76 : c.eval (.tmp 76) = .pointer (some ⟨p1, 5, none⟩) := fact_at (p := eqv (.pointer (some ⟨p1, 5, none⟩))) (by kernel_rfl) rfl (hF 0 (by decide))
  have hw : Region.wanted ({ dst := some 77, op := Op.load 24 (Operand.tmp 76), type := 24, pos := "ref.go:211", after := #[{ on := 0, ground := Ground.data }], guard := none } : Oper) (yielded RE18 c.tmps) = true := want_none rfl
  have hc := hW.q1
  have ec : ∀ v, c.eval (.const v) = v := fun _ => rfl
  have ef : ∀ f, c.eval (.func f) = .func (.func f) #[] #[] := fun _ => rfl
  have hw0 := hw
  refine does_value ho hw0 (v := .slice (some ⟨bl, off, none⟩) tl lc) ?_ rfl (Below.refl _ _)
  generalize c.eval = ρ at *
  clear hF hb hW hw hw0 ho
  go_simp

set_option maxRecDepth 10000 in
theorem oE18_2 (p1 p2 bl off tl lc bl' off' tl' lc' j : Nat) (v0 : Int) (v1 : Bool) (v2 : Int) (v3 : ByteArray) (v4 : Option Addr) (vn vc : Nat) (v5 : Option Addr) (vm vd : Nat) (u0 : Int) (u1 : Bool) (u2 : Int) (u3 : ByteArray) (u4 : Option Addr) (un uc : Nat) (u5 : Option Addr) (um ud : Nat) (res : Int) (Q : Exit → Act → World → Prop) (c : Act) (w : World) (hb : BaseE18 p1 p2 bl off tl lc bl' off' tl' lc' j v0 v1 v2 v3 v4 vn vc v5 vm vd u0 u1 u2 u3 u4 un uc u5 um ud res c) (hW : WorldE18 p1 p2 bl off tl lc bl' off' tl' lc' j v0 v1 v2 v3 v4 vn vc v5 vm vd u0 u1 u2 u3 u4 un uc u5 um ud res w) (hF : ∀ q0 ∈ ancE18 2, factsAt (factsE18 p1 p2 bl off tl lc bl' off' tl' lc' j v0 v1 v2 v3 v4 vn vc v5 vm vd u0 u1 u2 u3 u4 un uc u5 um ud res) q0 (val RE18 c q0) w) :
    Does Tryz.prog RE18 Q (factsAt (factsE18 p1 p2 bl off tl lc bl' off' tl' lc' j v0 v1 v2 v3 v4 vn vc v5 vm vd u0 u1 u2 u3 u4 un uc u5 um ud res)) 2 c w := by
  have ho : RE18[2]? = some ({ dst := some 78, op := Op.move (Operand.tmp 7), type := 3, pos := "ref.go:211", after := #[], guard := none } : Oper) := by kernel_rfl
  have e7 := hb.t7
  have hw : Region.wanted ({ dst := some 78, op := Op.move (Operand.tmp 7), type := 3, pos := "ref.go:211", after := #[], guard := none } : Oper) (yielded RE18 c.tmps) = true := want_none rfl
  have ec : ∀ v, c.eval (.const v) = v := fun _ => rfl
  have ef : ∀ f, c.eval (.func f) = .func (.func f) #[] #[] := fun _ => rfl
  have hw0 := hw
  refine does_value ho hw0 (v := .int .i64 (j : Int)) ?_ rfl (Below.refl _ _)
  generalize c.eval = ρ at *
  clear hF hb hW hw hw0 ho
  go_simp

set_option maxRecDepth 10000 in
theorem oE18_3 (p1 p2 bl off tl lc bl' off' tl' lc' j : Nat) (v0 : Int) (v1 : Bool) (v2 : Int) (v3 : ByteArray) (v4 : Option Addr) (vn vc : Nat) (v5 : Option Addr) (vm vd : Nat) (u0 : Int) (u1 : Bool) (u2 : Int) (u3 : ByteArray) (u4 : Option Addr) (un uc : Nat) (u5 : Option Addr) (um ud : Nat) (res : Int) (Q : Exit → Act → World → Prop) (c : Act) (w : World) (hb : BaseE18 p1 p2 bl off tl lc bl' off' tl' lc' j v0 v1 v2 v3 v4 vn vc v5 vm vd u0 u1 u2 u3 u4 un uc u5 um ud res c) (hW : WorldE18 p1 p2 bl off tl lc bl' off' tl' lc' j v0 v1 v2 v3 v4 vn vc v5 vm vd u0 u1 u2 u3 u4 un uc u5 um ud res w) (hF : ∀ q0 ∈ ancE18 3, factsAt (factsE18 p1 p2 bl off tl lc bl' off' tl' lc' j v0 v1 v2 v3 v4 vn vc v5 vm vd u0 u1 u2 u3 u4 un uc u5 um ud res) q0 (val RE18 c q0) w) :
    Does Tryz.prog RE18 Q (factsAt (factsE18 p1 p2 bl off tl lc bl' off' tl' lc' j v0 v1 v2 v3 v4 vn vc v5 vm vd u0 u1 u2 u3 u4 un uc u5 um ud res)) 3 c w := by
  have ho : RE18[3]? = some ({ dst := some 79, op := Op.indexAddr 24 (Operand.tmp 77) (Operand.tmp 78), type := 0, pos := "ref.go:211", after := #[{ on := 1, ground := Ground.data }, { on := 2, ground := Ground.data }], guard := none } : Oper) := by kernel_rfl
  have e77 : c.eval (.tmp 77) = .slice (some ⟨bl, off, none⟩) tl lc := fact_at (p := eqv (.slice (some ⟨bl, off, none⟩) tl lc)) (by kernel_rfl) rfl (hF 1 (by decide))
  have e78 : c.eval (.tmp 78) = .int .i64 (j : Int) := fact_at (p := eqv (.int .i64 (j : Int))) (by kernel_rfl) rfl (hF 2 (by decide))
  have hw : Region.wanted ({ dst := some 79, op := Op.indexAddr 24 (Operand.tmp 77) (Operand.tmp 78), type := 0, pos := "ref.go:211", after := #[{ on := 1, ground := Ground.data }, { on := 2, ground := Ground.data }], guard := none } : Oper) (yielded RE18 c.tmps) = true := want_none rfl
  have h1 := hW.l1
  have h2 := hW.l2
  have h3 := hW.m1
  have h4 := hW.m2
  have ec : ∀ v, c.eval (.const v) = v := fun _ => rfl
  have ef : ∀ f, c.eval (.func f) = .func (.func f) #[] #[] := fun _ => rfl
  have hw0 := hw
  refine does_value ho hw0 (v := .pointer (some ⟨bl, off + j * 6, none⟩)) ?_ rfl (Below.refl _ _)
  generalize c.eval = ρ at *
  clear hF hb hW hw hw0 ho
  go_simp

set_option maxRecDepth 10000 in
theorem oE18_4 (p1 p2 bl off tl lc bl' off' tl' lc' j : Nat) (v0 : Int) (v1 : Bool) (v2 : Int) (v3 : ByteArray) (v4 : Option Addr) (vn vc : Nat) (v5 : Option Addr) (vm vd : Nat) (u0 : Int) (u1 : Bool) (u2 : Int) (u3 : ByteArray) (u4 : Option Addr) (un uc : Nat) (u5 : Option Addr) (um ud : Nat) (res : Int) (Q : Exit → Act → World → Prop) (c : Act) (w : World) (hb : BaseE18 p1 p2 bl off tl lc bl' off' tl' lc' j v0 v1 v2 v3 v4 vn vc v5 vm vd u0 u1 u2 u3 u4 un uc u5 um ud res c) (hW : WorldE18 p1 p2 bl off tl lc bl' off' tl' lc' j v0 v1 v2 v3 v4 vn vc v5 vm vd u0 u1 u2 u3 u4 un uc u5 um ud res w) (hF : ∀ q0 ∈ ancE18 4, factsAt (factsE18 p1 p2 bl off tl lc bl' off' tl' lc' j v0 v1 v2 v3 v4 vn vc v5 vm vd u0 u1 u2 u3 u4 un uc u5 um ud res) q0 (val RE18 c q0) w) :
    Does Tryz.prog RE18 Q (factsAt (factsE18 p1 p2 bl off tl lc bl' off' tl' lc' j v0 v1 v2 v3 v4 vn vc v5 vm vd u0 u1 u2 u3 u4 un uc u5 um ud res)) 4 c w := by
  have ho : RE18[4]? = some ({ dst := some 80, op := Op.load 26 (Operand.tmp 79), type := 26, pos := "ref.go:211", after := #[{ on := 3, ground := Ground.data }], guard := none } : Oper) := by kernel_rfl
  have e79 : c.eval (.tmp 79) = .pointer (some ⟨bl, off + j * 6, none⟩) := fact_at (p := eqv (.pointer (some ⟨bl, off + j * 6, none⟩))) (by kernel_rfl) rfl (hF 3 (by decide))
  have hw : Region.wanted ({ dst := some 80, op := Op.load 26 (Operand.tmp 79), type := 26, pos := "ref.go:211", after := #[{ on := 3, ground := Ground.data }], guard := none } : Oper) (yielded RE18 c.tmps) = true := want_none rfl
  have hc0 := hW.vc0
  have hc1 := hW.vc1
  have hc2 := hW.vc2
  have hc3 := hW.vc3
  have hc4 := hW.vc4
  have hc5 := hW.vc5
  have ec : ∀ v, c.eval (.const v) = v := fun _ => rfl
  have ef : ∀ f, c.eval (.func f) = .func (.func f) #[] #[] := fun _ => rfl
  have hw0 := hw
  refine does_value ho hw0 (v := .agg #[.int .i64 v0, .bool v1, .int .i64 v2, .string v3, .slice v4 vn vc, .slice v5 vm vd]) ?_ rfl (Below.refl _ _)
  generalize c.eval = ρ at *
  clear hF hb hW hw hw0 ho
  go_simp

set_option maxRecDepth 10000 in
theorem oE18_5 (p1 p2 bl off tl lc bl' off' tl' lc' j : Nat) (v0 : Int) (v1 : Bool) (v2 : Int) (v3 : ByteArray) (v4 : Option Addr) (vn vc : Nat) (v5 : Option Addr) (vm vd : Nat) (u0 : Int) (u1 : Bool) (u2 : Int) (u3 : ByteArray) (u4 : Option Addr) (un uc : Nat) (u5 : Option Addr) (um ud : Nat) (res : Int) (Q : Exit → Act → World → Prop) (c : Act) (w : World) (hb : BaseE18 p1 p2 bl off tl lc bl' off' tl' lc' j v0 v1 v2 v3 v4 vn vc v5 vm vd u0 u1 u2 u3 u4 un uc u5 um ud res c) (hW : WorldE18 p1 p2 bl off tl lc bl' off' tl' lc' j v0 v1 v2 v3 v4 vn vc v5 vm vd u0 u1 u2 u3 u4 un uc u5 um ud res w) (hF : ∀ q0 ∈ ancE18 5, factsAt (factsE18 p1 p2 bl off tl lc bl' off' tl' lc' j v0 v1 v2 v3 v4 vn vc v5 vm vd u0 u1 u2 u3 u4 un uc u5 um ud res) q0 (val RE18 c q0) w) :
    Does Tryz.prog RE18 Q (factsAt (factsE18 p1 p2 bl off tl lc bl' off' tl' lc' j v0 v1 v2 v3 v4 vn vc v5 vm vd u0 u1 u2 u3 u4 un uc u5 um ud res)) 5 c w := by
  have ho : RE18[5]? = some ({ dst := some 81, op := Op.fieldAddr 26 (Operand.tmp 3) 5, type := 0, pos := "ref.go:211", after := #[], guard := none } : Oper) := by kernel_rfl
  have e3 := hb.t3
  have hw : Region.wanted ({ dst := some 81, op := Op.fieldAddr 26 (Operand.tmp 3) 5, type := 0, pos := "ref.go:211", after := #[], guard := none } : Oper) (yielded RE18 c.tmps) = true := want_none rfl
  have ec : ∀ v, c.eval (.const v) = v := fun _ => rfl
  have ef : ∀ f, c.eval (.func f) = .func (.func f) #[] #[] := fun _ => rfl
  have hw0 := hw
  refine does_value ho hw0 (v := .pointer (some ⟨p2, 5, none⟩)) ?_ rfl (Below.refl _ _)
  generalize c.eval = ρ at *
  clear hF hb hW hw hw0 ho
  go_simp

set_option maxRecDepth 10000 in
theorem oE18_6 (p1 p2 bl off tl lc bl' off' tl' lc' j : Nat) (v0 : Int) (v1 : Bool) (v2 : Int) (v3 : ByteArray) (v4 : Option Addr) (vn vc : Nat) (v5 : Option Addr) (vm vd : Nat) (u0 : Int) (u1 : Bool) (u2 : Int) (u3 : ByteArray) (u4 : Option Addr) (un uc : Nat) (u5 : Option Addr) (um ud : Nat) (res : Int) (Q : Exit → Act → World → Prop) (c : Act) (w : World) (hb : BaseE18 p1 p2 bl off tl lc bl' off' tl' lc' j v0 v1 v2 v3 v4 vn vc v5 vm vd u0 u1 u2 u3 u4 un uc u5 um ud res c) (hW : WorldE18 p1 p2 bl off tl lc bl' off' tl' lc' j v0 v1 v2 v3 v4 vn vc v5 vm vd u0 u1 u2 u3 u4 un uc u5 um ud res w) (hF : ∀ q0 ∈ ancE18 6, factsAt (factsE18 p1 p2 bl off tl lc bl' off' tl' lc' j v0 v1 v2 v3 v4 vn vc v5 vm vd u0 u1 u2 u3 u4 un uc u5 um ud res) q0 (val RE18 c q0) w) :
    Does Tryz.prog RE18 Q (factsAt (factsE18 p1 p2 bl off tl lc bl' off' tl' lc' j v0 v1 v2 v3 v4 vn vc v5 vm vd u0 u1 u2 u3 u4 un uc u5 um ud res)) 6 c w := by
  have ho : RE18[6]? = some ({ dst := some 82, op := Op.load 24 (Operand.tmp 81), type := 24, pos := "ref.go:211", after := #[{ on := 5, ground := Ground.data }], guard := none } : Oper) := by kernel_rfl
  have e81 : c.eval (.tmp 81) = .pointer (some ⟨p2, 5, none⟩) := fact_at (p := eqv (.pointer (some ⟨p2, 5, none⟩))) (by kernel_rfl) rfl (hF 5 (by decide))
  have hw : Region.wanted ({ dst := some 82, op := Op.load 24 (Operand.tmp 81), type := 24, pos := "ref.go:211", after := #[{ on := 5, ground := Ground.data }], guard := none } : Oper) (yielded RE18 c.tmps) = true := want_none rfl
  have hc := hW.q2
  have ec : ∀ v, c.eval (.const v) = v := fun _ => rfl
  have ef : ∀ f, c.eval (.func f) = .func (.func f) #[] #[] := fun _ => rfl
  have hw0 := hw
  refine does_value ho hw0 (v := .slice (some ⟨bl', off', none⟩) tl' lc') ?_ rfl (Below.refl _ _)
  generalize c.eval = ρ at *
  clear hF hb hW hw hw0 ho
  go_simp

set_option maxRecDepth 10000 in
theorem oE18_7 (p1 p2 bl off tl lc bl' off' tl' lc' j : Nat) (v0 : Int) (v1 : Bool) (v2 : Int) (v3 : ByteArray) (v4 : Option Addr) (vn vc : Nat) (v5 : Option Addr) (vm vd : Nat) (u0 : Int) (u1 : Bool) (u2 : Int) (u3 : ByteArray) (u4 : Option Addr) (un uc : Nat) (u5 : Option Addr) (um ud : Nat) (res : Int) (Q : Exit → Act → World → Prop) (c : Act) (w : World) (hb : BaseE18 p1 p2 bl off tl lc bl' off' tl' lc' j v0 v1 v2 v3 v4 vn vc v5 vm vd u0 u1 u2 u3 u4 un uc u5 um ud res c) (hW : WorldE18 p1 p2 bl off tl lc bl' off' tl' lc' j v0 v1 v2 v3 v4 vn vc v5 vm vd u0 u1 u2 u3 u4 un uc u5 um ud res w) (hF : ∀ q0 ∈ ancE18 7, factsAt (factsE18 p1 p2 bl off tl lc bl' off' tl' lc' j v0 v1 v2 v3 v4 vn vc v5 vm vd u0 u1 u2 u3 u4 un uc u5 um ud res) q0 (val RE18 c q0) w) :
    Does Tryz.prog RE18 Q (factsAt (factsE18 p1 p2 bl off tl lc bl' off' tl' lc' j v0 v1 v2 v3 v4 vn vc v5 vm vd u0 u1 u2 u3 u4 un uc u5 um ud res)) 7 c w := by
  have ho : RE18[7]? = some ({ dst := some 83, op := Op.move (Operand.tmp 7), type := 3, pos := "ref.go:211", after := #[], guard := none } : Oper) := by kernel_rfl
  have e7 := hb.t7
  have hw : Region.wanted ({ dst := some 83, op := Op.move (Operand.tmp 7), type := 3, pos := "ref.go:211", after := #[], guard := none } : Oper) (yielded RE18 c.tmps) = true := want_none rfl
  have ec : ∀ v, c.eval (.const v) = v := fun _ => rfl
  have ef : ∀ f, c.eval (.func f) = .func (.func f) #[] #[] := fun _ => rfl
  have hw0 := hw
  refine does_value ho hw0 (v := .int .i64 (j : Int)) ?_ rfl (Below.refl _ _)
  generalize c.eval = ρ at *
  clear hF hb hW hw hw0 ho
  go_simp

set_option maxRecDepth 10000 in
theorem oE18_8 (p1 p2 bl off tl lc bl' off' tl' lc' j : Nat) (v0 : Int) (v1 : Bool) (v2 : Int) (v3 : ByteArray) (v4 : Option Addr) (vn vc : Nat) (v5 : Option Addr) (vm vd : Nat) (u0 : Int) (u1 : Bool) (u2 : Int) (u3 : ByteArray) (u4 : Option Addr) (un uc : Nat) (u5 : Option Addr) (um ud : Nat) (res : Int) (Q : Exit → Act → World → Prop) (c : Act) (w : World) (hb : BaseE18 p1 p2 bl off tl lc bl' off' tl' lc' j v0 v1 v2 v3 v4 vn vc v5 vm vd u0 u1 u2 u3 u4 un uc u5 um ud res c) (hW : WorldE18 p1 p2 bl off tl lc bl' off' tl' lc' j v0 v1 v2 v3 v4 vn vc v5 vm vd u0 u1 u2 u3 u4 un uc u5 um ud res w) (hF : ∀ q0 ∈ ancE18 8, factsAt (factsE18 p1 p2 bl off tl lc bl' off' tl' lc' j v0 v1 v2 v3 v4 vn vc v5 vm vd u0 u1 u2 u3 u4 un uc u5 um ud res) q0 (val RE18 c q0) w) :
    Does Tryz.prog RE18 Q (factsAt (factsE18 p1 p2 bl off tl lc bl' off' tl' lc' j v0 v1 v2 v3 v4 vn vc v5 vm vd u0 u1 u2 u3 u4 un uc u5 um ud res)) 8 c w := by
  have ho : RE18[8]? = some ({ dst := some 84, op := Op.indexAddr 24 (Operand.tmp 82) (Operand.tmp 83), type := 0, pos := "ref.go:211", after := #[{ on := 6, ground := Ground.data }, { on := 7, ground := Ground.data }], guard := none } : Oper) := by kernel_rfl
  have e82 : c.eval (.tmp 82) = .slice (some ⟨bl', off', none⟩) tl' lc' := fact_at (p := eqv (.slice (some ⟨bl', off', none⟩) tl' lc')) (by kernel_rfl) rfl (hF 6 (by decide))
  have e83 : c.eval (.tmp 83) = .int .i64 (j : Int) := fact_at (p := eqv (.int .i64 (j : Int))) (by kernel_rfl) rfl (hF 7 (by decide))
  have hw : Region.wanted ({ dst := some 84, op := Op.indexAddr 24 (Operand.tmp 82) (Operand.tmp 83), type := 0, pos := "ref.go:211", after := #[{ on := 6, ground := Ground.data }, { on := 7, ground := Ground.data }], guard := none } : Oper) (yielded RE18 c.tmps) = true := want_none rfl
  have h1 := hW.l1
  have h2 := hW.l2
  have h3 := hW.m1
  have h4 := hW.m2
  have ec : ∀ v, c.eval (.const v) = v := fun _ => rfl
  have ef : ∀ f, c.eval (.func f) = .func (.func f) #[] #[] := fun _ => rfl
  have hw0 := hw
  refine does_value ho hw0 (v := .pointer (some ⟨bl', off' + j * 6, none⟩)) ?_ rfl (Below.refl _ _)
  generalize c.eval = ρ at *
  clear hF hb hW hw hw0 ho
  go_simp

set_option maxRecDepth 10000 in
theorem oE18_9 (p1 p2 bl off tl lc bl' off' tl' lc' j : Nat) (v0 : Int) (v1 : Bool) (v2 : Int) (v3 : ByteArray) (v4 : Option Addr) (vn vc : Nat) (v5 : Option Addr) (vm vd : Nat) (u0 : Int) (u1 : Bool) (u2 : Int) (u3 : ByteArray) (u4 : Option Addr) (un uc : Nat) (u5 : Option Addr) (um ud : Nat) (res : Int) (Q : Exit → Act → World → Prop) (c : Act) (w : World) (hb : BaseE18 p1 p2 bl off tl lc bl' off' tl' lc' j v0 v1 v2 v3 v4 vn vc v5 vm vd u0 u1 u2 u3 u4 un uc u5 um ud res c) (hW : WorldE18 p1 p2 bl off tl lc bl' off' tl' lc' j v0 v1 v2 v3 v4 vn vc v5 vm vd u0 u1 u2 u3 u4 un uc u5 um ud res w) (hF : ∀ q0 ∈ ancE18 9, factsAt (factsE18 p1 p2 bl off tl lc bl' off' tl' lc' j v0 v1 v2 v3 v4 vn vc v5 vm vd u0 u1 u2 u3 u4 un uc u5 um ud res) q0 (val RE18 c q0) w) :
    Does Tryz.prog RE18 Q (factsAt (factsE18 p1 p2 bl off tl lc bl' off' tl' lc' j v0 v1 v2 v3 v4 vn vc v5 vm vd u0 u1 u2 u3 u4 un uc u5 um ud res)) 9 c w := by
  have ho : RE18[9]? = some ({ dst := some 85, op := Op.load 26 (Operand.tmp 84), type := 26, pos := "ref.go:211", after := #[{ on := 8, ground := Ground.data }], guard := none } : Oper) := by kernel_rfl
  have e84 : c.eval (.tmp 84) = .pointer (some ⟨bl', off' + j * 6, none⟩) := fact_at (p := eqv (.pointer (some ⟨bl', off' + j * 6, none⟩))) (by kernel_rfl) rfl (hF 8 (by decide))
  have hw : Region.wanted ({ dst := some 85, op := Op.load 26 (Operand.tmp 84), type := 26, pos := "ref.go:211", after := #[{ on := 8, ground := Ground.data }], guard := none } : Oper) (yielded RE18 c.tmps) = true := want_none rfl
  have hc0 := hW.uc0
  have hc1 := hW.uc1
  have hc2 := hW.uc2
  have hc3 := hW.uc3
  have hc4 := hW.uc4
  have hc5 := hW.uc5
  have ec : ∀ v, c.eval (.const v) = v := fun _ => rfl
  have ef : ∀ f, c.eval (.func f) = .func (.func f) #[] #[] := fun _ => rfl
  have hw0 := hw
  refine does_value ho hw0 (v := .agg #[.int .i64 u0, .bool u1, .int .i64 u2, .string u3, .slice u4 un uc, .slice u5 um ud]) ?_ rfl (Below.refl _ _)
  generalize c.eval = ρ at *
  clear hF hb hW hw hw0 ho
  go_simp

set_option maxRecDepth 10000 in
theorem oE18_10 (p1 p2 bl off tl lc bl' off' tl' lc' j : Nat) (v0 : Int) (v1 : Bool) (v2 : Int) (v3 : ByteArray) (v4 : Option Addr) (vn vc : Nat) (v5 : Option Addr) (vm vd : Nat) (u0 : Int) (u1 : Bool) (u2 : Int) (u3 : ByteArray) (u4 : Option Addr) (un uc : Nat) (u5 : Option Addr) (um ud : Nat) (res : Int) (Q : Exit → Act → World → Prop) (c : Act) (w : World) (hb : BaseE18 p1 p2 bl off tl lc bl' off' tl' lc' j v0 v1 v2 v3 v4 vn vc v5 vm vd u0 u1 u2 u3 u4 un uc u5 um ud res c) (hW : WorldE18 p1 p2 bl off tl lc bl' off' tl' lc' j v0 v1 v2 v3 v4 vn vc v5 vm vd u0 u1 u2 u3 u4 un uc u5 um ud res w) (hF : ∀ q0 ∈ ancE18 10, factsAt (factsE18 p1 p2 bl off tl lc bl' off' tl' lc' j v0 v1 v2 v3 v4 vn vc v5 vm vd u0 u1 u2 u3 u4 un uc u5 um ud res) q0 (val RE18 c q0) w) :
    Does Tryz.prog RE18 Q (factsAt (factsE18 p1 p2 bl off tl lc bl' off' tl' lc' j v0 v1 v2 v3 v4 vn vc v5 vm vd u0 u1 u2 u3 u4 un uc u5 um ud res)) 10 c w := by
  have ho : RE18[10]? = some ({ dst := some 86, op := Op.call { callee := Callee.value (Operand.func 35), args := #[Operand.tmp 80, Operand.tmp 85], argTypes := #[26, 26] }, type := 44, pos := "ref.go:211", after := #[{ on := 4, ground := Ground.data }, { on := 9, ground := Ground.data }], guard := none } : Oper) := by kernel_rfl
  have e80 : c.eval (.tmp 80) = .agg #[.int .i64 v0, .bool v1, .int .i64 v2, .string v3, .slice v4 vn vc, .slice v5 vm vd] := fact_at (p := eqv (.agg #[.int .i64 v0, .bool v1, .int .i64 v2, .string v3, .slice v4 vn vc, .slice v5 vm vd])) (by kernel_rfl) rfl (hF 4 (by decide))
  have e85 : c.eval (.tmp 85) = .agg #[.int .i64 u0, .bool u1, .int .i64 u2, .string u3, .slice u4 un uc, .slice u5 um ud] := fact_at (p := eqv (.agg #[.int .i64 u0, .bool u1, .int .i64 u2, .string u3, .slice u4 un uc, .slice u5 um ud])) (by kernel_rfl) rfl (hF 9 (by decide))
  have hw : Region.wanted ({ dst := some 86, op := Op.call { callee := Callee.value (Operand.func 35), args := #[Operand.tmp 80, Operand.tmp 85], argTypes := #[26, 26] }, type := 44, pos := "ref.go:211", after := #[{ on := 4, ground := Ground.data }, { on := 9, ground := Ground.data }], guard := none } : Oper) (yielded RE18 c.tmps) = true := want_none rfl
  have ec : ∀ v, c.eval (.const v) = v := fun _ => rfl
  have ef : ∀ f, c.eval (.func f) = .func (.func f) #[] #[] := fun _ => rfl
  have hw0 := hw
  refine does_call ho hw0 (f := 35) (args := #[.agg #[.int .i64 v0, .bool v1, .int .i64 v2, .string v3, .slice v4 vn vc, .slice v5 vm vd], .agg #[.int .i64 u0, .bool u1, .int .i64 u2, .string u3, .slice u4 un uc, .slice u5 um ud]]) ?_ (hW.call.mono fun e w' ⟨h1, h2⟩ => ⟨_, h1, rfl, h2⟩)
  generalize c.eval = ρ at *
  clear hF hb hW hw ho
  go_simp

set_option maxRecDepth 10000 in
theorem oE18_11 (p1 p2 bl off tl lc bl' off' tl' lc' j : Nat) (v0 : Int) (v1 : Bool) (v2 : Int) (v3 : ByteArray) (v4 : Option Addr) (vn vc : Nat) (v5 : Option Addr) (vm vd : Nat) (u0 : Int) (u1 : Bool) (u2 : Int) (u3 : ByteArray) (u4 : Option Addr) (un uc : Nat) (u5 : Option Addr) (um ud : Nat) (res : Int) (Q : Exit → Act → World → Prop) (c : Act) (w : World) (hb : BaseE18 p1 p2 bl off tl lc bl' off' tl' lc' j v0 v1 v2 v3 v4 vn vc v5 vm vd u0 u1 u2 u3 u4 un uc u5 um ud res c) (hW : WorldE18 p1 p2 bl off tl lc bl' off' tl' lc' j v0 v1 v2 v3 v4 vn vc v5 vm vd u0 u1 u2 u3 u4 un uc u5 um ud res w) (hF : ∀ q0 ∈ ancE18 11, factsAt (factsE18 p1 p2 bl off tl lc bl' off' tl' lc' j v0 v1 v2 v3 v4 vn vc v5 vm vd u0 u1 u2 u3 u4 un uc u5 um ud res) q0 (val RE18 c q0) w) :
    Does Tryz.prog RE18 Q (factsAt (factsE18 p1 p2 bl off tl lc bl' off' tl' lc' j v0 v1 v2 v3 v4 vn vc v5 vm vd u0 u1 u2 u3 u4 un uc u5 um ud res)) 11 c w := by
  have ho : RE18[11]? = some ({ dst := some 8, op := Op.assign (Operand.tmp 86), type := 44, pos := "ref.go:211", after := #[{ on := 10, ground := Ground.data }, { on := 10, ground := Ground.chain }, { on := 0, ground := Ground.phase }, { on := 1, ground := Ground.phase }, { on := 2, ground := Ground.phase }, { on := 3, ground := Ground.phase }, { on := 4, ground := Ground.phase }, { on := 5, ground := Ground.phase }, { on := 6, ground := Ground.phase }, { on := 7, ground := Ground.phase }, { on := 8, ground := Ground.phase }, { on := 9, ground := Ground.phase }, { on := 10, ground := Ground.phase }], guard := none } : Oper) := by kernel_rfl
  have e86 : c.eval (.tmp 86) = .int .i64 res := fact_at (p := eqv (.int .i64 res)) (by kernel_rfl) rfl (hF 10 (by decide))
  have hw : Region.wanted ({ dst := some 8, op := Op.assign (Operand.tmp 86), type := 44, pos := "ref.go:211", after := #[{ on := 10, ground := Ground.data }, { on := 10, ground := Ground.chain }, { on := 0, ground := Ground.phase }, { on := 1, ground := Ground.phase }, { on := 2, ground := Ground.phase }, { on := 3, ground := Ground.phase }, { on := 4, ground := Ground.phase }, { on := 5, ground := Ground.phase }, { on := 6, ground := Ground.phase }, { on := 7, ground := Ground.phase }, { on := 8, ground := Ground.phase }, { on := 9, ground := Ground.phase }, { on := 10, ground := Ground.phase }], guard := none } : Oper) (yielded RE18 c.tmps) = true := want_none rfl
  have ec : ∀ v, c.eval (.const v) = v := fun _ => rfl
  have ef : ∀ f, c.eval (.func f) = .func (.func f) #[] #[] := fun _ => rfl
  have hw0 := hw
  refine does_value ho hw0 (v := .int .i64 res) ?_ rfl (Below.refl _ _)
  generalize c.eval = ρ at *
  clear hF hb hW hw hw0 ho
  go_simp

theorem stableE18 (p1 p2 bl off tl lc bl' off' tl' lc' j : Nat) (v0 : Int) (v1 : Bool) (v2 : Int) (v3 : ByteArray) (v4 : Option Addr) (vn vc : Nat) (v5 : Option Addr) (vm vd : Nat) (u0 : Int) (u1 : Bool) (u2 : Int) (u3 : ByteArray) (u4 : Option Addr) (un uc : Nat) (u5 : Option Addr) (um ud : Nat) (res : Int) : ∀ pr ∈ factsE18 p1 p2 bl off tl lc bl' off' tl' lc' j v0 v1 v2 v3 v4 vn vc v5 vm vd u0 u1 u2 u3 u4 un uc u5 um ud res, Stable pr := by
  unfold factsE18
  repeat' (first | exact List.forall_mem_nil _ | refine List.forall_mem_cons.2 ⟨by first | exact eqv_stable _ | exact laid_stable _, ?_⟩)

set_option maxRecDepth 100000 in
theorem allE18 (p1 p2 bl off tl lc bl' off' tl' lc' j : Nat) (v0 : Int) (v1 : Bool) (v2 : Int) (v3 : ByteArray) (v4 : Option Addr) (vn vc : Nat) (v5 : Option Addr) (vm vd : Nat) (u0 : Int) (u1 : Bool) (u2 : Int) (u3 : ByteArray) (u4 : Option Addr) (un uc : Nat) (u5 : Option Addr) (um ud : Nat) (res : Int) (Q : Exit → Act → World → Prop) : ∀ i, i < 12 → (fun i => ∀ c w, BaseE18 p1 p2 bl off tl lc bl' off' tl' lc' j v0 v1 v2 v3 v4 vn vc v5 vm vd u0 u1 u2 u3 u4 un uc u5 um ud res c → WorldE18 p1 p2 bl off tl lc bl' off' tl' lc' j v0 v1 v2 v3 v4 vn vc v5 vm vd u0 u1 u2 u3 u4 un uc u5 um ud res w → (∀ q0 ∈ ancE18 i, factsAt (factsE18 p1 p2 bl off tl lc bl' off' tl' lc' j v0 v1 v2 v3 v4 vn vc v5 vm vd u0 u1 u2 u3 u4 un uc u5 um ud res) q0 (val RE18 c q0) w) → Does Tryz.prog RE18 Q (factsAt (factsE18 p1 p2 bl off tl lc bl' off' tl' lc' j v0 v1 v2 v3 v4 vn vc v5 vm vd u0 u1 u2 u3 u4 un uc u5 um ud res)) i c w) i := by
  refine below_succ ?_ (fun c w => oE18_11 p1 p2 bl off tl lc bl' off' tl' lc' j v0 v1 v2 v3 v4 vn vc v5 vm vd u0 u1 u2 u3 u4 un uc u5 um ud res Q c w)
  refine below_succ ?_ (fun c w => oE18_10 p1 p2 bl off tl lc bl' off' tl' lc' j v0 v1 v2 v3 v4 vn vc v5 vm vd u0 u1 u2 u3 u4 un uc u5 um ud res Q c w)
  refine below_succ ?_ (fun c w => oE18_9 p1 p2 bl off tl lc bl' off' tl' lc' j v0 v1 v2 v3 v4 vn vc v5 vm vd u0 u1 u2 u3 u4 un uc u5 um ud res Q c w)
  refine below_succ ?_ (fun c w => oE18_8 p1 p2 bl off tl lc bl' off' tl' lc' j v0 v1 v2 v3 v4 vn vc v5 vm vd u0 u1 u2 u3 u4 un uc u5 um ud res Q c w)
  refine below_succ ?_ (fun c w => oE18_7 p1 p2 bl off tl lc bl' off' tl' lc' j v0 v1 v2 v3 v4 vn vc v5 vm vd u0 u1 u2 u3 u4 un uc u5 um ud res Q c w)
  refine below_succ ?_ (fun c w => oE18_6 p1 p2 bl off tl lc bl' off' tl' lc' j v0 v1 v2 v3 v4 vn vc v5 vm vd u0 u1 u2 u3 u4 un uc u5 um ud res Q c w)
  refine below_succ ?_ (fun c w => oE18_5 p1 p2 bl off tl lc bl' off' tl' lc' j v0 v1 v2 v3 v4 vn vc v5 vm vd u0 u1 u2 u3 u4 un uc u5 um ud res Q c w)
  refine below_succ ?_ (fun c w => oE18_4 p1 p2 bl off tl lc bl' off' tl' lc' j v0 v1 v2 v3 v4 vn vc v5 vm vd u0 u1 u2 u3 u4 un uc u5 um ud res Q c w)
  refine below_succ ?_ (fun c w => oE18_3 p1 p2 bl off tl lc bl' off' tl' lc' j v0 v1 v2 v3 v4 vn vc v5 vm vd u0 u1 u2 u3 u4 un uc u5 um ud res Q c w)
  refine below_succ ?_ (fun c w => oE18_2 p1 p2 bl off tl lc bl' off' tl' lc' j v0 v1 v2 v3 v4 vn vc v5 vm vd u0 u1 u2 u3 u4 un uc u5 um ud res Q c w)
  refine below_succ ?_ (fun c w => oE18_1 p1 p2 bl off tl lc bl' off' tl' lc' j v0 v1 v2 v3 v4 vn vc v5 vm vd u0 u1 u2 u3 u4 un uc u5 um ud res Q c w)
  refine below_succ ?_ (fun c w => oE18_0 p1 p2 bl off tl lc bl' off' tl' lc' j v0 v1 v2 v3 v4 vn vc v5 vm vd u0 u1 u2 u3 u4 un uc u5 um ud res Q c w)
  exact below_zero

theorem regionE18 (p1 p2 bl off tl lc bl' off' tl' lc' j : Nat) (v0 : Int) (v1 : Bool) (v2 : Int) (v3 : ByteArray) (v4 : Option Addr) (vn vc : Nat) (v5 : Option Addr) (vm vd : Nat) (u0 : Int) (u1 : Bool) (u2 : Int) (u3 : ByteArray) (u4 : Option Addr) (un uc : Nat) (u5 : Option Addr) (um ud : Nat) (res : Int) (Q : Exit → Act → World → Prop) (base : Act) (w0 : World) (hsz : base.tmps.size = 96) (hb : BaseE18 p1 p2 bl off tl lc bl' off' tl' lc' j v0 v1 v2 v3 v4 vn vc v5 vm vd u0 u1 u2 u3 u4 un uc u5 um ud res base)
    (hW : ∀ w, Below w0.heap.size w0 w → WorldE18 p1 p2 bl off tl lc bl' off' tl' lc' j v0 v1 v2 v3 v4 vn vc v5 vm vd u0 u1 u2 u3 u4 un uc u5 um ud res w) (hQ : ∀ c w, Same RE18 base c → Below w0.heap.size w0 w → c.eval (.tmp 8) = .int .i64 res → Q .normal c w) : (Code.region 18 RE18 true).wp Tryz.prog Q base w0 := by
  refine facts_rule (A := ancE18) (F := factsAt (factsE18 p1 p2 bl off tl lc bl' off' tl' lc' j v0 v1 v2 v3 v4 vn vc v5 vm vd u0 u1 u2 u3 u4 un uc u5 um ud res)) (by kernel_rfl) (by rw [hsz]; kernel_rfl) (fun i v w w' => factsAt_stable (stableE18 p1 p2 bl off tl lc bl' off' tl' lc' j v0 v1 v2 v3 v4 vn vc v5 vm vd u0 u1 u2 u3 u4 un uc u5 um ud res) i v w w') ?_ ?_
  · intro i hi c w hS hB hF
    exact allE18 p1 p2 bl off tl lc bl' off' tl' lc' j v0 v1 v2 v3 v4 vn vc v5 vm vd u0 u1 u2 u3 u4 un uc u5 um ud res Q  i (by rwa [show RE18.size = 12 by kernel_rfl] at hi) c w ⟨(same_eval hS (by kernel_rfl)).trans hb.t2, (same_eval hS (by kernel_rfl)).trans hb.t3, (same_eval hS (by kernel_rfl)).trans hb.t7⟩ (hW w hB) hF
  · intro c w hS hB hF
    exact hQ c w hS hB (fact_at (p := eqv (.int .i64 res)) (by kernel_rfl) rfl (hF 11 (by rw [show RE18.size = 12 by kernel_rfl]; omega)))
end Go.Proofs.YtbpmhgcjefpigaaGreatDoor
