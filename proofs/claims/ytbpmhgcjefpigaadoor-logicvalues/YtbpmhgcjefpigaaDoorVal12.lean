/- The law LogicValues, one value held against another: operation by operation, in whatever order. -/
import Derived.Test.YtbpmhgcjefpigaaDoorFacts
import Derived.Test.YtbpmhgcjefpigaaDoorReq
namespace Go.Proofs.YtbpmhgcjefpigaaDoor
open Go.RowKit Go.WideShapes Go.Shelf
set_option linter.unusedVariables false
set_option linter.unusedSimpArgs false

noncomputable def RV12 : Array Oper := regionAt Tryd.f5 12
def ancV12 (i : Nat) : List Nat := ([[], [], [], [1, 2], [3], [0, 4], [5]] : List (List Nat)).getD i []
def factsV12 (p1 bl off tl lc j : Nat) (v0 : Int) (v1 : Bool) (v2 : Int) (v3 : ByteArray) (v4 : Option Addr) (vn vc : Nat) (v5 : Option Addr) (vm vd : Nat) (u0 : Int) (u1 : Bool) (u2 : Int) (u3 : ByteArray) (u4 : Option Addr) (un uc : Nat) (u5 : Option Addr) (um ud : Nat) (res : Int) : List (Value → World → Prop) :=
  [eqv (.agg #[.int .i64 v0, .bool v1, .int .i64 v2, .string v3, .slice v4 vn vc, .slice v5 vm vd]), eqv (.slice (some ⟨bl, off, none⟩) tl lc), eqv (.int .i64 (j : Int)), eqv (.pointer (some ⟨bl, off + j * 6, none⟩)), eqv (.agg #[.int .i64 u0, .bool u1, .int .i64 u2, .string u3, .slice u4 un uc, .slice u5 um ud]), eqv (.int .i64 res), eqv (.int .i64 res)]
structure BaseV12 (p1 bl off tl lc j : Nat) (v0 : Int) (v1 : Bool) (v2 : Int) (v3 : ByteArray) (v4 : Option Addr) (vn vc : Nat) (v5 : Option Addr) (vm vd : Nat) (u0 : Int) (u1 : Bool) (u2 : Int) (u3 : ByteArray) (u4 : Option Addr) (un uc : Nat) (u5 : Option Addr) (um ud : Nat) (res : Int) (c : Act) : Prop where
  t2 : c.eval (.tmp 2) = .pointer (some ⟨p1, 0, none⟩)
  t1 : c.eval (.tmp 1) = .slice (some ⟨bl, off, none⟩) tl lc
  t7 : c.eval (.tmp 7) = .int .i64 (j : Int)
structure WorldV12 (p1 bl off tl lc j : Nat) (v0 : Int) (v1 : Bool) (v2 : Int) (v3 : ByteArray) (v4 : Option Addr) (vn vc : Nat) (v5 : Option Addr) (vm vd : Nat) (u0 : Int) (u1 : Bool) (u2 : Int) (u3 : ByteArray) (u4 : Option Addr) (un uc : Nat) (u5 : Option Addr) (um ud : Nat) (res : Int) (w : World) : Prop where
  vc0 : w.cell? ⟨p1, 0, none⟩ = some (.int .i64 v0)
  vc1 : w.cell? ⟨p1, 1, none⟩ = some (.bool v1)
  vc2 : w.cell? ⟨p1, 2, none⟩ = some (.int .i64 v2)
  vc3 : w.cell? ⟨p1, 3, none⟩ = some (.string v3)
  vc4 : w.cell? ⟨p1, 4, none⟩ = some (.slice v4 vn vc)
  vc5 : w.cell? ⟨p1, 5, none⟩ = some (.slice v5 vm vd)
  uc0 : w.cell? ⟨bl, off + j * 6, none⟩ = some (.int .i64 u0)
  uc1 : w.cell? ⟨bl, off + j * 6 + 1, none⟩ = some (.bool u1)
  uc2 : w.cell? ⟨bl, off + j * 6 + 2, none⟩ = some (.int .i64 u2)
  uc3 : w.cell? ⟨bl, off + j * 6 + 3, none⟩ = some (.string u3)
  uc4 : w.cell? ⟨bl, off + j * 6 + 4, none⟩ = some (.slice u4 un uc)
  uc5 : w.cell? ⟨bl, off + j * 6 + 5, none⟩ = some (.slice u5 um ud)
  l1 : j < tl
  m1 : tl ≤ 9223372036854775807
  call : Calls Tryd.prog 27 #[.agg #[.int .i64 v0, .bool v1, .int .i64 v2, .string v3, .slice v4 vn vc, .slice v5 vm vd], .agg #[.int .i64 u0, .bool u1, .int .i64 u2, .string u3, .slice u4 un uc, .slice u5 um ud]] w fun e w' => e = .returned (.int .i64 res) ∧ Below w.heap.size w w'

set_option maxRecDepth 10000 in
theorem oV12_0 (p1 bl off tl lc j : Nat) (v0 : Int) (v1 : Bool) (v2 : Int) (v3 : ByteArray) (v4 : Option Addr) (vn vc : Nat) (v5 : Option Addr) (vm vd : Nat) (u0 : Int) (u1 : Bool) (u2 : Int) (u3 : ByteArray) (u4 : Option Addr) (un uc : Nat) (u5 : Option Addr) (um ud : Nat) (res : Int) (Q : Exit → Act → World → Prop) (c : Act) (w : World) (hb : BaseV12 p1 bl off tl lc j v0 v1 v2 v3 v4 vn vc v5 vm vd u0 u1 u2 u3 u4 un uc u5 um ud res c) (hW : WorldV12 p1 bl off tl lc j v0 v1 v2 v3 v4 vn vc v5 vm vd u0 u1 u2 u3 u4 un uc u5 um ud res w) (hF : ∀ q0 ∈ ancV12 0, factsAt (factsV12 p1 bl off tl lc j v0 v1 v2 v3 v4 vn vc v5 vm vd u0 u1 u2 u3 u4 un uc u5 um ud res) q0 (val RV12 c q0) w) :
    Does Tryd.prog RV12 Q (factsAt (factsV12 p1 bl off tl lc j v0 v1 v2 v3 v4 vn vc v5 vm vd u0 u1 u2 u3 u4 un uc u5 um ud res)) 0 c w := by
  have ho : RV12[0]? = some ({ dst := some 47, op := Op.load 30 (Operand.tmp 2), type := 30, pos := "law.go:66", after := #[], guard := none } : Oper) := by kernel_rfl
  have e2 := hb.t2
  have hw : Region.wanted ({ dst := some 47, op := Op.load 30 (Operand.tmp 2), type := 30, pos := "law.go:66", after := #[], guard := none } : Oper) (yielded RV12 c.tmps) = true := want_none rfl
  have hc0 := hW.vc0
  have hc1 := hW.vc1
  have hc2 := hW.vc2
  have hc3 := hW.vc3
  have hc4 := hW.vc4
  have hc5 := hW.vc5
  have ec : ∀ v, c.eval (.const v) = v := fun _ => rfl
  have ef : ∀ f, c.eval (.func f) = .func (.func f) #[] #[] := fun _ => rfl
  have hw0 := hw
  refine does_value ho hw0 (v := .agg #[.int .i64 v0, .bool v1, .int .i64 v2, .string v3, .slice v4 vn vc, .slice v5 vm vd]) ?_ rfl (Below.refl _ _)
  generalize c.eval = ρ at *
  clear hF hb hW hw hw0 ho
  go_simp

set_option maxRecDepth 10000 in
theorem oV12_1 (p1 bl off tl lc j : Nat) (v0 : Int) (v1 : Bool) (v2 : Int) (v3 : ByteArray) (v4 : Option Addr) (vn vc : Nat) (v5 : Option Addr) (vm vd : Nat) (u0 : Int) (u1 : Bool) (u2 : Int) (u3 : ByteArray) (u4 : Option Addr) (un uc : Nat) (u5 : Option Addr) (um ud : Nat) (res : Int) (Q : Exit → Act → World → Prop) (c : Act) (w : World) (hb : BaseV12 p1 bl off tl lc j v0 v1 v2 v3 v4 vn vc v5 vm vd u0 u1 u2 u3 u4 un uc u5 um ud res c) (hW : WorldV12 p1 bl off tl lc j v0 v1 v2 v3 v4 vn vc v5 vm vd u0 u1 u2 u3 u4 un uc u5 um ud res w) (hF : ∀ q0 ∈ ancV12 1, factsAt (factsV12 p1 bl off tl lc j v0 v1 v2 v3 v4 vn vc v5 vm vd u0 u1 u2 u3 u4 un uc u5 um ud res) q0 (val RV12 c q0) w) :
    Does Tryd.prog RV12 Q (factsAt (factsV12 p1 bl off tl lc j v0 v1 v2 v3 v4 vn vc v5 vm vd u0 u1 u2 u3 u4 un uc u5 um ud res)) 1 c w := by
  have ho : RV12[1]? = some ({ dst := some 48, op := Op.move (Operand.tmp 1), type := 28, pos := "law.go:66", after := #[], guard := none } : Oper) := by kernel_rfl
  have e1 := hb.t1
  have hw : Region.wanted ({ dst := some 48, op := Op.move (Operand.tmp 1), type := 28, pos := "law.go:66", after := #[], guard := none } : Oper) (yielded RV12 c.tmps) = true := want_none rfl
  have ec : ∀ v, c.eval (.const v) = v := fun _ => rfl
  have ef : ∀ f, c.eval (.func f) = .func (.func f) #[] #[] := fun _ => rfl
  have hw0 := hw
  refine does_value ho hw0 (v := .slice (some ⟨bl, off, none⟩) tl lc) ?_ rfl (Below.refl _ _)
  generalize c.eval = ρ at *
  clear hF hb hW hw hw0 ho
  go_simp

set_option maxRecDepth 10000 in
theorem oV12_2 (p1 bl off tl lc j : Nat) (v0 : Int) (v1 : Bool) (v2 : Int) (v3 : ByteArray) (v4 : Option Addr) (vn vc : Nat) (v5 : Option Addr) (vm vd : Nat) (u0 : Int) (u1 : Bool) (u2 : Int) (u3 : ByteArray) (u4 : Option Addr) (un uc : Nat) (u5 : Option Addr) (um ud : Nat) (res : Int) (Q : Exit → Act → World → Prop) (c : Act) (w : World) (hb : BaseV12 p1 bl off tl lc j v0 v1 v2 v3 v4 vn vc v5 vm vd u0 u1 u2 u3 u4 un uc u5 um ud res c) (hW : WorldV12 p1 bl off tl lc j v0 v1 v2 v3 v4 vn vc v5 vm vd u0 u1 u2 u3 u4 un uc u5 um ud res w) (hF : ∀ q0 ∈ ancV12 2, factsAt (factsV12 p1 bl off tl lc j v0 v1 v2 v3 v4 vn vc v5 vm vd u0 u1 u2 u3 u4 un uc u5 um ud res) q0 (val RV12 c q0) w) :
    Does Tryd.prog RV12 Q (factsAt (factsV12 p1 bl off tl lc j v0 v1 v2 v3 v4 vn vc v5 vm vd u0 u1 u2 u3 u4 un uc u5 um ud res)) 2 c w := by
  have ho : RV12[2]? = some ({ dst := some 49, op := Op.move (Operand.tmp 7), type := 3, pos := "law.go:66", after := #[], guard := none } : Oper) := by kernel_rfl
  have e7 := hb.t7
  have hw : Region.wanted ({ dst := some 49, op := Op.move (Operand.tmp 7), type := 3, pos := "law.go:66", after := #[], guard := none } : Oper) (yielded RV12 c.tmps) = true := want_none rfl
  have ec : ∀ v, c.eval (.const v) = v := fun _ => rfl
  have ef : ∀ f, c.eval (.func f) = .func (.func f) #[] #[] := fun _ => rfl
  have hw0 := hw
  refine does_value ho hw0 (v := .int .i64 (j : Int)) ?_ rfl (Below.refl _ _)
  generalize c.eval = ρ at *
  clear hF hb hW hw hw0 ho
  go_simp

set_option maxRecDepth 10000 in
theorem oV12_3 (p1 bl off tl lc j : Nat) (v0 : Int) (v1 : Bool) (v2 : Int) (v3 : ByteArray) (v4 : Option Addr) (vn vc : Nat) (v5 : Option Addr) (vm vd : Nat) (u0 : Int) (u1 : Bool) (u2 : Int) (u3 : ByteArray) (u4 : Option Addr) (un uc : Nat) (u5 : Option Addr) (um ud : Nat) (res : Int) (Q : Exit → Act → World → Prop) (c : Act) (w : World) (hb : BaseV12 p1 bl off tl lc j v0 v1 v2 v3 v4 vn vc v5 vm vd u0 u1 u2 u3 u4 un uc u5 um ud res c) (hW : WorldV12 p1 bl off tl lc j v0 v1 v2 v3 v4 vn vc v5 vm vd u0 u1 u2 u3 u4 un uc u5 um ud res w) (hF : ∀ q0 ∈ ancV12 3, factsAt (factsV12 p1 bl off tl lc j v0 v1 v2 v3 v4 vn vc v5 vm vd u0 u1 u2 u3 u4 un uc u5 um ud res) q0 (val RV12 c q0) w) :
    Does Tryd.prog RV12 Q (factsAt (factsV12 p1 bl off tl lc j v0 v1 v2 v3 v4 vn vc v5 vm vd u0 u1 u2 u3 u4 un uc u5 um ud res)) 3 c w := by
  have ho : RV12[3]? = some ({ dst := some 50, op := Op.indexAddr 28 (Operand.tmp 48) (Operand.tmp 49), type := 0, pos := "law.go:66", after := #[{ on := 1, ground := Ground.data }, { on := 2, ground := Ground.data }], guard := none } : Oper) := by kernel_rfl
  have e48 : c.eval (.tmp 48) = .slice (some ⟨bl, off, none⟩) tl lc := fact_at (p := eqv (.slice (some ⟨bl, off, none⟩) tl lc)) (by kernel_rfl) rfl (hF 1 (by decide))
  have e49 : c.eval (.tmp 49) = .int .i64 (j : Int) := fact_at (p := eqv (.int .i64 (j : Int))) (by kernel_rfl) rfl (hF 2 (by decide))
  have hw : Region.wanted ({ dst := some 50, op := Op.indexAddr 28 (Operand.tmp 48) (Operand.tmp 49), type := 0, pos := "law.go:66", after := #[{ on := 1, ground := Ground.data }, { on := 2, ground := Ground.data }], guard := none } : Oper) (yielded RV12 c.tmps) = true := want_none rfl
  have h1 := hW.l1
  have h3 := hW.m1
  have ec : ∀ v, c.eval (.const v) = v := fun _ => rfl
  have ef : ∀ f, c.eval (.func f) = .func (.func f) #[] #[] := fun _ => rfl
  have hw0 := hw
  refine does_value ho hw0 (v := .pointer (some ⟨bl, off + j * 6, none⟩)) ?_ rfl (Below.refl _ _)
  generalize c.eval = ρ at *
  clear hF hb hW hw hw0 ho
  go_simp

set_option maxRecDepth 10000 in
theorem oV12_4 (p1 bl off tl lc j : Nat) (v0 : Int) (v1 : Bool) (v2 : Int) (v3 : ByteArray) (v4 : Option Addr) (vn vc : Nat) (v5 : Option Addr) (vm vd : Nat) (u0 : Int) (u1 : Bool) (u2 : Int) (u3 : ByteArray) (u4 : Option Addr) (un uc : Nat) (u5 : Option Addr) (um ud : Nat) (res : Int) (Q : Exit → Act → World → Prop) (c : Act) (w : World) (hb : BaseV12 p1 bl off tl lc j v0 v1 v2 v3 v4 vn vc v5 vm vd u0 u1 u2 u3 u4 un uc u5 um ud res c) (hW : WorldV12 p1 bl off tl lc j v0 v1 v2 v3 v4 vn vc v5 vm vd u0 u1 u2 u3 u4 un uc u5 um ud res w) (hF : ∀ q0 ∈ ancV12 4, factsAt (factsV12 p1 bl off tl lc j v0 v1 v2 v3 v4 vn vc v5 vm vd u0 u1 u2 u3 u4 un uc u5 um ud res) q0 (val RV12 c q0) w) :
    Does Tryd.prog RV12 Q (factsAt (factsV12 p1 bl off tl lc j v0 v1 v2 v3 v4 vn vc v5 vm vd u0 u1 u2 u3 u4 un uc u5 um ud res)) 4 c w := by
  have ho : RV12[4]? = some ({ dst := some 51, op := Op.load 30 (Operand.tmp 50), type := 30, pos := "law.go:66", after := #[{ on := 3, ground := Ground.data }], guard := none } : Oper) := by kernel_rfl
  have e50 : c.eval (.tmp 50) = .pointer (some ⟨bl, off + j * 6, none⟩) := fact_at (p := eqv (.pointer (some ⟨bl, off + j * 6, none⟩))) (by kernel_rfl) rfl (hF 3 (by decide))
  have hw : Region.wanted ({ dst := some 51, op := Op.load 30 (Operand.tmp 50), type := 30, pos := "law.go:66", after := #[{ on := 3, ground := Ground.data }], guard := none } : Oper) (yielded RV12 c.tmps) = true := want_none rfl
  have hc0 := hW.uc0
  have hc1 := hW.uc1
  have hc2 := hW.uc2
  have hc3 := hW.uc3
  have hc4 := hW.uc4
  have hc5 := hW.uc5
  have ec : ∀ v, c.eval (.const v) = v := fun _ => rfl
  have ef : ∀ f, c.eval (.func f) = .func (.func f) #[] #[] := fun _ => rfl
  have hw0 := hw
  refine does_value ho hw0 (v := .agg #[.int .i64 u0, .bool u1, .int .i64 u2, .string u3, .slice u4 un uc, .slice u5 um ud]) ?_ rfl (Below.refl _ _)
  generalize c.eval = ρ at *
  clear hF hb hW hw hw0 ho
  go_simp

set_option maxRecDepth 10000 in
theorem oV12_5 (p1 bl off tl lc j : Nat) (v0 : Int) (v1 : Bool) (v2 : Int) (v3 : ByteArray) (v4 : Option Addr) (vn vc : Nat) (v5 : Option Addr) (vm vd : Nat) (u0 : Int) (u1 : Bool) (u2 : Int) (u3 : ByteArray) (u4 : Option Addr) (un uc : Nat) (u5 : Option Addr) (um ud : Nat) (res : Int) (Q : Exit → Act → World → Prop) (c : Act) (w : World) (hb : BaseV12 p1 bl off tl lc j v0 v1 v2 v3 v4 vn vc v5 vm vd u0 u1 u2 u3 u4 un uc u5 um ud res c) (hW : WorldV12 p1 bl off tl lc j v0 v1 v2 v3 v4 vn vc v5 vm vd u0 u1 u2 u3 u4 un uc u5 um ud res w) (hF : ∀ q0 ∈ ancV12 5, factsAt (factsV12 p1 bl off tl lc j v0 v1 v2 v3 v4 vn vc v5 vm vd u0 u1 u2 u3 u4 un uc u5 um ud res) q0 (val RV12 c q0) w) :
    Does Tryd.prog RV12 Q (factsAt (factsV12 p1 bl off tl lc j v0 v1 v2 v3 v4 vn vc v5 vm vd u0 u1 u2 u3 u4 un uc u5 um ud res)) 5 c w := by
  have ho : RV12[5]? = some ({ dst := some 52, op := Op.call { callee := Callee.value (Operand.func 27), args := #[Operand.tmp 47, Operand.tmp 51], argTypes := #[30, 30] }, type := 23, pos := "law.go:66", after := #[{ on := 0, ground := Ground.data }, { on := 4, ground := Ground.data }], guard := none } : Oper) := by kernel_rfl
  have e47 : c.eval (.tmp 47) = .agg #[.int .i64 v0, .bool v1, .int .i64 v2, .string v3, .slice v4 vn vc, .slice v5 vm vd] := fact_at (p := eqv (.agg #[.int .i64 v0, .bool v1, .int .i64 v2, .string v3, .slice v4 vn vc, .slice v5 vm vd])) (by kernel_rfl) rfl (hF 0 (by decide))
  have e51 : c.eval (.tmp 51) = .agg #[.int .i64 u0, .bool u1, .int .i64 u2, .string u3, .slice u4 un uc, .slice u5 um ud] := fact_at (p := eqv (.agg #[.int .i64 u0, .bool u1, .int .i64 u2, .string u3, .slice u4 un uc, .slice u5 um ud])) (by kernel_rfl) rfl (hF 4 (by decide))
  have hw : Region.wanted ({ dst := some 52, op := Op.call { callee := Callee.value (Operand.func 27), args := #[Operand.tmp 47, Operand.tmp 51], argTypes := #[30, 30] }, type := 23, pos := "law.go:66", after := #[{ on := 0, ground := Ground.data }, { on := 4, ground := Ground.data }], guard := none } : Oper) (yielded RV12 c.tmps) = true := want_none rfl
  have ec : ∀ v, c.eval (.const v) = v := fun _ => rfl
  have ef : ∀ f, c.eval (.func f) = .func (.func f) #[] #[] := fun _ => rfl
  have hw0 := hw
  refine does_call ho hw0 (f := 27) (args := #[.agg #[.int .i64 v0, .bool v1, .int .i64 v2, .string v3, .slice v4 vn vc, .slice v5 vm vd], .agg #[.int .i64 u0, .bool u1, .int .i64 u2, .string u3, .slice u4 un uc, .slice u5 um ud]]) ?_ (hW.call.mono fun e w' ⟨h1, h2⟩ => ⟨_, h1, rfl, h2⟩)
  generalize c.eval = ρ at *
  clear hF hb hW hw ho
  go_simp

set_option maxRecDepth 10000 in
theorem oV12_6 (p1 bl off tl lc j : Nat) (v0 : Int) (v1 : Bool) (v2 : Int) (v3 : ByteArray) (v4 : Option Addr) (vn vc : Nat) (v5 : Option Addr) (vm vd : Nat) (u0 : Int) (u1 : Bool) (u2 : Int) (u3 : ByteArray) (u4 : Option Addr) (un uc : Nat) (u5 : Option Addr) (um ud : Nat) (res : Int) (Q : Exit → Act → World → Prop) (c : Act) (w : World) (hb : BaseV12 p1 bl off tl lc j v0 v1 v2 v3 v4 vn vc v5 vm vd u0 u1 u2 u3 u4 un uc u5 um ud res c) (hW : WorldV12 p1 bl off tl lc j v0 v1 v2 v3 v4 vn vc v5 vm vd u0 u1 u2 u3 u4 un uc u5 um ud res w) (hF : ∀ q0 ∈ ancV12 6, factsAt (factsV12 p1 bl off tl lc j v0 v1 v2 v3 v4 vn vc v5 vm vd u0 u1 u2 u3 u4 un uc u5 um ud res) q0 (val RV12 c q0) w) :
    Does Tryd.prog RV12 Q (factsAt (factsV12 p1 bl off tl lc j v0 v1 v2 v3 v4 vn vc v5 vm vd u0 u1 u2 u3 u4 un uc u5 um ud res)) 6 c w := by
  have ho : RV12[6]? = some ({ dst := some 8, op := Op.assign (Operand.tmp 52), type := 23, pos := "law.go:66", after := #[{ on := 5, ground := Ground.data }, { on := 5, ground := Ground.chain }, { on := 0, ground := Ground.phase }, { on := 1, ground := Ground.phase }, { on := 2, ground := Ground.phase }, { on := 3, ground := Ground.phase }, { on := 4, ground := Ground.phase }, { on := 5, ground := Ground.phase }], guard := none } : Oper) := by kernel_rfl
  have e52 : c.eval (.tmp 52) = .int .i64 res := fact_at (p := eqv (.int .i64 res)) (by kernel_rfl) rfl (hF 5 (by decide))
  have hw : Region.wanted ({ dst := some 8, op := Op.assign (Operand.tmp 52), type := 23, pos := "law.go:66", after := #[{ on := 5, ground := Ground.data }, { on := 5, ground := Ground.chain }, { on := 0, ground := Ground.phase }, { on := 1, ground := Ground.phase }, { on := 2, ground := Ground.phase }, { on := 3, ground := Ground.phase }, { on := 4, ground := Ground.phase }, { on := 5, ground := Ground.phase }], guard := none } : Oper) (yielded RV12 c.tmps) = true := want_none rfl
  have ec : ∀ v, c.eval (.const v) = v := fun _ => rfl
  have ef : ∀ f, c.eval (.func f) = .func (.func f) #[] #[] := fun _ => rfl
  have hw0 := hw
  refine does_value ho hw0 (v := .int .i64 res) ?_ rfl (Below.refl _ _)
  generalize c.eval = ρ at *
  clear hF hb hW hw hw0 ho
  go_simp

theorem stableV12 (p1 bl off tl lc j : Nat) (v0 : Int) (v1 : Bool) (v2 : Int) (v3 : ByteArray) (v4 : Option Addr) (vn vc : Nat) (v5 : Option Addr) (vm vd : Nat) (u0 : Int) (u1 : Bool) (u2 : Int) (u3 : ByteArray) (u4 : Option Addr) (un uc : Nat) (u5 : Option Addr) (um ud : Nat) (res : Int) : ∀ pr ∈ factsV12 p1 bl off tl lc j v0 v1 v2 v3 v4 vn vc v5 vm vd u0 u1 u2 u3 u4 un uc u5 um ud res, Stable pr := by
  unfold factsV12
  repeat' (first | exact List.forall_mem_nil _ | refine List.forall_mem_cons.2 ⟨by first | exact eqv_stable _ | exact laid_stable _, ?_⟩)

set_option maxRecDepth 100000 in
theorem allV12 (p1 bl off tl lc j : Nat) (v0 : Int) (v1 : Bool) (v2 : Int) (v3 : ByteArray) (v4 : Option Addr) (vn vc : Nat) (v5 : Option Addr) (vm vd : Nat) (u0 : Int) (u1 : Bool) (u2 : Int) (u3 : ByteArray) (u4 : Option Addr) (un uc : Nat) (u5 : Option Addr) (um ud : Nat) (res : Int) (Q : Exit → Act → World → Prop) : ∀ i, i < 7 → (fun i => ∀ c w, BaseV12 p1 bl off tl lc j v0 v1 v2 v3 v4 vn vc v5 vm vd u0 u1 u2 u3 u4 un uc u5 um ud res c → WorldV12 p1 bl off tl lc j v0 v1 v2 v3 v4 vn vc v5 vm vd u0 u1 u2 u3 u4 un uc u5 um ud res w → (∀ q0 ∈ ancV12 i, factsAt (factsV12 p1 bl off tl lc j v0 v1 v2 v3 v4 vn vc v5 vm vd u0 u1 u2 u3 u4 un uc u5 um ud res) q0 (val RV12 c q0) w) → Does Tryd.prog RV12 Q (factsAt (factsV12 p1 bl off tl lc j v0 v1 v2 v3 v4 vn vc v5 vm vd u0 u1 u2 u3 u4 un uc u5 um ud res)) i c w) i := by
  refine below_succ ?_ (fun c w => oV12_6 p1 bl off tl lc j v0 v1 v2 v3 v4 vn vc v5 vm vd u0 u1 u2 u3 u4 un uc u5 um ud res Q c w)
  refine below_succ ?_ (fun c w => oV12_5 p1 bl off tl lc j v0 v1 v2 v3 v4 vn vc v5 vm vd u0 u1 u2 u3 u4 un uc u5 um ud res Q c w)
  refine below_succ ?_ (fun c w => oV12_4 p1 bl off tl lc j v0 v1 v2 v3 v4 vn vc v5 vm vd u0 u1 u2 u3 u4 un uc u5 um ud res Q c w)
  refine below_succ ?_ (fun c w => oV12_3 p1 bl off tl lc j v0 v1 v2 v3 v4 vn vc v5 vm vd u0 u1 u2 u3 u4 un uc u5 um ud res Q c w)
  refine below_succ ?_ (fun c w => oV12_2 p1 bl off tl lc j v0 v1 v2 v3 v4 vn vc v5 vm vd u0 u1 u2 u3 u4 un uc u5 um ud res Q c w)
  refine below_succ ?_ (fun c w => oV12_1 p1 bl off tl lc j v0 v1 v2 v3 v4 vn vc v5 vm vd u0 u1 u2 u3 u4 un uc u5 um ud res Q c w)
  refine below_succ ?_ (fun c w => oV12_0 p1 bl off tl lc j v0 v1 v2 v3 v4 vn vc v5 vm vd u0 u1 u2 u3 u4 un uc u5 um ud res Q c w)
  exact below_zero

theorem regionV12 (p1 bl off tl lc j : Nat) (v0 : Int) (v1 : Bool) (v2 : Int) (v3 : ByteArray) (v4 : Option Addr) (vn vc : Nat) (v5 : Option Addr) (vm vd : Nat) (u0 : Int) (u1 : Bool) (u2 : Int) (u3 : ByteArray) (u4 : Option Addr) (un uc : Nat) (u5 : Option Addr) (um ud : Nat) (res : Int) (Q : Exit → Act → World → Prop) (base : Act) (w0 : World) (hsz : base.tmps.size = 87) (hb : BaseV12 p1 bl off tl lc j v0 v1 v2 v3 v4 vn vc v5 vm vd u0 u1 u2 u3 u4 un uc u5 um ud res base)
    (hW : ∀ w, Below w0.heap.size w0 w → WorldV12 p1 bl off tl lc j v0 v1 v2 v3 v4 vn vc v5 vm vd u0 u1 u2 u3 u4 un uc u5 um ud res w) (hQ : ∀ c w, Same RV12 base c → Below w0.heap.size w0 w → c.eval (.tmp 8) = .int .i64 res → Q .normal c w) : (Code.region 12 RV12 true).wp Tryd.prog Q base w0 := by
  refine facts_rule (A := ancV12) (F := factsAt (factsV12 p1 bl off tl lc j v0 v1 v2 v3 v4 vn vc v5 vm vd u0 u1 u2 u3 u4 un uc u5 um ud res)) (by kernel_rfl) (by rw [hsz]; kernel_rfl) (fun i v w w' => factsAt_stable (stableV12 p1 bl off tl lc j v0 v1 v2 v3 v4 vn vc v5 vm vd u0 u1 u2 u3 u4 un uc u5 um ud res) i v w w') ?_ ?_
  · intro i hi c w hS hB hF
    exact allV12 p1 bl off tl lc j v0 v1 v2 v3 v4 vn vc v5 vm vd u0 u1 u2 u3 u4 un uc u5 um ud res Q  i (by rwa [show RV12.size = 7 by kernel_rfl] at hi) c w ⟨(same_eval hS (by kernel_rfl)).trans hb.t2, (same_eval hS (by kernel_rfl)).trans hb.t1, (same_eval hS (by kernel_rfl)).trans hb.t7⟩ (hW w hB) hF
  · intro c w hS hB hF
    exact hQ c w hS hB (fact_at (p := eqv (.int .i64 res)) (by kernel_rfl) rfl (hF 6 (by rw [show RV12.size = 7 by kernel_rfl]; omega)))
end Go.Proofs.YtbpmhgcjefpigaaDoor
