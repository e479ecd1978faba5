/- A statement that reads, calls and lays rows of its own: operation by operation, in whatever order. -/
import Derived.Test.YtbpmhgcjefpigaaGreatDoorChecks9t
namespace Go.Proofs.YtbpmhgcjefpigaaGreatDoor
open Go.RowKit Go.WideShapes Go.Shelf
set_option linter.unusedVariables false
set_option linter.unusedSimpArgs false

noncomputable def RH9f : Array Oper := regionAt Tryz.f3 9
def ancH9f (i : Nat) : List Nat := ([[], [0], [1], [], [3], [2, 4], [5], [6], [6], [6, 7, 8], [6, 9], [10], [11], [11], [11, 12, 13], [11, 14], [15], [16], [16, 17], [16], [16, 19], [16, 20], [16, 21], [22], [22, 23], [16, 22, 24], [16, 18, 25], [16, 26], [27], [28], [28], [28, 29, 30], [28, 31], [28, 32]] : List (List Nat)).getD i []
def factsH9f (pa qa qc : Nat) (cn nv dv : Int) (st : Bool) (ak : Int) (ab : Bool) (an : Int) (ax : ByteArray) (aa : Option Addr) (am ac : Nat) (al : Option Addr) (ao ad : Nat) (m0 m1 m2 m3 m4 m5 n0 n1 n2 n3 n4 n5 : Value) : List (Value → World → Prop) :=
  [eqv (.agg #[m0, m1, m2, m3, m4, m5]), eqv (.int .i64 cn), eqv (.int .i64 cn), eqv (.agg #[.int .i64 ak, .bool ab, .int .i64 an, .string ax, .slice aa am ac, .slice al ao ad]), eqv (.int .i64 cn), eqv (.bool false), eqv (.bool false), eqv (.int .i64 nv), eqv (.int .i64 nv), eqv (.bool false), eqv (.bool false), eqv (.bool false), eqv (.int .i64 dv), eqv (.int .i64 dv), eqv (.bool false), eqv (.bool false), eqv (.bool false), eqv (.agg #[m0, m1, m2, m3, m4, m5]), eqv (.bool false), eqv (.agg #[.int .i64 ak, .bool ab, .int .i64 an, .string ax, .slice aa am ac, .slice al ao ad]), rowOne #[.int .i64 ak, .bool ab, .int .i64 an, .string ax, .slice aa am ac, .slice al ao ad], eqv (.bool false), eqv (.bool false), eqv undef, eqv undef, eqv (.bool false), eqv (.bool false), eqv (.bool false), eqv (.bool false), eqv (.agg #[n0, n1, n2, n3, n4, n5]), eqv (.agg #[.int .i64 ak, .bool ab, .int .i64 an, .string ax, .slice aa am ac, .slice al ao ad]), eqv (.bool true), eqv (.bool false), eqv (.bool false)]
structure BaseH9f (pa qa qc : Nat) (cn nv dv : Int) (st : Bool) (ak : Int) (ab : Bool) (an : Int) (ax : ByteArray) (aa : Option Addr) (am ac : Nat) (al : Option Addr) (ao ad : Nat) (m0 m1 m2 m3 m4 m5 n0 n1 n2 n3 n4 n5 : Value) (c : Act) : Prop where
  t1 : c.eval (.tmp 1) = .pointer (some ⟨pa, 0, none⟩)
  t3 : c.eval (.tmp 3) = .pointer (some ⟨qa, 0, none⟩)
  t6 : c.eval (.tmp 6) = .pointer (some ⟨qc, 0, none⟩)
  t4 : c.eval (.tmp 4) = .int .i64 nv
  t5 : c.eval (.tmp 5) = .int .i64 dv
  t7 : c.eval (.tmp 7) = .int .i64 nv
  t8 : c.eval (.tmp 8) = .int .i64 dv
structure WorldH9f (pa qa qc : Nat) (cn nv dv : Int) (st : Bool) (ak : Int) (ab : Bool) (an : Int) (ax : ByteArray) (aa : Option Addr) (am ac : Nat) (al : Option Addr) (ao ad : Nat) (m0 m1 m2 m3 m4 m5 n0 n1 n2 n3 n4 n5 : Value) (w : World) : Prop where
  xa0 : w.cell? ⟨pa, 0, none⟩ = some (.int .i64 ak)
  xa1 : w.cell? ⟨pa, 1, none⟩ = some (.bool ab)
  xa2 : w.cell? ⟨pa, 2, none⟩ = some (.int .i64 an)
  xa3 : w.cell? ⟨pa, 3, none⟩ = some (.string ax)
  xa4 : w.cell? ⟨pa, 4, none⟩ = some (.slice aa am ac)
  xa5 : w.cell? ⟨pa, 5, none⟩ = some (.slice al ao ad)
  xm0 : w.cell? ⟨qa, 0, none⟩ = some (m0)
  xm1 : w.cell? ⟨qa, 1, none⟩ = some (m1)
  xm2 : w.cell? ⟨qa, 2, none⟩ = some (m2)
  xm3 : w.cell? ⟨qa, 3, none⟩ = some (m3)
  xm4 : w.cell? ⟨qa, 4, none⟩ = some (m4)
  xm5 : w.cell? ⟨qa, 5, none⟩ = some (m5)
  xn0 : w.cell? ⟨qc, 0, none⟩ = some (n0)
  xn1 : w.cell? ⟨qc, 1, none⟩ = some (n1)
  xn2 : w.cell? ⟨qc, 2, none⟩ = some (n2)
  xn3 : w.cell? ⟨qc, 3, none⟩ = some (n3)
  xn4 : w.cell? ⟨qc, 4, none⟩ = some (n4)
  xn5 : w.cell? ⟨qc, 5, none⟩ = some (n5)
  k1 : Calls Tryz.prog 23 #[.agg #[m0, m1, m2, m3, m4, m5]] w fun e w' => e = .returned (.int .i64 cn) ∧ Below w.heap.size w w'
  k2 : Calls Tryz.prog 22 #[.int .i64 cn] w fun e w' => e = .returned (.int .i64 cn) ∧ Below w.heap.size w w'
  k3 : Calls Tryz.prog 24 #[.agg #[.int .i64 ak, .bool ab, .int .i64 an, .string ax, .slice aa am ac, .slice al ao ad]] w fun e w' => e = .returned (.int .i64 cn) ∧ Below w.heap.size w w'
  k4 : Calls Tryz.prog 25 #[.agg #[m0, m1, m2, m3, m4, m5]] w fun e w' => e = .returned (.bool false) ∧ Below w.heap.size w w'
  k5 : ∀ t, w.heap[t]? = some (.cells #[.int .i64 ak, .bool ab, .int .i64 an, .string ax, .slice aa am ac, .slice al ao ad] 26 (0, 0)) → Calls Tryz.prog 21 #[.slice (some ⟨t, 0, none⟩) 1 1] w fun e w' => e = .returned (.bool false) ∧ Below w.heap.size w w'
  k7 : Calls Tryz.prog 27 #[.agg #[n0, n1, n2, n3, n4, n5], .agg #[.int .i64 ak, .bool ab, .int .i64 an, .string ax, .slice aa am ac, .slice al ao ad]] w fun e w' => e = .returned (.bool true) ∧ Below w.heap.size w w'

def stepH9f (pa qa qc : Nat) (cn nv dv : Int) (st : Bool) (ak : Int) (ab : Bool) (an : Int) (ax : ByteArray) (aa : Option Addr) (am ac : Nat) (al : Option Addr) (ao ad : Nat) (m0 m1 m2 m3 m4 m5 n0 n1 n2 n3 n4 n5 : Value) (Q : Exit → Act → World → Prop) (i : Nat) : Prop := ∀ (c : Act) (w : World), BaseH9f pa qa qc cn nv dv st ak ab an ax aa am ac al ao ad m0 m1 m2 m3 m4 m5 n0 n1 n2 n3 n4 n5 c → WorldH9f pa qa qc cn nv dv st ak ab an ax aa am ac al ao ad m0 m1 m2 m3 m4 m5 n0 n1 n2 n3 n4 n5 w → (∀ q0 ∈ ancH9f i, factsAt (factsH9f pa qa qc cn nv dv st ak ab an ax aa am ac al ao ad m0 m1 m2 m3 m4 m5 n0 n1 n2 n3 n4 n5) q0 (val RH9f c q0) w) → Does Tryz.prog RH9f Q (factsAt (factsH9f pa qa qc cn nv dv st ak ab an ax aa am ac al ao ad m0 m1 m2 m3 m4 m5 n0 n1 n2 n3 n4 n5)) i c w
theorem wnH9f {i : Nat} {o : Oper} {c : Act} (ho : RH9f[i]? = some o) (h : o.guard = none) : Region.wanted o (yielded RH9f c.tmps) = true := want_none h
theorem weH9f {i g : Nat} {b : Bool} {o : Oper} {c : Act} (ho : RH9f[i]? = some o) (h : o.guard = some (g, b)) (hg : val RH9f c g = .bool b) : Region.wanted o (yielded RH9f c.tmps) = true := want_eq h hg
section
variable (pa qa qc : Nat) (cn nv dv : Int) (st : Bool) (ak : Int) (ab : Bool) (an : Int) (ax : ByteArray) (aa : Option Addr) (am ac : Nat) (al : Option Addr) (ao ad : Nat) (m0 m1 m2 m3 m4 m5 n0 n1 n2 n3 n4 n5 : Value) (Q : Exit → Act → World → Prop)
set_option maxRecDepth 10000 in
theorem oH9f_0 : stepH9f pa qa qc cn nv dv st ak ab an ax aa am ac al ao ad m0 m1 m2 m3 m4 m5 n0 n1 n2 n3 n4 n5 Q 0 := by
  intro c w hb hW hF
  have ho : RH9f[0]? = some ({ dst := some 36, op := Op.load 26 (Operand.tmp 3), type := 26, pos := "law.go:99", after := #[], guard := none } : Oper) := by kernel_rfl
  have e3 := hb.t3
  have hw := wnH9f (c := c) ho rfl
  have ec : ∀ v, c.eval (.const v) = v := fun _ => rfl
  have ef : ∀ f, c.eval (.func f) = .func (.func f) #[] #[] := fun _ => rfl
  have xm0 := hW.xm0
  have xm1 := hW.xm1
  have xm2 := hW.xm2
  have xm3 := hW.xm3
  have xm4 := hW.xm4
  have xm5 := hW.xm5
  refine does_value ho hw (v := .agg #[m0, m1, m2, m3, m4, m5]) ?_ rfl (Below.refl _ _)
  generalize c.eval = ρ at *
  clear hF hb hW hw ho
  go_simp

set_option maxRecDepth 10000 in
theorem oH9f_1 : stepH9f pa qa qc cn nv dv st ak ab an ax aa am ac al ao ad m0 m1 m2 m3 m4 m5 n0 n1 n2 n3 n4 n5 Q 1 := by
  intro c w hb hW hF
  have ho : RH9f[1]? = some ({ dst := some 37, op := Op.call { callee := Callee.value (Operand.func 23), args := #[Operand.tmp 36], argTypes := #[26] }, type := 35, pos := "law.go:99", after := #[{ on := 0, ground := Ground.data }], guard := none } : Oper) := by kernel_rfl
  have e36 : c.eval (.tmp 36) = .agg #[m0, m1, m2, m3, m4, m5] := fact_at (p := eqv (.agg #[m0, m1, m2, m3, m4, m5])) (by kernel_rfl) rfl (hF 0 (by decide))
  have hw := wnH9f (c := c) ho rfl
  have ec : ∀ v, c.eval (.const v) = v := fun _ => rfl
  have ef : ∀ f, c.eval (.func f) = .func (.func f) #[] #[] := fun _ => rfl
  refine does_call ho hw (f := 23) (args := #[.agg #[m0, m1, m2, m3, m4, m5]]) ?_ (Calls.mono (hW.k1) fun e w' ⟨h1, h2⟩ => ⟨_, h1, rfl, h2⟩)
  generalize c.eval = ρ at *
  clear hF hb hW hw ho
  go_simp

set_option maxRecDepth 10000 in
theorem oH9f_2 : stepH9f pa qa qc cn nv dv st ak ab an ax aa am ac al ao ad m0 m1 m2 m3 m4 m5 n0 n1 n2 n3 n4 n5 Q 2 := by
  intro c w hb hW hF
  have ho : RH9f[2]? = some ({ dst := some 38, op := Op.call { callee := Callee.value (Operand.func 22), args := #[Operand.tmp 37], argTypes := #[35] }, type := 3, pos := "law.go:99", after := #[{ on := 1, ground := Ground.data }, { on := 1, ground := Ground.chain }], guard := none } : Oper) := by kernel_rfl
  have e37 : c.eval (.tmp 37) = .int .i64 cn := fact_at (p := eqv (.int .i64 cn)) (by kernel_rfl) rfl (hF 1 (by decide))
  have hw := wnH9f (c := c) ho rfl
  have ec : ∀ v, c.eval (.const v) = v := fun _ => rfl
  have ef : ∀ f, c.eval (.func f) = .func (.func f) #[] #[] := fun _ => rfl
  refine does_call ho hw (f := 22) (args := #[.int .i64 cn]) ?_ (Calls.mono (hW.k2) fun e w' ⟨h1, h2⟩ => ⟨_, h1, rfl, h2⟩)
  generalize c.eval = ρ at *
  clear hF hb hW hw ho
  go_simp

set_option maxRecDepth 10000 in
theorem oH9f_3 : stepH9f pa qa qc cn nv dv st ak ab an ax aa am ac al ao ad m0 m1 m2 m3 m4 m5 n0 n1 n2 n3 n4 n5 Q 3 := by
  intro c w hb hW hF
  have ho : RH9f[3]? = some ({ dst := some 39, op := Op.load 26 (Operand.tmp 1), type := 26, pos := "law.go:99", after := #[], guard := none } : Oper) := by kernel_rfl
  have e1 := hb.t1
  have hw := wnH9f (c := c) ho rfl
  have ec : ∀ v, c.eval (.const v) = v := fun _ => rfl
  have ef : ∀ f, c.eval (.func f) = .func (.func f) #[] #[] := fun _ => rfl
  have xa0 := hW.xa0
  have xa1 := hW.xa1
  have xa2 := hW.xa2
  have xa3 := hW.xa3
  have xa4 := hW.xa4
  have xa5 := hW.xa5
  refine does_value ho hw (v := .agg #[.int .i64 ak, .bool ab, .int .i64 an, .string ax, .slice aa am ac, .slice al ao ad]) ?_ rfl (Below.refl _ _)
  generalize c.eval = ρ at *
  clear hF hb hW hw ho
  go_simp

set_option maxRecDepth 10000 in
theorem oH9f_4 : stepH9f pa qa qc cn nv dv st ak ab an ax aa am ac al ao ad m0 m1 m2 m3 m4 m5 n0 n1 n2 n3 n4 n5 Q 4 := by
  intro c w hb hW hF
  have ho : RH9f[4]? = some ({ dst := some 40, op := Op.call { callee := Callee.value (Operand.func 24), args := #[Operand.tmp 39], argTypes := #[26] }, type := 3, pos := "law.go:99", after := #[{ on := 3, ground := Ground.data }, { on := 2, ground := Ground.chain }], guard := none } : Oper) := by kernel_rfl
  have e39 : c.eval (.tmp 39) = .agg #[.int .i64 ak, .bool ab, .int .i64 an, .string ax, .slice aa am ac, .slice al ao ad] := fact_at (p := eqv (.agg #[.int .i64 ak, .bool ab, .int .i64 an, .string ax, .slice aa am ac, .slice al ao ad])) (by kernel_rfl) rfl (hF 3 (by decide))
  have hw := wnH9f (c := c) ho rfl
  have ec : ∀ v, c.eval (.const v) = v := fun _ => rfl
  have ef : ∀ f, c.eval (.func f) = .func (.func f) #[] #[] := fun _ => rfl
  refine does_call ho hw (f := 24) (args := #[.agg #[.int .i64 ak, .bool ab, .int .i64 an, .string ax, .slice aa am ac, .slice al ao ad]]) ?_ (Calls.mono (hW.k3) fun e w' ⟨h1, h2⟩ => ⟨_, h1, rfl, h2⟩)
  generalize c.eval = ρ at *
  clear hF hb hW hw ho
  go_simp

set_option maxRecDepth 10000 in
theorem oH9f_5 : stepH9f pa qa qc cn nv dv st ak ab an ax aa am ac al ao ad m0 m1 m2 m3 m4 m5 n0 n1 n2 n3 n4 n5 Q 5 := by
  intro c w hb hW hF
  have ho : RH9f[5]? = some ({ dst := some 41, op := Op.binOp BinOp.neq 3 (Operand.tmp 38) (Operand.tmp 40) 3, type := 4, pos := "law.go:99", after := #[{ on := 2, ground := Ground.data }, { on := 4, ground := Ground.data }], guard := none } : Oper) := by kernel_rfl
  have e38 : c.eval (.tmp 38) = .int .i64 cn := fact_at (p := eqv (.int .i64 cn)) (by kernel_rfl) rfl (hF 2 (by decide))
  have e40 : c.eval (.tmp 40) = .int .i64 cn := fact_at (p := eqv (.int .i64 cn)) (by kernel_rfl) rfl (hF 4 (by decide))
  have hw := wnH9f (c := c) ho rfl
  have ec : ∀ v, c.eval (.const v) = v := fun _ => rfl
  have ef : ∀ f, c.eval (.func f) = .func (.func f) #[] #[] := fun _ => rfl
  refine does_value ho hw (v := .bool false) ?_ rfl (Below.refl _ _)
  generalize c.eval = ρ at *
  clear hF hb hW hw ho
  go_simp

set_option maxRecDepth 10000 in
theorem oH9f_6 : stepH9f pa qa qc cn nv dv st ak ab an ax aa am ac al ao ad m0 m1 m2 m3 m4 m5 n0 n1 n2 n3 n4 n5 Q 6 := by
  intro c w hb hW hF
  have ho : RH9f[6]? = some ({ dst := some 42, op := Op.move (Operand.tmp 41), type := 4, pos := "law.go:99", after := #[{ on := 5, ground := Ground.data }, { on := 4, ground := Ground.chain }], guard := none } : Oper) := by kernel_rfl
  have e41 : c.eval (.tmp 41) = .bool false := fact_at (p := eqv (.bool false)) (by kernel_rfl) rfl (hF 5 (by decide))
  have hw := wnH9f (c := c) ho rfl
  have ec : ∀ v, c.eval (.const v) = v := fun _ => rfl
  have ef : ∀ f, c.eval (.func f) = .func (.func f) #[] #[] := fun _ => rfl
  refine does_value ho hw (v := .bool false) ?_ rfl (Below.refl _ _)
  generalize c.eval = ρ at *
  clear hF hb hW hw ho
  go_simp

set_option maxRecDepth 10000 in
theorem oH9f_7 : stepH9f pa qa qc cn nv dv st ak ab an ax aa am ac al ao ad m0 m1 m2 m3 m4 m5 n0 n1 n2 n3 n4 n5 Q 7 := by
  intro c w hb hW hF
  have ho : RH9f[7]? = some ({ dst := some 43, op := Op.move (Operand.tmp 4), type := 3, pos := "law.go:99", after := #[{ on := 6, ground := Ground.guard }], guard := some (6, false) } : Oper) := by kernel_rfl
  have e4 := hb.t4
  have hg : val RH9f c 6 = .bool false := hF 6 (by decide)
  have hw := weH9f ho rfl hg
  have ec : ∀ v, c.eval (.const v) = v := fun _ => rfl
  have ef : ∀ f, c.eval (.func f) = .func (.func f) #[] #[] := fun _ => rfl
  refine does_value ho hw (v := .int .i64 nv) ?_ rfl (Below.refl _ _)
  generalize c.eval = ρ at *
  clear hF hb hW hw ho hg
  go_simp

set_option maxRecDepth 10000 in
theorem oH9f_8 : stepH9f pa qa qc cn nv dv st ak ab an ax aa am ac al ao ad m0 m1 m2 m3 m4 m5 n0 n1 n2 n3 n4 n5 Q 8 := by
  intro c w hb hW hF
  have ho : RH9f[8]? = some ({ dst := some 44, op := Op.move (Operand.tmp 7), type := 3, pos := "law.go:99", after := #[{ on := 6, ground := Ground.guard }], guard := some (6, false) } : Oper) := by kernel_rfl
  have e7 := hb.t7
  have hg : val RH9f c 6 = .bool false := hF 6 (by decide)
  have hw := weH9f ho rfl hg
  have ec : ∀ v, c.eval (.const v) = v := fun _ => rfl
  have ef : ∀ f, c.eval (.func f) = .func (.func f) #[] #[] := fun _ => rfl
  refine does_value ho hw (v := .int .i64 nv) ?_ rfl (Below.refl _ _)
  generalize c.eval = ρ at *
  clear hF hb hW hw ho hg
  go_simp

set_option maxRecDepth 10000 in
theorem oH9f_9 : stepH9f pa qa qc cn nv dv st ak ab an ax aa am ac al ao ad m0 m1 m2 m3 m4 m5 n0 n1 n2 n3 n4 n5 Q 9 := by
  intro c w hb hW hF
  have ho : RH9f[9]? = some ({ dst := some 45, op := Op.binOp BinOp.neq 3 (Operand.tmp 43) (Operand.tmp 44) 3, type := 4, pos := "law.go:99", after := #[{ on := 7, ground := Ground.data }, { on := 8, ground := Ground.data }, { on := 6, ground := Ground.guard }], guard := some (6, false) } : Oper) := by kernel_rfl
  have e43 : c.eval (.tmp 43) = .int .i64 nv := fact_at (p := eqv (.int .i64 nv)) (by kernel_rfl) rfl (hF 7 (by decide))
  have e44 : c.eval (.tmp 44) = .int .i64 nv := fact_at (p := eqv (.int .i64 nv)) (by kernel_rfl) rfl (hF 8 (by decide))
  have hg : val RH9f c 6 = .bool false := hF 6 (by decide)
  have hw := weH9f ho rfl hg
  have ec : ∀ v, c.eval (.const v) = v := fun _ => rfl
  have ef : ∀ f, c.eval (.func f) = .func (.func f) #[] #[] := fun _ => rfl
  refine does_value ho hw (v := .bool false) ?_ rfl (Below.refl _ _)
  generalize c.eval = ρ at *
  clear hF hb hW hw ho hg
  go_simp

set_option maxRecDepth 10000 in
theorem oH9f_10 : stepH9f pa qa qc cn nv dv st ak ab an ax aa am ac al ao ad m0 m1 m2 m3 m4 m5 n0 n1 n2 n3 n4 n5 Q 10 := by
  intro c w hb hW hF
  have ho : RH9f[10]? = some ({ dst := some 46, op := Op.pick (Operand.tmp 42) (Operand.const (Value.bool true)) (Operand.tmp 45), type := 4, pos := "law.go:99", after := #[{ on := 6, ground := Ground.data }, { on := 9, ground := Ground.data }], guard := none } : Oper) := by kernel_rfl
  have e42 : c.eval (.tmp 42) = .bool false := fact_at (p := eqv (.bool false)) (by kernel_rfl) rfl (hF 6 (by decide))
  have e45 : c.eval (.tmp 45) = .bool false := fact_at (p := eqv (.bool false)) (by kernel_rfl) rfl (hF 9 (by decide))
  have hw := wnH9f (c := c) ho rfl
  have ec : ∀ v, c.eval (.const v) = v := fun _ => rfl
  have ef : ∀ f, c.eval (.func f) = .func (.func f) #[] #[] := fun _ => rfl
  refine does_value ho hw (v := .bool false) ?_ rfl (Below.refl _ _)
  generalize c.eval = ρ at *
  clear hF hb hW hw ho
  go_simp

set_option maxRecDepth 10000 in
theorem oH9f_11 : stepH9f pa qa qc cn nv dv st ak ab an ax aa am ac al ao ad m0 m1 m2 m3 m4 m5 n0 n1 n2 n3 n4 n5 Q 11 := by
  intro c w hb hW hF
  have ho : RH9f[11]? = some ({ dst := some 47, op := Op.move (Operand.tmp 46), type := 4, pos := "law.go:99", after := #[{ on := 10, ground := Ground.data }, { on := 6, ground := Ground.chain }], guard := none } : Oper) := by kernel_rfl
  have e46 : c.eval (.tmp 46) = .bool false := fact_at (p := eqv (.bool false)) (by kernel_rfl) rfl (hF 10 (by decide))
  have hw := wnH9f (c := c) ho rfl
  have ec : ∀ v, c.eval (.const v) = v := fun _ => rfl
  have ef : ∀ f, c.eval (.func f) = .func (.func f) #[] #[] := fun _ => rfl
  refine does_value ho hw (v := .bool false) ?_ rfl (Below.refl _ _)
  generalize c.eval = ρ at *
  clear hF hb hW hw ho
  go_simp

set_option maxRecDepth 10000 in
theorem oH9f_12 : stepH9f pa qa qc cn nv dv st ak ab an ax aa am ac al ao ad m0 m1 m2 m3 m4 m5 n0 n1 n2 n3 n4 n5 Q 12 := by
  intro c w hb hW hF
  have ho : RH9f[12]? = some ({ dst := some 48, op := Op.move (Operand.tmp 5), type := 3, pos := "law.go:99", after := #[{ on := 11, ground := Ground.guard }], guard := some (11, false) } : Oper) := by kernel_rfl
  have e5 := hb.t5
  have hg : val RH9f c 11 = .bool false := hF 11 (by decide)
  have hw := weH9f ho rfl hg
  have ec : ∀ v, c.eval (.const v) = v := fun _ => rfl
  have ef : ∀ f, c.eval (.func f) = .func (.func f) #[] #[] := fun _ => rfl
  refine does_value ho hw (v := .int .i64 dv) ?_ rfl (Below.refl _ _)
  generalize c.eval = ρ at *
  clear hF hb hW hw ho hg
  go_simp

set_option maxRecDepth 10000 in
theorem oH9f_13 : stepH9f pa qa qc cn nv dv st ak ab an ax aa am ac al ao ad m0 m1 m2 m3 m4 m5 n0 n1 n2 n3 n4 n5 Q 13 := by
  intro c w hb hW hF
  have ho : RH9f[13]? = some ({ dst := some 49, op := Op.move (Operand.tmp 8), type := 3, pos := "law.go:99", after := #[{ on := 11, ground := Ground.guard }], guard := some (11, false) } : Oper) := by kernel_rfl
  have e8 := hb.t8
  have hg : val RH9f c 11 = .bool false := hF 11 (by decide)
  have hw := weH9f ho rfl hg
  have ec : ∀ v, c.eval (.const v) = v := fun _ => rfl
  have ef : ∀ f, c.eval (.func f) = .func (.func f) #[] #[] := fun _ => rfl
  refine does_value ho hw (v := .int .i64 dv) ?_ rfl (Below.refl _ _)
  generalize c.eval = ρ at *
  clear hF hb hW hw ho hg
  go_simp

set_option maxRecDepth 10000 in
theorem oH9f_14 : stepH9f pa qa qc cn nv dv st ak ab an ax aa am ac al ao ad m0 m1 m2 m3 m4 m5 n0 n1 n2 n3 n4 n5 Q 14 := by
  intro c w hb hW hF
  have ho : RH9f[14]? = some ({ dst := some 50, op := Op.binOp BinOp.neq 3 (Operand.tmp 48) (Operand.tmp 49) 3, type := 4, pos := "law.go:99", after := #[{ on := 12, ground := Ground.data }, { on := 13, ground := Ground.data }, { on := 11, ground := Ground.guard }], guard := some (11, false) } : Oper) := by kernel_rfl
  have e48 : c.eval (.tmp 48) = .int .i64 dv := fact_at (p := eqv (.int .i64 dv)) (by kernel_rfl) rfl (hF 12 (by decide))
  have e49 : c.eval (.tmp 49) = .int .i64 dv := fact_at (p := eqv (.int .i64 dv)) (by kernel_rfl) rfl (hF 13 (by decide))
  have hg : val RH9f c 11 = .bool false := hF 11 (by decide)
  have hw := weH9f ho rfl hg
  have ec : ∀ v, c.eval (.const v) = v := fun _ => rfl
  have ef : ∀ f, c.eval (.func f) = .func (.func f) #[] #[] := fun _ => rfl
  refine does_value ho hw (v := .bool false) ?_ rfl (Below.refl _ _)
  generalize c.eval = ρ at *
  clear hF hb hW hw ho hg
  go_simp

set_option maxRecDepth 10000 in
theorem oH9f_15 : stepH9f pa qa qc cn nv dv st ak ab an ax aa am ac al ao ad m0 m1 m2 m3 m4 m5 n0 n1 n2 n3 n4 n5 Q 15 := by
  intro c w hb hW hF
  have ho : RH9f[15]? = some ({ dst := some 51, op := Op.pick (Operand.tmp 47) (Operand.const (Value.bool true)) (Operand.tmp 50), type := 4, pos := "law.go:99", after := #[{ on := 11, ground := Ground.data }, { on := 14, ground := Ground.data }], guard := none } : Oper) := by kernel_rfl
  have e47 : c.eval (.tmp 47) = .bool false := fact_at (p := eqv (.bool false)) (by kernel_rfl) rfl (hF 11 (by decide))
  have e50 : c.eval (.tmp 50) = .bool false := fact_at (p := eqv (.bool false)) (by kernel_rfl) rfl (hF 14 (by decide))
  have hw := wnH9f (c := c) ho rfl
  have ec : ∀ v, c.eval (.const v) = v := fun _ => rfl
  have ef : ∀ f, c.eval (.func f) = .func (.func f) #[] #[] := fun _ => rfl
  refine does_value ho hw (v := .bool false) ?_ rfl (Below.refl _ _)
  generalize c.eval = ρ at *
  clear hF hb hW hw ho
  go_simp

set_option maxRecDepth 10000 in
theorem oH9f_16 : stepH9f pa qa qc cn nv dv st ak ab an ax aa am ac al ao ad m0 m1 m2 m3 m4 m5 n0 n1 n2 n3 n4 n5 Q 16 := by
  intro c w hb hW hF
  have ho : RH9f[16]? = some ({ dst := some 52, op := Op.move (Operand.tmp 51), type := 4, pos := "law.go:99", after := #[{ on := 15, ground := Ground.data }, { on := 11, ground := Ground.chain }], guard := none } : Oper) := by kernel_rfl
  have e51 : c.eval (.tmp 51) = .bool false := fact_at (p := eqv (.bool false)) (by kernel_rfl) rfl (hF 15 (by decide))
  have hw := wnH9f (c := c) ho rfl
  have ec : ∀ v, c.eval (.const v) = v := fun _ => rfl
  have ef : ∀ f, c.eval (.func f) = .func (.func f) #[] #[] := fun _ => rfl
  refine does_value ho hw (v := .bool false) ?_ rfl (Below.refl _ _)
  generalize c.eval = ρ at *
  clear hF hb hW hw ho
  go_simp

set_option maxRecDepth 10000 in
theorem oH9f_17 : stepH9f pa qa qc cn nv dv st ak ab an ax aa am ac al ao ad m0 m1 m2 m3 m4 m5 n0 n1 n2 n3 n4 n5 Q 17 := by
  intro c w hb hW hF
  have ho : RH9f[17]? = some ({ dst := some 53, op := Op.load 26 (Operand.tmp 3), type := 26, pos := "law.go:99", after := #[{ on := 16, ground := Ground.guard }], guard := some (16, false) } : Oper) := by kernel_rfl
  have e3 := hb.t3
  have hg : val RH9f c 16 = .bool false := hF 16 (by decide)
  have hw := weH9f ho rfl hg
  have ec : ∀ v, c.eval (.const v) = v := fun _ => rfl
  have ef : ∀ f, c.eval (.func f) = .func (.func f) #[] #[] := fun _ => rfl
  have xm0 := hW.xm0
  have xm1 := hW.xm1
  have xm2 := hW.xm2
  have xm3 := hW.xm3
  have xm4 := hW.xm4
  have xm5 := hW.xm5
  refine does_value ho hw (v := .agg #[m0, m1, m2, m3, m4, m5]) ?_ rfl (Below.refl _ _)
  generalize c.eval = ρ at *
  clear hF hb hW hw ho hg
  go_simp

set_option maxRecDepth 10000 in
theorem oH9f_18 : stepH9f pa qa qc cn nv dv st ak ab an ax aa am ac al ao ad m0 m1 m2 m3 m4 m5 n0 n1 n2 n3 n4 n5 Q 18 := by
  intro c w hb hW hF
  have ho : RH9f[18]? = some ({ dst := some 54, op := Op.call { callee := Callee.value (Operand.func 25), args := #[Operand.tmp 53], argTypes := #[26] }, type := 4, pos := "law.go:99", after := #[{ on := 17, ground := Ground.data }, { on := 16, ground := Ground.chain }, { on := 16, ground := Ground.guard }], guard := some (16, false) } : Oper) := by kernel_rfl
  have e53 : c.eval (.tmp 53) = .agg #[m0, m1, m2, m3, m4, m5] := fact_at (p := eqv (.agg #[m0, m1, m2, m3, m4, m5])) (by kernel_rfl) rfl (hF 17 (by decide))
  have hg : val RH9f c 16 = .bool false := hF 16 (by decide)
  have hw := weH9f ho rfl hg
  have ec : ∀ v, c.eval (.const v) = v := fun _ => rfl
  have ef : ∀ f, c.eval (.func f) = .func (.func f) #[] #[] := fun _ => rfl
  refine does_call ho hw (f := 25) (args := #[.agg #[m0, m1, m2, m3, m4, m5]]) ?_ (Calls.mono (hW.k4) fun e w' ⟨h1, h2⟩ => ⟨_, h1, rfl, h2⟩)
  generalize c.eval = ρ at *
  clear hF hb hW hw ho hg
  go_simp

set_option maxRecDepth 10000 in
theorem oH9f_19 : stepH9f pa qa qc cn nv dv st ak ab an ax aa am ac al ao ad m0 m1 m2 m3 m4 m5 n0 n1 n2 n3 n4 n5 Q 19 := by
  intro c w hb hW hF
  have ho : RH9f[19]? = some ({ dst := some 55, op := Op.load 26 (Operand.tmp 1), type := 26, pos := "law.go:99", after := #[{ on := 16, ground := Ground.guard }], guard := some (16, false) } : Oper) := by kernel_rfl
  have e1 := hb.t1
  have hg : val RH9f c 16 = .bool false := hF 16 (by decide)
  have hw := weH9f ho rfl hg
  have ec : ∀ v, c.eval (.const v) = v := fun _ => rfl
  have ef : ∀ f, c.eval (.func f) = .func (.func f) #[] #[] := fun _ => rfl
  have xa0 := hW.xa0
  have xa1 := hW.xa1
  have xa2 := hW.xa2
  have xa3 := hW.xa3
  have xa4 := hW.xa4
  have xa5 := hW.xa5
  refine does_value ho hw (v := .agg #[.int .i64 ak, .bool ab, .int .i64 an, .string ax, .slice aa am ac, .slice al ao ad]) ?_ rfl (Below.refl _ _)
  generalize c.eval = ρ at *
  clear hF hb hW hw ho hg
  go_simp

set_option maxRecDepth 10000 in
theorem oH9f_20 : stepH9f pa qa qc cn nv dv st ak ab an ax aa am ac al ao ad m0 m1 m2 m3 m4 m5 n0 n1 n2 n3 n4 n5 Q 20 := by
  intro c w hb hW hF
  have ho : RH9f[20]? = some ({ dst := some 56, op := Op.buildSlice 24 1 #[(0, Operand.tmp 55)], type := 24, pos := "law.go:99", after := #[{ on := 19, ground := Ground.data }, { on := 16, ground := Ground.guard }], guard := some (16, false) } : Oper) := by kernel_rfl
  have e55 : c.eval (.tmp 55) = .agg #[.int .i64 ak, .bool ab, .int .i64 an, .string ax, .slice aa am ac, .slice al ao ad] := fact_at (p := eqv (.agg #[.int .i64 ak, .bool ab, .int .i64 an, .string ax, .slice aa am ac, .slice al ao ad])) (by kernel_rfl) rfl (hF 19 (by decide))
  have hg : val RH9f c 16 = .bool false := hF 16 (by decide)
  have hw := weH9f ho rfl hg
  have ec : ∀ v, c.eval (.const v) = v := fun _ => rfl
  have ef : ∀ f, c.eval (.func f) = .func (.func f) #[] #[] := fun _ => rfl
  refine does_value ho hw (v := .slice (some ⟨w.heap.size, 0, none⟩) 1 1) (w' := w.alloc (.cells #[.int .i64 ak, .bool ab, .int .i64 an, .string ax, .slice aa am ac, .slice al ao ad] 26)) ?_ ⟨w.heap.size, rfl, World.alloc_heap_new _ _⟩ ((Below.refl _ _).alloc (Nat.le_refl _) _)
  generalize c.eval = ρ at *
  clear hF hb hW hw ho hg
  go_simp

set_option maxRecDepth 10000 in
theorem oH9f_21 : stepH9f pa qa qc cn nv dv st ak ab an ax aa am ac al ao ad m0 m1 m2 m3 m4 m5 n0 n1 n2 n3 n4 n5 Q 21 := by
  intro c w hb hW hF
  have ho : RH9f[21]? = some ({ dst := some 57, op := Op.call { callee := Callee.value (Operand.func 21), args := #[Operand.tmp 56], argTypes := #[24] }, type := 4, pos := "law.go:99", after := #[{ on := 20, ground := Ground.data }, { on := 18, ground := Ground.chain }, { on := 16, ground := Ground.guard }], guard := some (16, false) } : Oper) := by kernel_rfl
  have e56 : c.eval (.tmp 56) = val RH9f c 20 := (val_eq (show slotOf RH9f 20 = some 56 by kernel_rfl)).symm
  have hg : val RH9f c 16 = .bool false := hF 16 (by decide)
  have hw := weH9f ho rfl hg
  have ec : ∀ v, c.eval (.const v) = v := fun _ => rfl
  have ef : ∀ f, c.eval (.func f) = .func (.func f) #[] #[] := fun _ => rfl
  obtain ⟨t, ht, hrow⟩ : rowOne #[.int .i64 ak, .bool ab, .int .i64 an, .string ax, .slice aa am ac, .slice al ao ad] (val RH9f c 20) w := hF 20 (by decide)
  rw [ht] at e56
  refine does_call ho hw (f := 21) (args := #[.slice (some ⟨t, 0, none⟩) 1 1]) ?_ (Calls.mono (hW.k5 t hrow) fun e w' ⟨h1, h2⟩ => ⟨_, h1, rfl, h2⟩)
  generalize c.eval = ρ at *
  clear hF hb hW hw ho hg
  go_simp

set_option maxRecDepth 10000 in
theorem oH9f_22 : stepH9f pa qa qc cn nv dv st ak ab an ax aa am ac al ao ad m0 m1 m2 m3 m4 m5 n0 n1 n2 n3 n4 n5 Q 22 := by
  intro c w hb hW hF
  have ho : RH9f[22]? = some ({ dst := some 58, op := Op.move (Operand.tmp 57), type := 4, pos := "law.go:99", after := #[{ on := 21, ground := Ground.data }, { on := 21, ground := Ground.chain }, { on := 16, ground := Ground.guard }], guard := some (16, false) } : Oper) := by kernel_rfl
  have e57 : c.eval (.tmp 57) = .bool false := fact_at (p := eqv (.bool false)) (by kernel_rfl) rfl (hF 21 (by decide))
  have hg : val RH9f c 16 = .bool false := hF 16 (by decide)
  have hw := weH9f ho rfl hg
  have ec : ∀ v, c.eval (.const v) = v := fun _ => rfl
  have ef : ∀ f, c.eval (.func f) = .func (.func f) #[] #[] := fun _ => rfl
  refine does_value ho hw (v := .bool false) ?_ rfl (Below.refl _ _)
  generalize c.eval = ρ at *
  clear hF hb hW hw ho hg
  go_simp

set_option maxRecDepth 10000 in
theorem oH9f_23 : stepH9f pa qa qc cn nv dv st ak ab an ax aa am ac al ao ad m0 m1 m2 m3 m4 m5 n0 n1 n2 n3 n4 n5 Q 23 := by
  intro c w hb hW hF
  have ho : RH9f[23]? = some ({ dst := some 59, op := Op.load 26 (Operand.tmp 1), type := 26, pos := "law.go:99", after := #[{ on := 22, ground := Ground.guard }], guard := some (22, true) } : Oper) := by kernel_rfl
  have hg : val RH9f c 22 = .bool false := hF 22 (by decide)
  refine does_not ho ((want_val rfl hg).trans rfl) rfl

set_option maxRecDepth 10000 in
theorem oH9f_24 : stepH9f pa qa qc cn nv dv st ak ab an ax aa am ac al ao ad m0 m1 m2 m3 m4 m5 n0 n1 n2 n3 n4 n5 Q 24 := by
  intro c w hb hW hF
  have ho : RH9f[24]? = some ({ dst := some 60, op := Op.call { callee := Callee.value (Operand.func 26), args := #[Operand.tmp 59], argTypes := #[26] }, type := 4, pos := "law.go:99", after := #[{ on := 23, ground := Ground.data }, { on := 22, ground := Ground.chain }, { on := 22, ground := Ground.guard }], guard := some (22, true) } : Oper) := by kernel_rfl
  have hg : val RH9f c 22 = .bool false := hF 22 (by decide)
  refine does_not ho ((want_val rfl hg).trans rfl) rfl

set_option maxRecDepth 10000 in
theorem oH9f_25 : stepH9f pa qa qc cn nv dv st ak ab an ax aa am ac al ao ad m0 m1 m2 m3 m4 m5 n0 n1 n2 n3 n4 n5 Q 25 := by
  intro c w hb hW hF
  have ho : RH9f[25]? = some ({ dst := some 61, op := Op.pick (Operand.tmp 58) (Operand.tmp 60) (Operand.const (Value.bool false)), type := 4, pos := "law.go:99", after := #[{ on := 22, ground := Ground.data }, { on := 24, ground := Ground.data }, { on := 16, ground := Ground.guard }], guard := some (16, false) } : Oper) := by kernel_rfl
  have e58 : c.eval (.tmp 58) = .bool false := fact_at (p := eqv (.bool false)) (by kernel_rfl) rfl (hF 22 (by decide))
  have e60 : c.eval (.tmp 60) = undef := fact_at (p := eqv undef) (by kernel_rfl) rfl (hF 24 (by decide))
  have hg : val RH9f c 16 = .bool false := hF 16 (by decide)
  have hw := weH9f ho rfl hg
  have ec : ∀ v, c.eval (.const v) = v := fun _ => rfl
  have ef : ∀ f, c.eval (.func f) = .func (.func f) #[] #[] := fun _ => rfl
  refine does_value ho hw (v := .bool false) ?_ rfl (Below.refl _ _)
  generalize c.eval = ρ at *
  clear hF hb hW hw ho hg
  go_simp

set_option maxRecDepth 10000 in
theorem oH9f_26 : stepH9f pa qa qc cn nv dv st ak ab an ax aa am ac al ao ad m0 m1 m2 m3 m4 m5 n0 n1 n2 n3 n4 n5 Q 26 := by
  intro c w hb hW hF
  have ho : RH9f[26]? = some ({ dst := some 62, op := Op.binOp BinOp.neq 4 (Operand.tmp 54) (Operand.tmp 61) 4, type := 4, pos := "law.go:99", after := #[{ on := 18, ground := Ground.data }, { on := 25, ground := Ground.data }, { on := 16, ground := Ground.guard }], guard := some (16, false) } : Oper) := by kernel_rfl
  have e54 : c.eval (.tmp 54) = .bool false := fact_at (p := eqv (.bool false)) (by kernel_rfl) rfl (hF 18 (by decide))
  have e61 : c.eval (.tmp 61) = .bool false := fact_at (p := eqv (.bool false)) (by kernel_rfl) rfl (hF 25 (by decide))
  have hg : val RH9f c 16 = .bool false := hF 16 (by decide)
  have hw := weH9f ho rfl hg
  have ec : ∀ v, c.eval (.const v) = v := fun _ => rfl
  have ef : ∀ f, c.eval (.func f) = .func (.func f) #[] #[] := fun _ => rfl
  refine does_value ho hw (v := .bool false) ?_ rfl (Below.refl _ _)
  generalize c.eval = ρ at *
  clear hF hb hW hw ho hg
  go_simp

set_option maxRecDepth 10000 in
theorem oH9f_27 : stepH9f pa qa qc cn nv dv st ak ab an ax aa am ac al ao ad m0 m1 m2 m3 m4 m5 n0 n1 n2 n3 n4 n5 Q 27 := by
  intro c w hb hW hF
  have ho : RH9f[27]? = some ({ dst := some 63, op := Op.pick (Operand.tmp 52) (Operand.const (Value.bool true)) (Operand.tmp 62), type := 4, pos := "law.go:99", after := #[{ on := 16, ground := Ground.data }, { on := 26, ground := Ground.data }], guard := none } : Oper) := by kernel_rfl
  have e52 : c.eval (.tmp 52) = .bool false := fact_at (p := eqv (.bool false)) (by kernel_rfl) rfl (hF 16 (by decide))
  have e62 : c.eval (.tmp 62) = .bool false := fact_at (p := eqv (.bool false)) (by kernel_rfl) rfl (hF 26 (by decide))
  have hw := wnH9f (c := c) ho rfl
  have ec : ∀ v, c.eval (.const v) = v := fun _ => rfl
  have ef : ∀ f, c.eval (.func f) = .func (.func f) #[] #[] := fun _ => rfl
  refine does_value ho hw (v := .bool false) ?_ rfl (Below.refl _ _)
  generalize c.eval = ρ at *
  clear hF hb hW hw ho
  go_simp

set_option maxRecDepth 10000 in
theorem oH9f_28 : stepH9f pa qa qc cn nv dv st ak ab an ax aa am ac al ao ad m0 m1 m2 m3 m4 m5 n0 n1 n2 n3 n4 n5 Q 28 := by
  intro c w hb hW hF
  have ho : RH9f[28]? = some ({ dst := some 64, op := Op.move (Operand.tmp 63), type := 4, pos := "law.go:99", after := #[{ on := 27, ground := Ground.data }, { on := 24, ground := Ground.chain }], guard := none } : Oper) := by kernel_rfl
  have e63 : c.eval (.tmp 63) = .bool false := fact_at (p := eqv (.bool false)) (by kernel_rfl) rfl (hF 27 (by decide))
  have hw := wnH9f (c := c) ho rfl
  have ec : ∀ v, c.eval (.const v) = v := fun _ => rfl
  have ef : ∀ f, c.eval (.func f) = .func (.func f) #[] #[] := fun _ => rfl
  refine does_value ho hw (v := .bool false) ?_ rfl (Below.refl _ _)
  generalize c.eval = ρ at *
  clear hF hb hW hw ho
  go_simp

set_option maxRecDepth 10000 in
theorem oH9f_29 : stepH9f pa qa qc cn nv dv st ak ab an ax aa am ac al ao ad m0 m1 m2 m3 m4 m5 n0 n1 n2 n3 n4 n5 Q 29 := by
  intro c w hb hW hF
  have ho : RH9f[29]? = some ({ dst := some 65, op := Op.load 26 (Operand.tmp 6), type := 26, pos := "law.go:99", after := #[{ on := 28, ground := Ground.guard }], guard := some (28, false) } : Oper) := by kernel_rfl
  have e6 := hb.t6
  have hg : val RH9f c 28 = .bool false := hF 28 (by decide)
  have hw := weH9f ho rfl hg
  have ec : ∀ v, c.eval (.const v) = v := fun _ => rfl
  have ef : ∀ f, c.eval (.func f) = .func (.func f) #[] #[] := fun _ => rfl
  have xn0 := hW.xn0
  have xn1 := hW.xn1
  have xn2 := hW.xn2
  have xn3 := hW.xn3
  have xn4 := hW.xn4
  have xn5 := hW.xn5
  refine does_value ho hw (v := .agg #[n0, n1, n2, n3, n4, n5]) ?_ rfl (Below.refl _ _)
  generalize c.eval = ρ at *
  clear hF hb hW hw ho hg
  go_simp

set_option maxRecDepth 10000 in
theorem oH9f_30 : stepH9f pa qa qc cn nv dv st ak ab an ax aa am ac al ao ad m0 m1 m2 m3 m4 m5 n0 n1 n2 n3 n4 n5 Q 30 := by
  intro c w hb hW hF
  have ho : RH9f[30]? = some ({ dst := some 66, op := Op.load 26 (Operand.tmp 1), type := 26, pos := "law.go:99", after := #[{ on := 28, ground := Ground.guard }], guard := some (28, false) } : Oper) := by kernel_rfl
  have e1 := hb.t1
  have hg : val RH9f c 28 = .bool false := hF 28 (by decide)
  have hw := weH9f ho rfl hg
  have ec : ∀ v, c.eval (.const v) = v := fun _ => rfl
  have ef : ∀ f, c.eval (.func f) = .func (.func f) #[] #[] := fun _ => rfl
  have xa0 := hW.xa0
  have xa1 := hW.xa1
  have xa2 := hW.xa2
  have xa3 := hW.xa3
  have xa4 := hW.xa4
  have xa5 := hW.xa5
  refine does_value ho hw (v := .agg #[.int .i64 ak, .bool ab, .int .i64 an, .string ax, .slice aa am ac, .slice al ao ad]) ?_ rfl (Below.refl _ _)
  generalize c.eval = ρ at *
  clear hF hb hW hw ho hg
  go_simp

set_option maxRecDepth 10000 in
theorem oH9f_31 : stepH9f pa qa qc cn nv dv st ak ab an ax aa am ac al ao ad m0 m1 m2 m3 m4 m5 n0 n1 n2 n3 n4 n5 Q 31 := by
  intro c w hb hW hF
  have ho : RH9f[31]? = some ({ dst := some 67, op := Op.call { callee := Callee.value (Operand.func 27), args := #[Operand.tmp 65, Operand.tmp 66], argTypes := #[26, 26] }, type := 4, pos := "law.go:99", after := #[{ on := 29, ground := Ground.data }, { on := 30, ground := Ground.data }, { on := 28, ground := Ground.chain }, { on := 28, ground := Ground.guard }], guard := some (28, false) } : Oper) := by kernel_rfl
  have e65 : c.eval (.tmp 65) = .agg #[n0, n1, n2, n3, n4, n5] := fact_at (p := eqv (.agg #[n0, n1, n2, n3, n4, n5])) (by kernel_rfl) rfl (hF 29 (by decide))
  have e66 : c.eval (.tmp 66) = .agg #[.int .i64 ak, .bool ab, .int .i64 an, .string ax, .slice aa am ac, .slice al ao ad] := fact_at (p := eqv (.agg #[.int .i64 ak, .bool ab, .int .i64 an, .string ax, .slice aa am ac, .slice al ao ad])) (by kernel_rfl) rfl (hF 30 (by decide))
  have hg : val RH9f c 28 = .bool false := hF 28 (by decide)
  have hw := weH9f ho rfl hg
  have ec : ∀ v, c.eval (.const v) = v := fun _ => rfl
  have ef : ∀ f, c.eval (.func f) = .func (.func f) #[] #[] := fun _ => rfl
  refine does_call ho hw (f := 27) (args := #[.agg #[n0, n1, n2, n3, n4, n5], .agg #[.int .i64 ak, .bool ab, .int .i64 an, .string ax, .slice aa am ac, .slice al ao ad]]) ?_ (Calls.mono (hW.k7) fun e w' ⟨h1, h2⟩ => ⟨_, h1, rfl, h2⟩)
  generalize c.eval = ρ at *
  clear hF hb hW hw ho hg
  go_simp

set_option maxRecDepth 10000 in
theorem oH9f_32 : stepH9f pa qa qc cn nv dv st ak ab an ax aa am ac al ao ad m0 m1 m2 m3 m4 m5 n0 n1 n2 n3 n4 n5 Q 32 := by
  intro c w hb hW hF
  have ho : RH9f[32]? = some ({ dst := some 68, op := Op.unOp UnOp.not 4 (Operand.tmp 67), type := 4, pos := "law.go:99", after := #[{ on := 31, ground := Ground.data }, { on := 28, ground := Ground.guard }], guard := some (28, false) } : Oper) := by kernel_rfl
  have e67 : c.eval (.tmp 67) = .bool true := fact_at (p := eqv (.bool true)) (by kernel_rfl) rfl (hF 31 (by decide))
  have hg : val RH9f c 28 = .bool false := hF 28 (by decide)
  have hw := weH9f ho rfl hg
  have ec : ∀ v, c.eval (.const v) = v := fun _ => rfl
  have ef : ∀ f, c.eval (.func f) = .func (.func f) #[] #[] := fun _ => rfl
  refine does_value ho hw (v := .bool false) ?_ rfl (Below.refl _ _)
  generalize c.eval = ρ at *
  clear hF hb hW hw ho hg
  go_simp

set_option maxRecDepth 10000 in
theorem oH9f_33 : stepH9f pa qa qc cn nv dv st ak ab an ax aa am ac al ao ad m0 m1 m2 m3 m4 m5 n0 n1 n2 n3 n4 n5 Q 33 := by
  intro c w hb hW hF
  have ho : RH9f[33]? = some ({ dst := some 69, op := Op.pick (Operand.tmp 64) (Operand.const (Value.bool true)) (Operand.tmp 68), type := 4, pos := "law.go:99", after := #[{ on := 28, ground := Ground.data }, { on := 32, ground := Ground.data }], guard := none } : Oper) := by kernel_rfl
  have e64 : c.eval (.tmp 64) = .bool false := fact_at (p := eqv (.bool false)) (by kernel_rfl) rfl (hF 28 (by decide))
  have e68 : c.eval (.tmp 68) = .bool false := fact_at (p := eqv (.bool false)) (by kernel_rfl) rfl (hF 32 (by decide))
  have hw := wnH9f (c := c) ho rfl
  have ec : ∀ v, c.eval (.const v) = v := fun _ => rfl
  have ef : ∀ f, c.eval (.func f) = .func (.func f) #[] #[] := fun _ => rfl
  refine does_value ho hw (v := .bool false) ?_ rfl (Below.refl _ _)
  generalize c.eval = ρ at *
  clear hF hb hW hw ho
  go_simp

end

theorem stableH9f (pa qa qc : Nat) (cn nv dv : Int) (st : Bool) (ak : Int) (ab : Bool) (an : Int) (ax : ByteArray) (aa : Option Addr) (am ac : Nat) (al : Option Addr) (ao ad : Nat) (m0 m1 m2 m3 m4 m5 n0 n1 n2 n3 n4 n5 : Value) : ∀ pr ∈ factsH9f pa qa qc cn nv dv st ak ab an ax aa am ac al ao ad m0 m1 m2 m3 m4 m5 n0 n1 n2 n3 n4 n5, Stable pr := by
  unfold factsH9f
  refine List.forall_mem_cons.2 ⟨eqv_stable _, ?_⟩
  refine List.forall_mem_cons.2 ⟨eqv_stable _, ?_⟩
  refine List.forall_mem_cons.2 ⟨eqv_stable _, ?_⟩
  refine List.forall_mem_cons.2 ⟨eqv_stable _, ?_⟩
  refine List.forall_mem_cons.2 ⟨eqv_stable _, ?_⟩
  refine List.forall_mem_cons.2 ⟨eqv_stable _, ?_⟩
  refine List.forall_mem_cons.2 ⟨eqv_stable _, ?_⟩
  refine List.forall_mem_cons.2 ⟨eqv_stable _, ?_⟩
  refine List.forall_mem_cons.2 ⟨eqv_stable _, ?_⟩
  refine List.forall_mem_cons.2 ⟨eqv_stable _, ?_⟩
  refine List.forall_mem_cons.2 ⟨eqv_stable _, ?_⟩
  refine List.forall_mem_cons.2 ⟨eqv_stable _, ?_⟩
  refine List.forall_mem_cons.2 ⟨eqv_stable _, ?_⟩
  refine List.forall_mem_cons.2 ⟨eqv_stable _, ?_⟩
  refine List.forall_mem_cons.2 ⟨eqv_stable _, ?_⟩
  refine List.forall_mem_cons.2 ⟨eqv_stable _, ?_⟩
  refine List.forall_mem_cons.2 ⟨eqv_stable _, ?_⟩
  refine List.forall_mem_cons.2 ⟨eqv_stable _, ?_⟩
  refine List.forall_mem_cons.2 ⟨eqv_stable _, ?_⟩
  refine List.forall_mem_cons.2 ⟨eqv_stable _, ?_⟩
  refine List.forall_mem_cons.2 ⟨rowOne_stable _, ?_⟩
  refine List.forall_mem_cons.2 ⟨eqv_stable _, ?_⟩
  refine List.forall_mem_cons.2 ⟨eqv_stable _, ?_⟩
  refine List.forall_mem_cons.2 ⟨eqv_stable _, ?_⟩
  refine List.forall_mem_cons.2 ⟨eqv_stable _, ?_⟩
  refine List.forall_mem_cons.2 ⟨eqv_stable _, ?_⟩
  refine List.forall_mem_cons.2 ⟨eqv_stable _, ?_⟩
  refine List.forall_mem_cons.2 ⟨eqv_stable _, ?_⟩
  refine List.forall_mem_cons.2 ⟨eqv_stable _, ?_⟩
  refine List.forall_mem_cons.2 ⟨eqv_stable _, ?_⟩
  refine List.forall_mem_cons.2 ⟨eqv_stable _, ?_⟩
  refine List.forall_mem_cons.2 ⟨eqv_stable _, ?_⟩
  refine List.forall_mem_cons.2 ⟨eqv_stable _, ?_⟩
  refine List.forall_mem_cons.2 ⟨eqv_stable _, ?_⟩
  exact List.forall_mem_nil _

set_option maxRecDepth 100000 in
theorem allH9f (pa qa qc : Nat) (cn nv dv : Int) (st : Bool) (ak : Int) (ab : Bool) (an : Int) (ax : ByteArray) (aa : Option Addr) (am ac : Nat) (al : Option Addr) (ao ad : Nat) (m0 m1 m2 m3 m4 m5 n0 n1 n2 n3 n4 n5 : Value) (Q : Exit → Act → World → Prop) : ∀ i, i < 34 → (fun i => ∀ c w, BaseH9f pa qa qc cn nv dv st ak ab an ax aa am ac al ao ad m0 m1 m2 m3 m4 m5 n0 n1 n2 n3 n4 n5 c → WorldH9f pa qa qc cn nv dv st ak ab an ax aa am ac al ao ad m0 m1 m2 m3 m4 m5 n0 n1 n2 n3 n4 n5 w → (∀ q0 ∈ ancH9f i, factsAt (factsH9f pa qa qc cn nv dv st ak ab an ax aa am ac al ao ad m0 m1 m2 m3 m4 m5 n0 n1 n2 n3 n4 n5) q0 (val RH9f c q0) w) → Does Tryz.prog RH9f Q (factsAt (factsH9f pa qa qc cn nv dv st ak ab an ax aa am ac al ao ad m0 m1 m2 m3 m4 m5 n0 n1 n2 n3 n4 n5)) i c w) i := by
  refine below_succ ?_ (fun c w => oH9f_33 pa qa qc cn nv dv st ak ab an ax aa am ac al ao ad m0 m1 m2 m3 m4 m5 n0 n1 n2 n3 n4 n5 Q c w)
  refine below_succ ?_ (fun c w => oH9f_32 pa qa qc cn nv dv st ak ab an ax aa am ac al ao ad m0 m1 m2 m3 m4 m5 n0 n1 n2 n3 n4 n5 Q c w)
  refine below_succ ?_ (fun c w => oH9f_31 pa qa qc cn nv dv st ak ab an ax aa am ac al ao ad m0 m1 m2 m3 m4 m5 n0 n1 n2 n3 n4 n5 Q c w)
  refine below_succ ?_ (fun c w => oH9f_30 pa qa qc cn nv dv st ak ab an ax aa am ac al ao ad m0 m1 m2 m3 m4 m5 n0 n1 n2 n3 n4 n5 Q c w)
  refine below_succ ?_ (fun c w => oH9f_29 pa qa qc cn nv dv st ak ab an ax aa am ac al ao ad m0 m1 m2 m3 m4 m5 n0 n1 n2 n3 n4 n5 Q c w)
  refine below_succ ?_ (fun c w => oH9f_28 pa qa qc cn nv dv st ak ab an ax aa am ac al ao ad m0 m1 m2 m3 m4 m5 n0 n1 n2 n3 n4 n5 Q c w)
  refine below_succ ?_ (fun c w => oH9f_27 pa qa qc cn nv dv st ak ab an ax aa am ac al ao ad m0 m1 m2 m3 m4 m5 n0 n1 n2 n3 n4 n5 Q c w)
  refine below_succ ?_ (fun c w => oH9f_26 pa qa qc cn nv dv st ak ab an ax aa am ac al ao ad m0 m1 m2 m3 m4 m5 n0 n1 n2 n3 n4 n5 Q c w)
  refine below_succ ?_ (fun c w => oH9f_25 pa qa qc cn nv dv st ak ab an ax aa am ac al ao ad m0 m1 m2 m3 m4 m5 n0 n1 n2 n3 n4 n5 Q c w)
  refine below_succ ?_ (fun c w => oH9f_24 pa qa qc cn nv dv st ak ab an ax aa am ac al ao ad m0 m1 m2 m3 m4 m5 n0 n1 n2 n3 n4 n5 Q c w)
  refine below_succ ?_ (fun c w => oH9f_23 pa qa qc cn nv dv st ak ab an ax aa am ac al ao ad m0 m1 m2 m3 m4 m5 n0 n1 n2 n3 n4 n5 Q c w)
  refine below_succ ?_ (fun c w => oH9f_22 pa qa qc cn nv dv st ak ab an ax aa am ac al ao ad m0 m1 m2 m3 m4 m5 n0 n1 n2 n3 n4 n5 Q c w)
  refine below_succ ?_ (fun c w => oH9f_21 pa qa qc cn nv dv st ak ab an ax aa am ac al ao ad m0 m1 m2 m3 m4 m5 n0 n1 n2 n3 n4 n5 Q c w)
  refine below_succ ?_ (fun c w => oH9f_20 pa qa qc cn nv dv st ak ab an ax aa am ac al ao ad m0 m1 m2 m3 m4 m5 n0 n1 n2 n3 n4 n5 Q c w)
  refine below_succ ?_ (fun c w => oH9f_19 pa qa qc cn nv dv st ak ab an ax aa am ac al ao ad m0 m1 m2 m3 m4 m5 n0 n1 n2 n3 n4 n5 Q c w)
  refine below_succ ?_ (fun c w => oH9f_18 pa qa qc cn nv dv st ak ab an ax aa am ac al ao ad m0 m1 m2 m3 m4 m5 n0 n1 n2 n3 n4 n5 Q c w)
  refine below_succ ?_ (fun c w => oH9f_17 pa qa qc cn nv dv st ak ab an ax aa am ac al ao ad m0 m1 m2 m3 m4 m5 n0 n1 n2 n3 n4 n5 Q c w)
  refine below_succ ?_ (fun c w => oH9f_16 pa qa qc cn nv dv st ak ab an ax aa am ac al ao ad m0 m1 m2 m3 m4 m5 n0 n1 n2 n3 n4 n5 Q c w)
  refine below_succ ?_ (fun c w => oH9f_15 pa qa qc cn nv dv st ak ab an ax aa am ac al ao ad m0 m1 m2 m3 m4 m5 n0 n1 n2 n3 n4 n5 Q c w)
  refine below_succ ?_ (fun c w => oH9f_14 pa qa qc cn nv dv st ak ab an ax aa am ac al ao ad m0 m1 m2 m3 m4 m5 n0 n1 n2 n3 n4 n5 Q c w)
  refine below_succ ?_ (fun c w => oH9f_13 pa qa qc cn nv dv st ak ab an ax aa am ac al ao ad m0 m1 m2 m3 m4 m5 n0 n1 n2 n3 n4 n5 Q c w)
  refine below_succ ?_ (fun c w => oH9f_12 pa qa qc cn nv dv st ak ab an ax aa am ac al ao ad m0 m1 m2 m3 m4 m5 n0 n1 n2 n3 n4 n5 Q c w)
  refine below_succ ?_ (fun c w => oH9f_11 pa qa qc cn nv dv st ak ab an ax aa am ac al ao ad m0 m1 m2 m3 m4 m5 n0 n1 n2 n3 n4 n5 Q c w)
  refine below_succ ?_ (fun c w => oH9f_10 pa qa qc cn nv dv st ak ab an ax aa am ac al ao ad m0 m1 m2 m3 m4 m5 n0 n1 n2 n3 n4 n5 Q c w)
  refine below_succ ?_ (fun c w => oH9f_9 pa qa qc cn nv dv st ak ab an ax aa am ac al ao ad m0 m1 m2 m3 m4 m5 n0 n1 n2 n3 n4 n5 Q c w)
  refine below_succ ?_ (fun c w => oH9f_8 pa qa qc cn nv dv st ak ab an ax aa am ac al ao ad m0 m1 m2 m3 m4 m5 n0 n1 n2 n3 n4 n5 Q c w)
  refine below_succ ?_ (fun c w => oH9f_7 pa qa qc cn nv dv st ak ab an ax aa am ac al ao ad m0 m1 m2 m3 m4 m5 n0 n1 n2 n3 n4 n5 Q c w)
  refine below_succ ?_ (fun c w => oH9f_6 pa qa qc cn nv dv st ak ab an ax aa am ac al ao ad m0 m1 m2 m3 m4 m5 n0 n1 n2 n3 n4 n5 Q c w)
  refine below_succ ?_ (fun c w => oH9f_5 pa qa qc cn nv dv st ak ab an ax aa am ac al ao ad m0 m1 m2 m3 m4 m5 n0 n1 n2 n3 n4 n5 Q c w)
  refine below_succ ?_ (fun c w => oH9f_4 pa qa qc cn nv dv st ak ab an ax aa am ac al ao ad m0 m1 m2 m3 m4 m5 n0 n1 n2 n3 n4 n5 Q c w)
  refine below_succ ?_ (fun c w => oH9f_3 pa qa qc cn nv dv st ak ab an ax aa am ac al ao ad m0 m1 m2 m3 m4 m5 n0 n1 n2 n3 n4 n5 Q c w)
  refine below_succ ?_ (fun c w => oH9f_2 pa qa qc cn nv dv st ak ab an ax aa am ac al ao ad m0 m1 m2 m3 m4 m5 n0 n1 n2 n3 n4 n5 Q c w)
  refine below_succ ?_ (fun c w => oH9f_1 pa qa qc cn nv dv st ak ab an ax aa am ac al ao ad m0 m1 m2 m3 m4 m5 n0 n1 n2 n3 n4 n5 Q c w)
  refine below_succ ?_ (fun c w => oH9f_0 pa qa qc cn nv dv st ak ab an ax aa am ac al ao ad m0 m1 m2 m3 m4 m5 n0 n1 n2 n3 n4 n5 Q c w)
  exact below_zero

theorem regionH9f (pa qa qc : Nat) (cn nv dv : Int) (st : Bool) (ak : Int) (ab : Bool) (an : Int) (ax : ByteArray) (aa : Option Addr) (am ac : Nat) (al : Option Addr) (ao ad : Nat) (m0 m1 m2 m3 m4 m5 n0 n1 n2 n3 n4 n5 : Value) (Q : Exit → Act → World → Prop) (base : Act) (w0 : World) (hsz : base.tmps.size = 78) (hb : BaseH9f pa qa qc cn nv dv st ak ab an ax aa am ac al ao ad m0 m1 m2 m3 m4 m5 n0 n1 n2 n3 n4 n5 base)
    (hW : ∀ w, Below w0.heap.size w0 w → WorldH9f pa qa qc cn nv dv st ak ab an ax aa am ac al ao ad m0 m1 m2 m3 m4 m5 n0 n1 n2 n3 n4 n5 w) (hQ : ∀ c w, Same RH9f base c → Below w0.heap.size w0 w → c.eval (.tmp 69) = .bool false → Q .normal c w) : (Code.region 9 RH9f true).wp Tryz.prog Q base w0 := by
  refine facts_rule (A := ancH9f) (F := factsAt (factsH9f pa qa qc cn nv dv st ak ab an ax aa am ac al ao ad m0 m1 m2 m3 m4 m5 n0 n1 n2 n3 n4 n5)) (by kernel_rfl) (by rw [hsz]; kernel_rfl) (fun i v w w' => factsAt_stable (stableH9f pa qa qc cn nv dv st ak ab an ax aa am ac al ao ad m0 m1 m2 m3 m4 m5 n0 n1 n2 n3 n4 n5) i v w w') ?_ ?_
  · intro i hi c w hS hB hF
    exact allH9f pa qa qc cn nv dv st ak ab an ax aa am ac al ao ad m0 m1 m2 m3 m4 m5 n0 n1 n2 n3 n4 n5 Q i (by rwa [show RH9f.size = 34 by kernel_rfl] at hi) c w ⟨(same_eval hS (by kernel_rfl)).trans hb.t1, (same_eval hS (by kernel_rfl)).trans hb.t3, (same_eval hS (by kernel_rfl)).trans hb.t6, (same_eval hS (by kernel_rfl)).trans hb.t4, (same_eval hS (by kernel_rfl)).trans hb.t5, (same_eval hS (by kernel_rfl)).trans hb.t7, (same_eval hS (by kernel_rfl)).trans hb.t8⟩ (hW w hB) hF
  · intro c w hS hB hF
    exact hQ c w hS hB (fact_at (p := eqv (.bool false)) (by kernel_rfl) rfl (hF 33 (by rw [show RH9f.size = 34 by kernel_rfl]; omega)))
end Go.Proofs.YtbpmhgcjefpigaaGreatDoor
