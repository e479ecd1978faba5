/- A statement that reads, calls and lays rows of its own: operation by operation, in whatever order. -/
import Derived.Test.YtbpmhgcjefpigaaGreatDoorOrders7t
namespace Go.Proofs.YtbpmhgcjefpigaaGreatDoor
open Go.RowKit Go.WideShapes Go.Shelf
set_option linter.unusedVariables false
set_option linter.unusedSimpArgs false

noncomputable def RO7f : Array Oper := regionAt Tryz.f4 7
def ancO7f (i : Nat) : List Nat := ([[], [], [0, 1], [], [2, 3], [4], [5], [5], [5, 6, 7], [5], [5, 9], [5, 8, 10], [5, 11], [12], [13], [13], [13, 14, 15], [13], [13], [13, 17, 18], [13, 19], [13, 20], [21], [21, 22], [13, 21, 23], [13, 16, 24], [13, 25], [26], [27], [27], [27, 28, 29], [27, 30], [31], [32], [32], [32, 33, 34], [32, 35], [36], [37], [37, 38], [39]] : List (List Nat)).getD i []
def factsO7f (pa pb qa qb : Nat) (wv : Int) (ak : Int) (ab : Bool) (an : Int) (ax : ByteArray) (aa : Option Addr) (am ac : Nat) (al : Option Addr) (ao ad : Nat) (bk : Int) (bb : Bool) (bn : Int) (bx : ByteArray) (ba : Option Addr) (bm bc : Nat) (bl : Option Addr) (bo bd : Nat) (m0 m1 m2 m3 m4 m5 n0 n1 n2 n3 n4 n5 : Value) : List (Value → World → Prop) :=
  [eqv (.agg #[m0, m1, m2, m3, m4, m5]), eqv (.agg #[n0, n1, n2, n3, n4, n5]), eqv (.int .i64 wv), eqv (.int .i64 wv), eqv (.bool true), eqv (.bool true), eqv (.agg #[n0, n1, n2, n3, n4, n5]), eqv (.agg #[m0, m1, m2, m3, m4, m5]), eqv (.int .i64 (-wv)), eqv (.int .i64 wv), eqv (.int .i64 (-wv)), eqv (.bool true), eqv (.bool true), eqv (.bool true), eqv (.agg #[m0, m1, m2, m3, m4, m5]), eqv (.agg #[n0, n1, n2, n3, n4, n5]), eqv (.bool false), eqv (.agg #[.int .i64 ak, .bool ab, .int .i64 an, .string ax, .slice aa am ac, .slice al ao ad]), eqv (.agg #[.int .i64 bk, .bool bb, .int .i64 bn, .string bx, .slice ba bm bc, .slice bl bo bd]), rowOf #[.int .i64 ak, .bool ab, .int .i64 an, .string ax, .slice aa am ac, .slice al ao ad, .int .i64 bk, .bool bb, .int .i64 bn, .string bx, .slice ba bm bc, .slice bl bo bd], eqv (.bool false), eqv (.bool false), eqv undef, eqv undef, eqv (.bool false), eqv (.bool true), eqv (.bool true), eqv (.bool true), eqv (.agg #[m0, m1, m2, m3, m4, m5]), eqv (.agg #[.int .i64 ak, .bool ab, .int .i64 an, .string ax, .slice aa am ac, .slice al ao ad]), eqv (.bool true), eqv (.bool true), eqv (.bool true), eqv (.agg #[n0, n1, n2, n3, n4, n5]), eqv (.agg #[.int .i64 bk, .bool bb, .int .i64 bn, .string bx, .slice ba bm bc, .slice bl bo bd]), eqv (.bool true), eqv (.bool true), eqv (.bool true), eqv (.bool true), eqv (.bool true), eqv (.bool true)]
structure BaseO7f (pa pb qa qb : Nat) (wv : Int) (ak : Int) (ab : Bool) (an : Int) (ax : ByteArray) (aa : Option Addr) (am ac : Nat) (al : Option Addr) (ao ad : Nat) (bk : Int) (bb : Bool) (bn : Int) (bx : ByteArray) (ba : Option Addr) (bm bc : Nat) (bl : Option Addr) (bo bd : Nat) (m0 m1 m2 m3 m4 m5 n0 n1 n2 n3 n4 n5 : Value) (c : Act) : Prop where
  t2 : c.eval (.tmp 2) = .pointer (some ⟨pa, 0, none⟩)
  t3 : c.eval (.tmp 3) = .pointer (some ⟨pb, 0, none⟩)
  t5 : c.eval (.tmp 5) = .pointer (some ⟨qa, 0, none⟩)
  t6 : c.eval (.tmp 6) = .pointer (some ⟨qb, 0, none⟩)
  t7 : c.eval (.tmp 7) = .int .i64 wv
structure WorldO7f (pa pb qa qb : Nat) (wv : Int) (ak : Int) (ab : Bool) (an : Int) (ax : ByteArray) (aa : Option Addr) (am ac : Nat) (al : Option Addr) (ao ad : Nat) (bk : Int) (bb : Bool) (bn : Int) (bx : ByteArray) (ba : Option Addr) (bm bc : Nat) (bl : Option Addr) (bo bd : Nat) (m0 m1 m2 m3 m4 m5 n0 n1 n2 n3 n4 n5 : Value) (w : World) : Prop where
  xa0 : w.cell? ⟨pa, 0, none⟩ = some (.int .i64 ak)
  xa1 : w.cell? ⟨pa, 1, none⟩ = some (.bool ab)
  xa2 : w.cell? ⟨pa, 2, none⟩ = some (.int .i64 an)
  xa3 : w.cell? ⟨pa, 3, none⟩ = some (.string ax)
  xa4 : w.cell? ⟨pa, 4, none⟩ = some (.slice aa am ac)
  xa5 : w.cell? ⟨pa, 5, none⟩ = some (.slice al ao ad)
  xb0 : w.cell? ⟨pb, 0, none⟩ = some (.int .i64 bk)
  xb1 : w.cell? ⟨pb, 1, none⟩ = some (.bool bb)
  xb2 : w.cell? ⟨pb, 2, none⟩ = some (.int .i64 bn)
  xb3 : w.cell? ⟨pb, 3, none⟩ = some (.string bx)
  xb4 : w.cell? ⟨pb, 4, none⟩ = some (.slice ba bm bc)
  xb5 : w.cell? ⟨pb, 5, none⟩ = some (.slice bl bo bd)
  xm0 : w.cell? ⟨qa, 0, none⟩ = some (m0)
  xm1 : w.cell? ⟨qa, 1, none⟩ = some (m1)
  xm2 : w.cell? ⟨qa, 2, none⟩ = some (m2)
  xm3 : w.cell? ⟨qa, 3, none⟩ = some (m3)
  xm4 : w.cell? ⟨qa, 4, none⟩ = some (m4)
  xm5 : w.cell? ⟨qa, 5, none⟩ = some (m5)
  xn0 : w.cell? ⟨qb, 0, none⟩ = some (n0)
  xn1 : w.cell? ⟨qb, 1, none⟩ = some (n1)
  xn2 : w.cell? ⟨qb, 2, none⟩ = some (n2)
  xn3 : w.cell? ⟨qb, 3, none⟩ = some (n3)
  xn4 : w.cell? ⟨qb, 4, none⟩ = some (n4)
  xn5 : w.cell? ⟨qb, 5, none⟩ = some (n5)
  lo : -1 ≤ wv
  hi : wv ≤ 1
  k1 : Calls Tryz.prog 31 #[.agg #[m0, m1, m2, m3, m4, m5], .agg #[n0, n1, n2, n3, n4, n5]] w fun e w' => e = .returned (.int .i64 wv) ∧ Below w.heap.size w w'
  k2 : Calls Tryz.prog 31 #[.agg #[n0, n1, n2, n3, n4, n5], .agg #[m0, m1, m2, m3, m4, m5]] w fun e w' => e = .returned (.int .i64 (-wv)) ∧ Below w.heap.size w w'
  k3 : Calls Tryz.prog 32 #[.agg #[m0, m1, m2, m3, m4, m5], .agg #[n0, n1, n2, n3, n4, n5]] w fun e w' => e = .returned (.bool false) ∧ Below w.heap.size w w'
  k4 : ∀ t, w.heap[t]? = some (.cells #[.int .i64 ak, .bool ab, .int .i64 an, .string ax, .slice aa am ac, .slice al ao ad, .int .i64 bk, .bool bb, .int .i64 bn, .string bx, .slice ba bm bc, .slice bl bo bd] 26 (0, 0)) → Calls Tryz.prog 21 #[.slice (some ⟨t, 0, none⟩) 2 2] w fun e w' => e = .returned (.bool false) ∧ Below w.heap.size w w'
  k5 : Calls Tryz.prog 29 #[.agg #[m0, m1, m2, m3, m4, m5], .agg #[.int .i64 ak, .bool ab, .int .i64 an, .string ax, .slice aa am ac, .slice al ao ad]] w fun e w' => e = .returned (.bool true) ∧ Below w.heap.size w w'
  k6 : Calls Tryz.prog 29 #[.agg #[n0, n1, n2, n3, n4, n5], .agg #[.int .i64 bk, .bool bb, .int .i64 bn, .string bx, .slice ba bm bc, .slice bl bo bd]] w fun e w' => e = .returned (.bool true) ∧ Below w.heap.size w w'
  k7 : Calls Tryz.prog 16 #[] w fun e w' => e = .returned (.bool true) ∧ Below w.heap.size w w'

def stepO7f (pa pb qa qb : Nat) (wv : Int) (ak : Int) (ab : Bool) (an : Int) (ax : ByteArray) (aa : Option Addr) (am ac : Nat) (al : Option Addr) (ao ad : Nat) (bk : Int) (bb : Bool) (bn : Int) (bx : ByteArray) (ba : Option Addr) (bm bc : Nat) (bl : Option Addr) (bo bd : Nat) (m0 m1 m2 m3 m4 m5 n0 n1 n2 n3 n4 n5 : Value) (Q : Exit → Act → World → Prop) (i : Nat) : Prop := ∀ (c : Act) (w : World), BaseO7f pa pb qa qb wv ak ab an ax aa am ac al ao ad bk bb bn bx ba bm bc bl bo bd m0 m1 m2 m3 m4 m5 n0 n1 n2 n3 n4 n5 c → WorldO7f pa pb qa qb wv ak ab an ax aa am ac al ao ad bk bb bn bx ba bm bc bl bo bd m0 m1 m2 m3 m4 m5 n0 n1 n2 n3 n4 n5 w → (∀ q0 ∈ ancO7f i, factsAt (factsO7f pa pb qa qb wv ak ab an ax aa am ac al ao ad bk bb bn bx ba bm bc bl bo bd m0 m1 m2 m3 m4 m5 n0 n1 n2 n3 n4 n5) q0 (val RO7f c q0) w) → Does Tryz.prog RO7f Q (factsAt (factsO7f pa pb qa qb wv ak ab an ax aa am ac al ao ad bk bb bn bx ba bm bc bl bo bd m0 m1 m2 m3 m4 m5 n0 n1 n2 n3 n4 n5)) i c w
theorem wnO7f {i : Nat} {o : Oper} {c : Act} (ho : RO7f[i]? = some o) (h : o.guard = none) : Region.wanted o (yielded RO7f c.tmps) = true := want_none h
theorem weO7f {i g : Nat} {b : Bool} {o : Oper} {c : Act} (ho : RO7f[i]? = some o) (h : o.guard = some (g, b)) (hg : val RO7f c g = .bool b) : Region.wanted o (yielded RO7f c.tmps) = true := want_eq h hg
section
variable (pa pb qa qb : Nat) (wv : Int) (ak : Int) (ab : Bool) (an : Int) (ax : ByteArray) (aa : Option Addr) (am ac : Nat) (al : Option Addr) (ao ad : Nat) (bk : Int) (bb : Bool) (bn : Int) (bx : ByteArray) (ba : Option Addr) (bm bc : Nat) (bl : Option Addr) (bo bd : Nat) (m0 m1 m2 m3 m4 m5 n0 n1 n2 n3 n4 n5 : Value) (Q : Exit → Act → World → Prop)
set_option maxRecDepth 10000 in
theorem oO7f_0 : stepO7f pa pb qa qb wv ak ab an ax aa am ac al ao ad bk bb bn bx ba bm bc bl bo bd m0 m1 m2 m3 m4 m5 n0 n1 n2 n3 n4 n5 Q 0 := by
  intro c w hb hW hF
  have ho : RO7f[0]? = some ({ dst := some 25, op := Op.load 26 (Operand.tmp 5), type := 26, pos := "law.go:116", after := #[], guard := none } : Oper) := by kernel_rfl
  have e5 := hb.t5
  have hw := wnO7f (c := c) ho rfl
  have ec : ∀ v, c.eval (.const v) = v := fun _ => rfl
  have ef : ∀ f, c.eval (.func f) = .func (.func f) #[] #[] := fun _ => rfl
  have xm0 := hW.xm0
  have xm1 := hW.xm1
  have xm2 := hW.xm2
  have xm3 := hW.xm3
  have xm4 := hW.xm4
  have xm5 := hW.xm5
  refine does_value ho hw (v := .agg #[m0, m1, m2, m3, m4, m5]) ?_ rfl (Below.refl _ _)
  generalize c.eval = ρ at *
  clear hF hb hW hw ho
  go_simp

set_option maxRecDepth 10000 in
theorem oO7f_1 : stepO7f pa pb qa qb wv ak ab an ax aa am ac al ao ad bk bb bn bx ba bm bc bl bo bd m0 m1 m2 m3 m4 m5 n0 n1 n2 n3 n4 n5 Q 1 := by
  intro c w hb hW hF
  have ho : RO7f[1]? = some ({ dst := some 26, op := Op.load 26 (Operand.tmp 6), type := 26, pos := "law.go:116", after := #[], guard := none } : Oper) := by kernel_rfl
  have e6 := hb.t6
  have hw := wnO7f (c := c) ho rfl
  have ec : ∀ v, c.eval (.const v) = v := fun _ => rfl
  have ef : ∀ f, c.eval (.func f) = .func (.func f) #[] #[] := fun _ => rfl
  have xn0 := hW.xn0
  have xn1 := hW.xn1
  have xn2 := hW.xn2
  have xn3 := hW.xn3
  have xn4 := hW.xn4
  have xn5 := hW.xn5
  refine does_value ho hw (v := .agg #[n0, n1, n2, n3, n4, n5]) ?_ rfl (Below.refl _ _)
  generalize c.eval = ρ at *
  clear hF hb hW hw ho
  go_simp

set_option maxRecDepth 10000 in
theorem oO7f_2 : stepO7f pa pb qa qb wv ak ab an ax aa am ac al ao ad bk bb bn bx ba bm bc bl bo bd m0 m1 m2 m3 m4 m5 n0 n1 n2 n3 n4 n5 Q 2 := by
  intro c w hb hW hF
  have ho : RO7f[2]? = some ({ dst := some 27, op := Op.call { callee := Callee.value (Operand.func 31), args := #[Operand.tmp 25, Operand.tmp 26], argTypes := #[26, 26] }, type := 3, pos := "law.go:116", after := #[{ on := 0, ground := Ground.data }, { on := 1, ground := Ground.data }], guard := none } : Oper) := by kernel_rfl
  have e25 : c.eval (.tmp 25) = .agg #[m0, m1, m2, m3, m4, m5] := fact_at (p := eqv (.agg #[m0, m1, m2, m3, m4, m5])) (by kernel_rfl) rfl (hF 0 (by decide))
  have e26 : c.eval (.tmp 26) = .agg #[n0, n1, n2, n3, n4, n5] := fact_at (p := eqv (.agg #[n0, n1, n2, n3, n4, n5])) (by kernel_rfl) rfl (hF 1 (by decide))
  have hw := wnO7f (c := c) ho rfl
  have ec : ∀ v, c.eval (.const v) = v := fun _ => rfl
  have ef : ∀ f, c.eval (.func f) = .func (.func f) #[] #[] := fun _ => rfl
  refine does_call ho hw (f := 31) (args := #[.agg #[m0, m1, m2, m3, m4, m5], .agg #[n0, n1, n2, n3, n4, n5]]) ?_ (Calls.mono (hW.k1) fun e w' ⟨h1, h2⟩ => ⟨_, h1, rfl, h2⟩)
  generalize c.eval = ρ at *
  clear hF hb hW hw ho
  go_simp

set_option maxRecDepth 10000 in
theorem oO7f_3 : stepO7f pa pb qa qb wv ak ab an ax aa am ac al ao ad bk bb bn bx ba bm bc bl bo bd m0 m1 m2 m3 m4 m5 n0 n1 n2 n3 n4 n5 Q 3 := by
  intro c w hb hW hF
  have ho : RO7f[3]? = some ({ dst := some 28, op := Op.move (Operand.tmp 7), type := 3, pos := "law.go:116", after := #[], guard := none } : Oper) := by kernel_rfl
  have e7 := hb.t7
  have hw := wnO7f (c := c) ho rfl
  have ec : ∀ v, c.eval (.const v) = v := fun _ => rfl
  have ef : ∀ f, c.eval (.func f) = .func (.func f) #[] #[] := fun _ => rfl
  refine does_value ho hw (v := .int .i64 wv) ?_ rfl (Below.refl _ _)
  generalize c.eval = ρ at *
  clear hF hb hW hw ho
  go_simp

set_option maxRecDepth 10000 in
theorem oO7f_4 : stepO7f pa pb qa qb wv ak ab an ax aa am ac al ao ad bk bb bn bx ba bm bc bl bo bd m0 m1 m2 m3 m4 m5 n0 n1 n2 n3 n4 n5 Q 4 := by
  intro c w hb hW hF
  have ho : RO7f[4]? = some ({ dst := some 29, op := Op.binOp BinOp.eql 3 (Operand.tmp 27) (Operand.tmp 28) 3, type := 4, pos := "law.go:116", after := #[{ on := 2, ground := Ground.data }, { on := 3, ground := Ground.data }], guard := none } : Oper) := by kernel_rfl
  have e27 : c.eval (.tmp 27) = .int .i64 wv := fact_at (p := eqv (.int .i64 wv)) (by kernel_rfl) rfl (hF 2 (by decide))
  have e28 : c.eval (.tmp 28) = .int .i64 wv := fact_at (p := eqv (.int .i64 wv)) (by kernel_rfl) rfl (hF 3 (by decide))
  have hw := wnO7f (c := c) ho rfl
  have ec : ∀ v, c.eval (.const v) = v := fun _ => rfl
  have ef : ∀ f, c.eval (.func f) = .func (.func f) #[] #[] := fun _ => rfl
  refine does_value ho hw (v := .bool true) ?_ rfl (Below.refl _ _)
  generalize c.eval = ρ at *
  clear hF hb hW hw ho
  go_simp

set_option maxRecDepth 10000 in
theorem oO7f_5 : stepO7f pa pb qa qb wv ak ab an ax aa am ac al ao ad bk bb bn bx ba bm bc bl bo bd m0 m1 m2 m3 m4 m5 n0 n1 n2 n3 n4 n5 Q 5 := by
  intro c w hb hW hF
  have ho : RO7f[5]? = some ({ dst := some 30, op := Op.move (Operand.tmp 29), type := 4, pos := "law.go:116", after := #[{ on := 4, ground := Ground.data }, { on := 2, ground := Ground.chain }], guard := none } : Oper) := by kernel_rfl
  have e29 : c.eval (.tmp 29) = .bool true := fact_at (p := eqv (.bool true)) (by kernel_rfl) rfl (hF 4 (by decide))
  have hw := wnO7f (c := c) ho rfl
  have ec : ∀ v, c.eval (.const v) = v := fun _ => rfl
  have ef : ∀ f, c.eval (.func f) = .func (.func f) #[] #[] := fun _ => rfl
  refine does_value ho hw (v := .bool true) ?_ rfl (Below.refl _ _)
  generalize c.eval = ρ at *
  clear hF hb hW hw ho
  go_simp

set_option maxRecDepth 10000 in
theorem oO7f_6 : stepO7f pa pb qa qb wv ak ab an ax aa am ac al ao ad bk bb bn bx ba bm bc bl bo bd m0 m1 m2 m3 m4 m5 n0 n1 n2 n3 n4 n5 Q 6 := by
  intro c w hb hW hF
  have ho : RO7f[6]? = some ({ dst := some 31, op := Op.load 26 (Operand.tmp 6), type := 26, pos := "law.go:116", after := #[{ on := 5, ground := Ground.guard }], guard := some (5, true) } : Oper) := by kernel_rfl
  have e6 := hb.t6
  have hg : val RO7f c 5 = .bool true := hF 5 (by decide)
  have hw := weO7f ho rfl hg
  have ec : ∀ v, c.eval (.const v) = v := fun _ => rfl
  have ef : ∀ f, c.eval (.func f) = .func (.func f) #[] #[] := fun _ => rfl
  have xn0 := hW.xn0
  have xn1 := hW.xn1
  have xn2 := hW.xn2
  have xn3 := hW.xn3
  have xn4 := hW.xn4
  have xn5 := hW.xn5
  refine does_value ho hw (v := .agg #[n0, n1, n2, n3, n4, n5]) ?_ rfl (Below.refl _ _)
  generalize c.eval = ρ at *
  clear hF hb hW hw ho hg
  go_simp

set_option maxRecDepth 10000 in
theorem oO7f_7 : stepO7f pa pb qa qb wv ak ab an ax aa am ac al ao ad bk bb bn bx ba bm bc bl bo bd m0 m1 m2 m3 m4 m5 n0 n1 n2 n3 n4 n5 Q 7 := by
  intro c w hb hW hF
  have ho : RO7f[7]? = some ({ dst := some 32, op := Op.load 26 (Operand.tmp 5), type := 26, pos := "law.go:116", after := #[{ on := 5, ground := Ground.guard }], guard := some (5, true) } : Oper) := by kernel_rfl
  have e5 := hb.t5
  have hg : val RO7f c 5 = .bool true := hF 5 (by decide)
  have hw := weO7f ho rfl hg
  have ec : ∀ v, c.eval (.const v) = v := fun _ => rfl
  have ef : ∀ f, c.eval (.func f) = .func (.func f) #[] #[] := fun _ => rfl
  have xm0 := hW.xm0
  have xm1 := hW.xm1
  have xm2 := hW.xm2
  have xm3 := hW.xm3
  have xm4 := hW.xm4
  have xm5 := hW.xm5
  refine does_value ho hw (v := .agg #[m0, m1, m2, m3, m4, m5]) ?_ rfl (Below.refl _ _)
  generalize c.eval = ρ at *
  clear hF hb hW hw ho hg
  go_simp

set_option maxRecDepth 10000 in
theorem oO7f_8 : stepO7f pa pb qa qb wv ak ab an ax aa am ac al ao ad bk bb bn bx ba bm bc bl bo bd m0 m1 m2 m3 m4 m5 n0 n1 n2 n3 n4 n5 Q 8 := by
  intro c w hb hW hF
  have ho : RO7f[8]? = some ({ dst := some 33, op := Op.call { callee := Callee.value (Operand.func 31), args := #[Operand.tmp 31, Operand.tmp 32], argTypes := #[26, 26] }, type := 3, pos := "law.go:116", after := #[{ on := 6, ground := Ground.data }, { on := 7, ground := Ground.data }, { on := 5, ground := Ground.chain }, { on := 5, ground := Ground.guard }], guard := some (5, true) } : Oper) := by kernel_rfl
  have e31 : c.eval (.tmp 31) = .agg #[n0, n1, n2, n3, n4, n5] := fact_at (p := eqv (.agg #[n0, n1, n2, n3, n4, n5])) (by kernel_rfl) rfl (hF 6 (by decide))
  have e32 : c.eval (.tmp 32) = .agg #[m0, m1, m2, m3, m4, m5] := fact_at (p := eqv (.agg #[m0, m1, m2, m3, m4, m5])) (by kernel_rfl) rfl (hF 7 (by decide))
  have hg : val RO7f c 5 = .bool true := hF 5 (by decide)
  have hw := weO7f ho rfl hg
  have ec : ∀ v, c.eval (.const v) = v := fun _ => rfl
  have ef : ∀ f, c.eval (.func f) = .func (.func f) #[] #[] := fun _ => rfl
  refine does_call ho hw (f := 31) (args := #[.agg #[n0, n1, n2, n3, n4, n5], .agg #[m0, m1, m2, m3, m4, m5]]) ?_ (Calls.mono (hW.k2) fun e w' ⟨h1, h2⟩ => ⟨_, h1, rfl, h2⟩)
  generalize c.eval = ρ at *
  clear hF hb hW hw ho hg
  go_simp

set_option maxRecDepth 10000 in
theorem oO7f_9 : stepO7f pa pb qa qb wv ak ab an ax aa am ac al ao ad bk bb bn bx ba bm bc bl bo bd m0 m1 m2 m3 m4 m5 n0 n1 n2 n3 n4 n5 Q 9 := by
  intro c w hb hW hF
  have ho : RO7f[9]? = some ({ dst := some 34, op := Op.move (Operand.tmp 7), type := 3, pos := "law.go:116", after := #[{ on := 5, ground := Ground.guard }], guard := some (5, true) } : Oper) := by kernel_rfl
  have e7 := hb.t7
  have hg : val RO7f c 5 = .bool true := hF 5 (by decide)
  have hw := weO7f ho rfl hg
  have ec : ∀ v, c.eval (.const v) = v := fun _ => rfl
  have ef : ∀ f, c.eval (.func f) = .func (.func f) #[] #[] := fun _ => rfl
  refine does_value ho hw (v := .int .i64 wv) ?_ rfl (Below.refl _ _)
  generalize c.eval = ρ at *
  clear hF hb hW hw ho hg
  go_simp

set_option maxRecDepth 10000 in
theorem oO7f_10 : stepO7f pa pb qa qb wv ak ab an ax aa am ac al ao ad bk bb bn bx ba bm bc bl bo bd m0 m1 m2 m3 m4 m5 n0 n1 n2 n3 n4 n5 Q 10 := by
  intro c w hb hW hF
  have ho : RO7f[10]? = some ({ dst := some 35, op := Op.unOp UnOp.neg 3 (Operand.tmp 34), type := 3, pos := "law.go:116", after := #[{ on := 9, ground := Ground.data }, { on := 5, ground := Ground.guard }], guard := some (5, true) } : Oper) := by kernel_rfl
  have e34 : c.eval (.tmp 34) = .int .i64 wv := fact_at (p := eqv (.int .i64 wv)) (by kernel_rfl) rfl (hF 9 (by decide))
  have hg : val RO7f c 5 = .bool true := hF 5 (by decide)
  have hw := weO7f ho rfl hg
  have ec : ∀ v, c.eval (.const v) = v := fun _ => rfl
  have ef : ∀ f, c.eval (.func f) = .func (.func f) #[] #[] := fun _ => rfl
  have lo := hW.lo
  have hi := hW.hi
  refine does_value ho hw (v := .int .i64 (-wv)) ?_ rfl (Below.refl _ _)
  generalize c.eval = ρ at *
  clear hF hb hW hw ho hg
  go_simp
  rw [IntKind.wrap_i64]; omega

set_option maxRecDepth 10000 in
theorem oO7f_11 : stepO7f pa pb qa qb wv ak ab an ax aa am ac al ao ad bk bb bn bx ba bm bc bl bo bd m0 m1 m2 m3 m4 m5 n0 n1 n2 n3 n4 n5 Q 11 := by
  intro c w hb hW hF
  have ho : RO7f[11]? = some ({ dst := some 36, op := Op.binOp BinOp.eql 3 (Operand.tmp 33) (Operand.tmp 35) 3, type := 4, pos := "law.go:116", after := #[{ on := 8, ground := Ground.data }, { on := 10, ground := Ground.data }, { on := 5, ground := Ground.guard }], guard := some (5, true) } : Oper) := by kernel_rfl
  have e33 : c.eval (.tmp 33) = .int .i64 (-wv) := fact_at (p := eqv (.int .i64 (-wv))) (by kernel_rfl) rfl (hF 8 (by decide))
  have e35 : c.eval (.tmp 35) = .int .i64 (-wv) := fact_at (p := eqv (.int .i64 (-wv))) (by kernel_rfl) rfl (hF 10 (by decide))
  have hg : val RO7f c 5 = .bool true := hF 5 (by decide)
  have hw := weO7f ho rfl hg
  have ec : ∀ v, c.eval (.const v) = v := fun _ => rfl
  have ef : ∀ f, c.eval (.func f) = .func (.func f) #[] #[] := fun _ => rfl
  refine does_value ho hw (v := .bool true) ?_ rfl (Below.refl _ _)
  generalize c.eval = ρ at *
  clear hF hb hW hw ho hg
  go_simp

set_option maxRecDepth 10000 in
theorem oO7f_12 : stepO7f pa pb qa qb wv ak ab an ax aa am ac al ao ad bk bb bn bx ba bm bc bl bo bd m0 m1 m2 m3 m4 m5 n0 n1 n2 n3 n4 n5 Q 12 := by
  intro c w hb hW hF
  have ho : RO7f[12]? = some ({ dst := some 37, op := Op.pick (Operand.tmp 30) (Operand.tmp 36) (Operand.const (Value.bool false)), type := 4, pos := "law.go:116", after := #[{ on := 5, ground := Ground.data }, { on := 11, ground := Ground.data }], guard := none } : Oper) := by kernel_rfl
  have e30 : c.eval (.tmp 30) = .bool true := fact_at (p := eqv (.bool true)) (by kernel_rfl) rfl (hF 5 (by decide))
  have e36 : c.eval (.tmp 36) = .bool true := fact_at (p := eqv (.bool true)) (by kernel_rfl) rfl (hF 11 (by decide))
  have hw := wnO7f (c := c) ho rfl
  have ec : ∀ v, c.eval (.const v) = v := fun _ => rfl
  have ef : ∀ f, c.eval (.func f) = .func (.func f) #[] #[] := fun _ => rfl
  refine does_value ho hw (v := .bool true) ?_ rfl (Below.refl _ _)
  generalize c.eval = ρ at *
  clear hF hb hW hw ho
  go_simp

set_option maxRecDepth 10000 in
theorem oO7f_13 : stepO7f pa pb qa qb wv ak ab an ax aa am ac al ao ad bk bb bn bx ba bm bc bl bo bd m0 m1 m2 m3 m4 m5 n0 n1 n2 n3 n4 n5 Q 13 := by
  intro c w hb hW hF
  have ho : RO7f[13]? = some ({ dst := some 38, op := Op.move (Operand.tmp 37), type := 4, pos := "law.go:116", after := #[{ on := 12, ground := Ground.data }, { on := 8, ground := Ground.chain }], guard := none } : Oper) := by kernel_rfl
  have e37 : c.eval (.tmp 37) = .bool true := fact_at (p := eqv (.bool true)) (by kernel_rfl) rfl (hF 12 (by decide))
  have hw := wnO7f (c := c) ho rfl
  have ec : ∀ v, c.eval (.const v) = v := fun _ => rfl
  have ef : ∀ f, c.eval (.func f) = .func (.func f) #[] #[] := fun _ => rfl
  refine does_value ho hw (v := .bool true) ?_ rfl (Below.refl _ _)
  generalize c.eval = ρ at *
  clear hF hb hW hw ho
  go_simp

set_option maxRecDepth 10000 in
theorem oO7f_14 : stepO7f pa pb qa qb wv ak ab an ax aa am ac al ao ad bk bb bn bx ba bm bc bl bo bd m0 m1 m2 m3 m4 m5 n0 n1 n2 n3 n4 n5 Q 14 := by
  intro c w hb hW hF
  have ho : RO7f[14]? = some ({ dst := some 39, op := Op.load 26 (Operand.tmp 5), type := 26, pos := "law.go:116", after := #[{ on := 13, ground := Ground.guard }], guard := some (13, true) } : Oper) := by kernel_rfl
  have e5 := hb.t5
  have hg : val RO7f c 13 = .bool true := hF 13 (by decide)
  have hw := weO7f ho rfl hg
  have ec : ∀ v, c.eval (.const v) = v := fun _ => rfl
  have ef : ∀ f, c.eval (.func f) = .func (.func f) #[] #[] := fun _ => rfl
  have xm0 := hW.xm0
  have xm1 := hW.xm1
  have xm2 := hW.xm2
  have xm3 := hW.xm3
  have xm4 := hW.xm4
  have xm5 := hW.xm5
  refine does_value ho hw (v := .agg #[m0, m1, m2, m3, m4, m5]) ?_ rfl (Below.refl _ _)
  generalize c.eval = ρ at *
  clear hF hb hW hw ho hg
  go_simp

set_option maxRecDepth 10000 in
theorem oO7f_15 : stepO7f pa pb qa qb wv ak ab an ax aa am ac al ao ad bk bb bn bx ba bm bc bl bo bd m0 m1 m2 m3 m4 m5 n0 n1 n2 n3 n4 n5 Q 15 := by
  intro c w hb hW hF
  have ho : RO7f[15]? = some ({ dst := some 40, op := Op.load 26 (Operand.tmp 6), type := 26, pos := "law.go:116", after := #[{ on := 13, ground := Ground.guard }], guard := some (13, true) } : Oper) := by kernel_rfl
  have e6 := hb.t6
  have hg : val RO7f c 13 = .bool true := hF 13 (by decide)
  have hw := weO7f ho rfl hg
  have ec : ∀ v, c.eval (.const v) = v := fun _ => rfl
  have ef : ∀ f, c.eval (.func f) = .func (.func f) #[] #[] := fun _ => rfl
  have xn0 := hW.xn0
  have xn1 := hW.xn1
  have xn2 := hW.xn2
  have xn3 := hW.xn3
  have xn4 := hW.xn4
  have xn5 := hW.xn5
  refine does_value ho hw (v := .agg #[n0, n1, n2, n3, n4, n5]) ?_ rfl (Below.refl _ _)
  generalize c.eval = ρ at *
  clear hF hb hW hw ho hg
  go_simp

set_option maxRecDepth 10000 in
theorem oO7f_16 : stepO7f pa pb qa qb wv ak ab an ax aa am ac al ao ad bk bb bn bx ba bm bc bl bo bd m0 m1 m2 m3 m4 m5 n0 n1 n2 n3 n4 n5 Q 16 := by
  intro c w hb hW hF
  have ho : RO7f[16]? = some ({ dst := some 41, op := Op.call { callee := Callee.value (Operand.func 32), args := #[Operand.tmp 39, Operand.tmp 40], argTypes := #[26, 26] }, type := 4, pos := "law.go:116", after := #[{ on := 14, ground := Ground.data }, { on := 15, ground := Ground.data }, { on := 13, ground := Ground.chain }, { on := 13, ground := Ground.guard }], guard := some (13, true) } : Oper) := by kernel_rfl
  have e39 : c.eval (.tmp 39) = .agg #[m0, m1, m2, m3, m4, m5] := fact_at (p := eqv (.agg #[m0, m1, m2, m3, m4, m5])) (by kernel_rfl) rfl (hF 14 (by decide))
  have e40 : c.eval (.tmp 40) = .agg #[n0, n1, n2, n3, n4, n5] := fact_at (p := eqv (.agg #[n0, n1, n2, n3, n4, n5])) (by kernel_rfl) rfl (hF 15 (by decide))
  have hg : val RO7f c 13 = .bool true := hF 13 (by decide)
  have hw := weO7f ho rfl hg
  have ec : ∀ v, c.eval (.const v) = v := fun _ => rfl
  have ef : ∀ f, c.eval (.func f) = .func (.func f) #[] #[] := fun _ => rfl
  refine does_call ho hw (f := 32) (args := #[.agg #[m0, m1, m2, m3, m4, m5], .agg #[n0, n1, n2, n3, n4, n5]]) ?_ (Calls.mono (hW.k3) fun e w' ⟨h1, h2⟩ => ⟨_, h1, rfl, h2⟩)
  generalize c.eval = ρ at *
  clear hF hb hW hw ho hg
  go_simp

set_option maxRecDepth 10000 in
theorem oO7f_17 : stepO7f pa pb qa qb wv ak ab an ax aa am ac al ao ad bk bb bn bx ba bm bc bl bo bd m0 m1 m2 m3 m4 m5 n0 n1 n2 n3 n4 n5 Q 17 := by
  intro c w hb hW hF
  have ho : RO7f[17]? = some ({ dst := some 42, op := Op.load 26 (Operand.tmp 2), type := 26, pos := "law.go:116", after := #[{ on := 13, ground := Ground.guard }], guard := some (13, true) } : Oper) := by kernel_rfl
  have e2 := hb.t2
  have hg : val RO7f c 13 = .bool true := hF 13 (by decide)
  have hw := weO7f ho rfl hg
  have ec : ∀ v, c.eval (.const v) = v := fun _ => rfl
  have ef : ∀ f, c.eval (.func f) = .func (.func f) #[] #[] := fun _ => rfl
  have xa0 := hW.xa0
  have xa1 := hW.xa1
  have xa2 := hW.xa2
  have xa3 := hW.xa3
  have xa4 := hW.xa4
  have xa5 := hW.xa5
  refine does_value ho hw (v := .agg #[.int .i64 ak, .bool ab, .int .i64 an, .string ax, .slice aa am ac, .slice al ao ad]) ?_ rfl (Below.refl _ _)
  generalize c.eval = ρ at *
  clear hF hb hW hw ho hg
  go_simp

set_option maxRecDepth 10000 in
theorem oO7f_18 : stepO7f pa pb qa qb wv ak ab an ax aa am ac al ao ad bk bb bn bx ba bm bc bl bo bd m0 m1 m2 m3 m4 m5 n0 n1 n2 n3 n4 n5 Q 18 := by
  intro c w hb hW hF
  have ho : RO7f[18]? = some ({ dst := some 43, op := Op.load 26 (Operand.tmp 3), type := 26, pos := "law.go:116", after := #[{ on := 13, ground := Ground.guard }], guard := some (13, true) } : Oper) := by kernel_rfl
  have e3 := hb.t3
  have hg : val RO7f c 13 = .bool true := hF 13 (by decide)
  have hw := weO7f ho rfl hg
  have ec : ∀ v, c.eval (.const v) = v := fun _ => rfl
  have ef : ∀ f, c.eval (.func f) = .func (.func f) #[] #[] := fun _ => rfl
  have xb0 := hW.xb0
  have xb1 := hW.xb1
  have xb2 := hW.xb2
  have xb3 := hW.xb3
  have xb4 := hW.xb4
  have xb5 := hW.xb5
  refine does_value ho hw (v := .agg #[.int .i64 bk, .bool bb, .int .i64 bn, .string bx, .slice ba bm bc, .slice bl bo bd]) ?_ rfl (Below.refl _ _)
  generalize c.eval = ρ at *
  clear hF hb hW hw ho hg
  go_simp

set_option maxRecDepth 10000 in
theorem oO7f_19 : stepO7f pa pb qa qb wv ak ab an ax aa am ac al ao ad bk bb bn bx ba bm bc bl bo bd m0 m1 m2 m3 m4 m5 n0 n1 n2 n3 n4 n5 Q 19 := by
  intro c w hb hW hF
  have ho : RO7f[19]? = some ({ dst := some 44, op := Op.buildSlice 24 2 #[(0, Operand.tmp 42), (1, Operand.tmp 43)], type := 24, pos := "law.go:116", after := #[{ on := 17, ground := Ground.data }, { on := 18, ground := Ground.data }, { on := 13, ground := Ground.guard }], guard := some (13, true) } : Oper) := by kernel_rfl
  have e42 : c.eval (.tmp 42) = .agg #[.int .i64 ak, .bool ab, .int .i64 an, .string ax, .slice aa am ac, .slice al ao ad] := fact_at (p := eqv (.agg #[.int .i64 ak, .bool ab, .int .i64 an, .string ax, .slice aa am ac, .slice al ao ad])) (by kernel_rfl) rfl (hF 17 (by decide))
  have e43 : c.eval (.tmp 43) = .agg #[.int .i64 bk, .bool bb, .int .i64 bn, .string bx, .slice ba bm bc, .slice bl bo bd] := fact_at (p := eqv (.agg #[.int .i64 bk, .bool bb, .int .i64 bn, .string bx, .slice ba bm bc, .slice bl bo bd])) (by kernel_rfl) rfl (hF 18 (by decide))
  have hg : val RO7f c 13 = .bool true := hF 13 (by decide)
  have hw := weO7f ho rfl hg
  have ec : ∀ v, c.eval (.const v) = v := fun _ => rfl
  have ef : ∀ f, c.eval (.func f) = .func (.func f) #[] #[] := fun _ => rfl
  refine does_value ho hw (v := .slice (some ⟨w.heap.size, 0, none⟩) 2 2) (w' := w.alloc (.cells #[.int .i64 ak, .bool ab, .int .i64 an, .string ax, .slice aa am ac, .slice al ao ad, .int .i64 bk, .bool bb, .int .i64 bn, .string bx, .slice ba bm bc, .slice bl bo bd] 26)) ?_ ⟨w.heap.size, rfl, World.alloc_heap_new _ _⟩ ((Below.refl _ _).alloc (Nat.le_refl _) _)
  generalize c.eval = ρ at *
  clear hF hb hW hw ho hg
  go_simp

set_option maxRecDepth 10000 in
theorem oO7f_20 : stepO7f pa pb qa qb wv ak ab an ax aa am ac al ao ad bk bb bn bx ba bm bc bl bo bd m0 m1 m2 m3 m4 m5 n0 n1 n2 n3 n4 n5 Q 20 := by
  intro c w hb hW hF
  have ho : RO7f[20]? = some ({ dst := some 45, op := Op.call { callee := Callee.value (Operand.func 21), args := #[Operand.tmp 44], argTypes := #[24] }, type := 4, pos := "law.go:116", after := #[{ on := 19, ground := Ground.data }, { on := 16, ground := Ground.chain }, { on := 13, ground := Ground.guard }], guard := some (13, true) } : Oper) := by kernel_rfl
  have e44 : c.eval (.tmp 44) = val RO7f c 19 := (val_eq (show slotOf RO7f 19 = some 44 by kernel_rfl)).symm
  have hg : val RO7f c 13 = .bool true := hF 13 (by decide)
  have hw := weO7f ho rfl hg
  have ec : ∀ v, c.eval (.const v) = v := fun _ => rfl
  have ef : ∀ f, c.eval (.func f) = .func (.func f) #[] #[] := fun _ => rfl
  obtain ⟨t, ht, hrow⟩ : rowOf #[.int .i64 ak, .bool ab, .int .i64 an, .string ax, .slice aa am ac, .slice al ao ad, .int .i64 bk, .bool bb, .int .i64 bn, .string bx, .slice ba bm bc, .slice bl bo bd] (val RO7f c 19) w := hF 19 (by decide)
  rw [ht] at e44
  refine does_call ho hw (f := 21) (args := #[.slice (some ⟨t, 0, none⟩) 2 2]) ?_ (Calls.mono (hW.k4 t hrow) fun e w' ⟨h1, h2⟩ => ⟨_, h1, rfl, h2⟩)
  generalize c.eval = ρ at *
  clear hF hb hW hw ho hg
  go_simp

set_option maxRecDepth 10000 in
theorem oO7f_21 : stepO7f pa pb qa qb wv ak ab an ax aa am ac al ao ad bk bb bn bx ba bm bc bl bo bd m0 m1 m2 m3 m4 m5 n0 n1 n2 n3 n4 n5 Q 21 := by
  intro c w hb hW hF
  have ho : RO7f[21]? = some ({ dst := some 46, op := Op.move (Operand.tmp 45), type := 4, pos := "law.go:116", after := #[{ on := 20, ground := Ground.data }, { on := 20, ground := Ground.chain }, { on := 13, ground := Ground.guard }], guard := some (13, true) } : Oper) := by kernel_rfl
  have e45 : c.eval (.tmp 45) = .bool false := fact_at (p := eqv (.bool false)) (by kernel_rfl) rfl (hF 20 (by decide))
  have hg : val RO7f c 13 = .bool true := hF 13 (by decide)
  have hw := weO7f ho rfl hg
  have ec : ∀ v, c.eval (.const v) = v := fun _ => rfl
  have ef : ∀ f, c.eval (.func f) = .func (.func f) #[] #[] := fun _ => rfl
  refine does_value ho hw (v := .bool false) ?_ rfl (Below.refl _ _)
  generalize c.eval = ρ at *
  clear hF hb hW hw ho hg
  go_simp

set_option maxRecDepth 10000 in
theorem oO7f_22 : stepO7f pa pb qa qb wv ak ab an ax aa am ac al ao ad bk bb bn bx ba bm bc bl bo bd m0 m1 m2 m3 m4 m5 n0 n1 n2 n3 n4 n5 Q 22 := by
  intro c w hb hW hF
  have ho : RO7f[22]? = some ({ dst := some 47, op := Op.move (Operand.tmp 7), type := 3, pos := "law.go:116", after := #[{ on := 21, ground := Ground.guard }], guard := some (21, true) } : Oper) := by kernel_rfl
  have hg : val RO7f c 21 = .bool false := hF 21 (by decide)
  refine does_not ho ((want_val rfl hg).trans rfl) rfl

set_option maxRecDepth 10000 in
theorem oO7f_23 : stepO7f pa pb qa qb wv ak ab an ax aa am ac al ao ad bk bb bn bx ba bm bc bl bo bd m0 m1 m2 m3 m4 m5 n0 n1 n2 n3 n4 n5 Q 23 := by
  intro c w hb hW hF
  have ho : RO7f[23]? = some ({ dst := some 48, op := Op.binOp BinOp.eql 3 (Operand.tmp 47) (Operand.const (Value.int IntKind.i64 0)) 3, type := 4, pos := "law.go:116", after := #[{ on := 22, ground := Ground.data }, { on := 21, ground := Ground.guard }], guard := some (21, true) } : Oper) := by kernel_rfl
  have hg : val RO7f c 21 = .bool false := hF 21 (by decide)
  refine does_not ho ((want_val rfl hg).trans rfl) rfl

set_option maxRecDepth 10000 in
theorem oO7f_24 : stepO7f pa pb qa qb wv ak ab an ax aa am ac al ao ad bk bb bn bx ba bm bc bl bo bd m0 m1 m2 m3 m4 m5 n0 n1 n2 n3 n4 n5 Q 24 := by
  intro c w hb hW hF
  have ho : RO7f[24]? = some ({ dst := some 49, op := Op.pick (Operand.tmp 46) (Operand.tmp 48) (Operand.const (Value.bool false)), type := 4, pos := "law.go:116", after := #[{ on := 21, ground := Ground.data }, { on := 23, ground := Ground.data }, { on := 13, ground := Ground.guard }], guard := some (13, true) } : Oper) := by kernel_rfl
  have e46 : c.eval (.tmp 46) = .bool false := fact_at (p := eqv (.bool false)) (by kernel_rfl) rfl (hF 21 (by decide))
  have e48 : c.eval (.tmp 48) = undef := fact_at (p := eqv undef) (by kernel_rfl) rfl (hF 23 (by decide))
  have hg : val RO7f c 13 = .bool true := hF 13 (by decide)
  have hw := weO7f ho rfl hg
  have ec : ∀ v, c.eval (.const v) = v := fun _ => rfl
  have ef : ∀ f, c.eval (.func f) = .func (.func f) #[] #[] := fun _ => rfl
  refine does_value ho hw (v := .bool false) ?_ rfl (Below.refl _ _)
  generalize c.eval = ρ at *
  clear hF hb hW hw ho hg
  go_simp

set_option maxRecDepth 10000 in
theorem oO7f_25 : stepO7f pa pb qa qb wv ak ab an ax aa am ac al ao ad bk bb bn bx ba bm bc bl bo bd m0 m1 m2 m3 m4 m5 n0 n1 n2 n3 n4 n5 Q 25 := by
  intro c w hb hW hF
  have ho : RO7f[25]? = some ({ dst := some 50, op := Op.binOp BinOp.eql 4 (Operand.tmp 41) (Operand.tmp 49) 4, type := 4, pos := "law.go:116", after := #[{ on := 16, ground := Ground.data }, { on := 24, ground := Ground.data }, { on := 13, ground := Ground.guard }], guard := some (13, true) } : Oper) := by kernel_rfl
  have e41 : c.eval (.tmp 41) = .bool false := fact_at (p := eqv (.bool false)) (by kernel_rfl) rfl (hF 16 (by decide))
  have e49 : c.eval (.tmp 49) = .bool false := fact_at (p := eqv (.bool false)) (by kernel_rfl) rfl (hF 24 (by decide))
  have hg : val RO7f c 13 = .bool true := hF 13 (by decide)
  have hw := weO7f ho rfl hg
  have ec : ∀ v, c.eval (.const v) = v := fun _ => rfl
  have ef : ∀ f, c.eval (.func f) = .func (.func f) #[] #[] := fun _ => rfl
  refine does_value ho hw (v := .bool true) ?_ rfl (Below.refl _ _)
  generalize c.eval = ρ at *
  clear hF hb hW hw ho hg
  go_simp

set_option maxRecDepth 10000 in
theorem oO7f_26 : stepO7f pa pb qa qb wv ak ab an ax aa am ac al ao ad bk bb bn bx ba bm bc bl bo bd m0 m1 m2 m3 m4 m5 n0 n1 n2 n3 n4 n5 Q 26 := by
  intro c w hb hW hF
  have ho : RO7f[26]? = some ({ dst := some 51, op := Op.pick (Operand.tmp 38) (Operand.tmp 50) (Operand.const (Value.bool false)), type := 4, pos := "law.go:116", after := #[{ on := 13, ground := Ground.data }, { on := 25, ground := Ground.data }], guard := none } : Oper) := by kernel_rfl
  have e38 : c.eval (.tmp 38) = .bool true := fact_at (p := eqv (.bool true)) (by kernel_rfl) rfl (hF 13 (by decide))
  have e50 : c.eval (.tmp 50) = .bool true := fact_at (p := eqv (.bool true)) (by kernel_rfl) rfl (hF 25 (by decide))
  have hw := wnO7f (c := c) ho rfl
  have ec : ∀ v, c.eval (.const v) = v := fun _ => rfl
  have ef : ∀ f, c.eval (.func f) = .func (.func f) #[] #[] := fun _ => rfl
  refine does_value ho hw (v := .bool true) ?_ rfl (Below.refl _ _)
  generalize c.eval = ρ at *
  clear hF hb hW hw ho
  go_simp

set_option maxRecDepth 10000 in
theorem oO7f_27 : stepO7f pa pb qa qb wv ak ab an ax aa am ac al ao ad bk bb bn bx ba bm bc bl bo bd m0 m1 m2 m3 m4 m5 n0 n1 n2 n3 n4 n5 Q 27 := by
  intro c w hb hW hF
  have ho : RO7f[27]? = some ({ dst := some 52, op := Op.move (Operand.tmp 51), type := 4, pos := "law.go:116", after := #[{ on := 26, ground := Ground.data }, { on := 21, ground := Ground.chain }], guard := none } : Oper) := by kernel_rfl
  have e51 : c.eval (.tmp 51) = .bool true := fact_at (p := eqv (.bool true)) (by kernel_rfl) rfl (hF 26 (by decide))
  have hw := wnO7f (c := c) ho rfl
  have ec : ∀ v, c.eval (.const v) = v := fun _ => rfl
  have ef : ∀ f, c.eval (.func f) = .func (.func f) #[] #[] := fun _ => rfl
  refine does_value ho hw (v := .bool true) ?_ rfl (Below.refl _ _)
  generalize c.eval = ρ at *
  clear hF hb hW hw ho
  go_simp

set_option maxRecDepth 10000 in
theorem oO7f_28 : stepO7f pa pb qa qb wv ak ab an ax aa am ac al ao ad bk bb bn bx ba bm bc bl bo bd m0 m1 m2 m3 m4 m5 n0 n1 n2 n3 n4 n5 Q 28 := by
  intro c w hb hW hF
  have ho : RO7f[28]? = some ({ dst := some 53, op := Op.load 26 (Operand.tmp 5), type := 26, pos := "law.go:116", after := #[{ on := 27, ground := Ground.guard }], guard := some (27, true) } : Oper) := by kernel_rfl
  have e5 := hb.t5
  have hg : val RO7f c 27 = .bool true := hF 27 (by decide)
  have hw := weO7f ho rfl hg
  have ec : ∀ v, c.eval (.const v) = v := fun _ => rfl
  have ef : ∀ f, c.eval (.func f) = .func (.func f) #[] #[] := fun _ => rfl
  have xm0 := hW.xm0
  have xm1 := hW.xm1
  have xm2 := hW.xm2
  have xm3 := hW.xm3
  have xm4 := hW.xm4
  have xm5 := hW.xm5
  refine does_value ho hw (v := .agg #[m0, m1, m2, m3, m4, m5]) ?_ rfl (Below.refl _ _)
  generalize c.eval = ρ at *
  clear hF hb hW hw ho hg
  go_simp

set_option maxRecDepth 10000 in
theorem oO7f_29 : stepO7f pa pb qa qb wv ak ab an ax aa am ac al ao ad bk bb bn bx ba bm bc bl bo bd m0 m1 m2 m3 m4 m5 n0 n1 n2 n3 n4 n5 Q 29 := by
  intro c w hb hW hF
  have ho : RO7f[29]? = some ({ dst := some 54, op := Op.load 26 (Operand.tmp 2), type := 26, pos := "law.go:116", after := #[{ on := 27, ground := Ground.guard }], guard := some (27, true) } : Oper) := by kernel_rfl
  have e2 := hb.t2
  have hg : val RO7f c 27 = .bool true := hF 27 (by decide)
  have hw := weO7f ho rfl hg
  have ec : ∀ v, c.eval (.const v) = v := fun _ => rfl
  have ef : ∀ f, c.eval (.func f) = .func (.func f) #[] #[] := fun _ => rfl
  have xa0 := hW.xa0
  have xa1 := hW.xa1
  have xa2 := hW.xa2
  have xa3 := hW.xa3
  have xa4 := hW.xa4
  have xa5 := hW.xa5
  refine does_value ho hw (v := .agg #[.int .i64 ak, .bool ab, .int .i64 an, .string ax, .slice aa am ac, .slice al ao ad]) ?_ rfl (Below.refl _ _)
  generalize c.eval = ρ at *
  clear hF hb hW hw ho hg
  go_simp

set_option maxRecDepth 10000 in
theorem oO7f_30 : stepO7f pa pb qa qb wv ak ab an ax aa am ac al ao ad bk bb bn bx ba bm bc bl bo bd m0 m1 m2 m3 m4 m5 n0 n1 n2 n3 n4 n5 Q 30 := by
  intro c w hb hW hF
  have ho : RO7f[30]? = some ({ dst := some 55, op := Op.call { callee := Callee.value (Operand.func 29), args := #[Operand.tmp 53, Operand.tmp 54], argTypes := #[26, 26] }, type := 4, pos := "law.go:116", after := #[{ on := 28, ground := Ground.data }, { on := 29, ground := Ground.data }, { on := 27, ground := Ground.chain }, { on := 27, ground := Ground.guard }], guard := some (27, true) } : Oper) := by kernel_rfl
  have e53 : c.eval (.tmp 53) = .agg #[m0, m1, m2, m3, m4, m5] := fact_at (p := eqv (.agg #[m0, m1, m2, m3, m4, m5])) (by kernel_rfl) rfl (hF 28 (by decide))
  have e54 : c.eval (.tmp 54) = .agg #[.int .i64 ak, .bool ab, .int .i64 an, .string ax, .slice aa am ac, .slice al ao ad] := fact_at (p := eqv (.agg #[.int .i64 ak, .bool ab, .int .i64 an, .string ax, .slice aa am ac, .slice al ao ad])) (by kernel_rfl) rfl (hF 29 (by decide))
  have hg : val RO7f c 27 = .bool true := hF 27 (by decide)
  have hw := weO7f ho rfl hg
  have ec : ∀ v, c.eval (.const v) = v := fun _ => rfl
  have ef : ∀ f, c.eval (.func f) = .func (.func f) #[] #[] := fun _ => rfl
  refine does_call ho hw (f := 29) (args := #[.agg #[m0, m1, m2, m3, m4, m5], .agg #[.int .i64 ak, .bool ab, .int .i64 an, .string ax, .slice aa am ac, .slice al ao ad]]) ?_ (Calls.mono (hW.k5) fun e w' ⟨h1, h2⟩ => ⟨_, h1, rfl, h2⟩)
  generalize c.eval = ρ at *
  clear hF hb hW hw ho hg
  go_simp

set_option maxRecDepth 10000 in
theorem oO7f_31 : stepO7f pa pb qa qb wv ak ab an ax aa am ac al ao ad bk bb bn bx ba bm bc bl bo bd m0 m1 m2 m3 m4 m5 n0 n1 n2 n3 n4 n5 Q 31 := by
  intro c w hb hW hF
  have ho : RO7f[31]? = some ({ dst := some 56, op := Op.pick (Operand.tmp 52) (Operand.tmp 55) (Operand.const (Value.bool false)), type := 4, pos := "law.go:116", after := #[{ on := 27, ground := Ground.data }, { on := 30, ground := Ground.data }], guard := none } : Oper) := by kernel_rfl
  have e52 : c.eval (.tmp 52) = .bool true := fact_at (p := eqv (.bool true)) (by kernel_rfl) rfl (hF 27 (by decide))
  have e55 : c.eval (.tmp 55) = .bool true := fact_at (p := eqv (.bool true)) (by kernel_rfl) rfl (hF 30 (by decide))
  have hw := wnO7f (c := c) ho rfl
  have ec : ∀ v, c.eval (.const v) = v := fun _ => rfl
  have ef : ∀ f, c.eval (.func f) = .func (.func f) #[] #[] := fun _ => rfl
  refine does_value ho hw (v := .bool true) ?_ rfl (Below.refl _ _)
  generalize c.eval = ρ at *
  clear hF hb hW hw ho
  go_simp

set_option maxRecDepth 10000 in
theorem oO7f_32 : stepO7f pa pb qa qb wv ak ab an ax aa am ac al ao ad bk bb bn bx ba bm bc bl bo bd m0 m1 m2 m3 m4 m5 n0 n1 n2 n3 n4 n5 Q 32 := by
  intro c w hb hW hF
  have ho : RO7f[32]? = some ({ dst := some 57, op := Op.move (Operand.tmp 56), type := 4, pos := "law.go:116", after := #[{ on := 31, ground := Ground.data }, { on := 30, ground := Ground.chain }], guard := none } : Oper) := by kernel_rfl
  have e56 : c.eval (.tmp 56) = .bool true := fact_at (p := eqv (.bool true)) (by kernel_rfl) rfl (hF 31 (by decide))
  have hw := wnO7f (c := c) ho rfl
  have ec : ∀ v, c.eval (.const v) = v := fun _ => rfl
  have ef : ∀ f, c.eval (.func f) = .func (.func f) #[] #[] := fun _ => rfl
  refine does_value ho hw (v := .bool true) ?_ rfl (Below.refl _ _)
  generalize c.eval = ρ at *
  clear hF hb hW hw ho
  go_simp

set_option maxRecDepth 10000 in
theorem oO7f_33 : stepO7f pa pb qa qb wv ak ab an ax aa am ac al ao ad bk bb bn bx ba bm bc bl bo bd m0 m1 m2 m3 m4 m5 n0 n1 n2 n3 n4 n5 Q 33 := by
  intro c w hb hW hF
  have ho : RO7f[33]? = some ({ dst := some 58, op := Op.load 26 (Operand.tmp 6), type := 26, pos := "law.go:116", after := #[{ on := 32, ground := Ground.guard }], guard := some (32, true) } : Oper) := by kernel_rfl
  have e6 := hb.t6
  have hg : val RO7f c 32 = .bool true := hF 32 (by decide)
  have hw := weO7f ho rfl hg
  have ec : ∀ v, c.eval (.const v) = v := fun _ => rfl
  have ef : ∀ f, c.eval (.func f) = .func (.func f) #[] #[] := fun _ => rfl
  have xn0 := hW.xn0
  have xn1 := hW.xn1
  have xn2 := hW.xn2
  have xn3 := hW.xn3
  have xn4 := hW.xn4
  have xn5 := hW.xn5
  refine does_value ho hw (v := .agg #[n0, n1, n2, n3, n4, n5]) ?_ rfl (Below.refl _ _)
  generalize c.eval = ρ at *
  clear hF hb hW hw ho hg
  go_simp

set_option maxRecDepth 10000 in
theorem oO7f_34 : stepO7f pa pb qa qb wv ak ab an ax aa am ac al ao ad bk bb bn bx ba bm bc bl bo bd m0 m1 m2 m3 m4 m5 n0 n1 n2 n3 n4 n5 Q 34 := by
  intro c w hb hW hF
  have ho : RO7f[34]? = some ({ dst := some 59, op := Op.load 26 (Operand.tmp 3), type := 26, pos := "law.go:116", after := #[{ on := 32, ground := Ground.guard }], guard := some (32, true) } : Oper) := by kernel_rfl
  have e3 := hb.t3
  have hg : val RO7f c 32 = .bool true := hF 32 (by decide)
  have hw := weO7f ho rfl hg
  have ec : ∀ v, c.eval (.const v) = v := fun _ => rfl
  have ef : ∀ f, c.eval (.func f) = .func (.func f) #[] #[] := fun _ => rfl
  have xb0 := hW.xb0
  have xb1 := hW.xb1
  have xb2 := hW.xb2
  have xb3 := hW.xb3
  have xb4 := hW.xb4
  have xb5 := hW.xb5
  refine does_value ho hw (v := .agg #[.int .i64 bk, .bool bb, .int .i64 bn, .string bx, .slice ba bm bc, .slice bl bo bd]) ?_ rfl (Below.refl _ _)
  generalize c.eval = ρ at *
  clear hF hb hW hw ho hg
  go_simp

set_option maxRecDepth 10000 in
theorem oO7f_35 : stepO7f pa pb qa qb wv ak ab an ax aa am ac al ao ad bk bb bn bx ba bm bc bl bo bd m0 m1 m2 m3 m4 m5 n0 n1 n2 n3 n4 n5 Q 35 := by
  intro c w hb hW hF
  have ho : RO7f[35]? = some ({ dst := some 60, op := Op.call { callee := Callee.value (Operand.func 29), args := #[Operand.tmp 58, Operand.tmp 59], argTypes := #[26, 26] }, type := 4, pos := "law.go:116", after := #[{ on := 33, ground := Ground.data }, { on := 34, ground := Ground.data }, { on := 32, ground := Ground.chain }, { on := 32, ground := Ground.guard }], guard := some (32, true) } : Oper) := by kernel_rfl
  have e58 : c.eval (.tmp 58) = .agg #[n0, n1, n2, n3, n4, n5] := fact_at (p := eqv (.agg #[n0, n1, n2, n3, n4, n5])) (by kernel_rfl) rfl (hF 33 (by decide))
  have e59 : c.eval (.tmp 59) = .agg #[.int .i64 bk, .bool bb, .int .i64 bn, .string bx, .slice ba bm bc, .slice bl bo bd] := fact_at (p := eqv (.agg #[.int .i64 bk, .bool bb, .int .i64 bn, .string bx, .slice ba bm bc, .slice bl bo bd])) (by kernel_rfl) rfl (hF 34 (by decide))
  have hg : val RO7f c 32 = .bool true := hF 32 (by decide)
  have hw := weO7f ho rfl hg
  have ec : ∀ v, c.eval (.const v) = v := fun _ => rfl
  have ef : ∀ f, c.eval (.func f) = .func (.func f) #[] #[] := fun _ => rfl
  refine does_call ho hw (f := 29) (args := #[.agg #[n0, n1, n2, n3, n4, n5], .agg #[.int .i64 bk, .bool bb, .int .i64 bn, .string bx, .slice ba bm bc, .slice bl bo bd]]) ?_ (Calls.mono (hW.k6) fun e w' ⟨h1, h2⟩ => ⟨_, h1, rfl, h2⟩)
  generalize c.eval = ρ at *
  clear hF hb hW hw ho hg
  go_simp

set_option maxRecDepth 10000 in
theorem oO7f_36 : stepO7f pa pb qa qb wv ak ab an ax aa am ac al ao ad bk bb bn bx ba bm bc bl bo bd m0 m1 m2 m3 m4 m5 n0 n1 n2 n3 n4 n5 Q 36 := by
  intro c w hb hW hF
  have ho : RO7f[36]? = some ({ dst := some 61, op := Op.pick (Operand.tmp 57) (Operand.tmp 60) (Operand.const (Value.bool false)), type := 4, pos := "law.go:116", after := #[{ on := 32, ground := Ground.data }, { on := 35, ground := Ground.data }], guard := none } : Oper) := by kernel_rfl
  have e57 : c.eval (.tmp 57) = .bool true := fact_at (p := eqv (.bool true)) (by kernel_rfl) rfl (hF 32 (by decide))
  have e60 : c.eval (.tmp 60) = .bool true := fact_at (p := eqv (.bool true)) (by kernel_rfl) rfl (hF 35 (by decide))
  have hw := wnO7f (c := c) ho rfl
  have ec : ∀ v, c.eval (.const v) = v := fun _ => rfl
  have ef : ∀ f, c.eval (.func f) = .func (.func f) #[] #[] := fun _ => rfl
  refine does_value ho hw (v := .bool true) ?_ rfl (Below.refl _ _)
  generalize c.eval = ρ at *
  clear hF hb hW hw ho
  go_simp

set_option maxRecDepth 10000 in
theorem oO7f_37 : stepO7f pa pb qa qb wv ak ab an ax aa am ac al ao ad bk bb bn bx ba bm bc bl bo bd m0 m1 m2 m3 m4 m5 n0 n1 n2 n3 n4 n5 Q 37 := by
  intro c w hb hW hF
  have ho : RO7f[37]? = some ({ dst := some 62, op := Op.move (Operand.tmp 61), type := 4, pos := "law.go:116", after := #[{ on := 36, ground := Ground.data }, { on := 35, ground := Ground.chain }], guard := none } : Oper) := by kernel_rfl
  have e61 : c.eval (.tmp 61) = .bool true := fact_at (p := eqv (.bool true)) (by kernel_rfl) rfl (hF 36 (by decide))
  have hw := wnO7f (c := c) ho rfl
  have ec : ∀ v, c.eval (.const v) = v := fun _ => rfl
  have ef : ∀ f, c.eval (.func f) = .func (.func f) #[] #[] := fun _ => rfl
  refine does_value ho hw (v := .bool true) ?_ rfl (Below.refl _ _)
  generalize c.eval = ρ at *
  clear hF hb hW hw ho
  go_simp

set_option maxRecDepth 10000 in
theorem oO7f_38 : stepO7f pa pb qa qb wv ak ab an ax aa am ac al ao ad bk bb bn bx ba bm bc bl bo bd m0 m1 m2 m3 m4 m5 n0 n1 n2 n3 n4 n5 Q 38 := by
  intro c w hb hW hF
  have ho : RO7f[38]? = some ({ dst := some 63, op := Op.call { callee := Callee.value (Operand.func 16), args := #[], argTypes := #[] }, type := 4, pos := "law.go:116", after := #[{ on := 37, ground := Ground.chain }, { on := 37, ground := Ground.guard }], guard := some (37, true) } : Oper) := by kernel_rfl
  have hg : val RO7f c 37 = .bool true := hF 37 (by decide)
  have hw := weO7f ho rfl hg
  have ec : ∀ v, c.eval (.const v) = v := fun _ => rfl
  have ef : ∀ f, c.eval (.func f) = .func (.func f) #[] #[] := fun _ => rfl
  refine does_call ho hw (f := 16) (args := #[]) ?_ (Calls.mono (hW.k7) fun e w' ⟨h1, h2⟩ => ⟨_, h1, rfl, h2⟩)
  generalize c.eval = ρ at *
  clear hF hb hW hw ho hg
  go_simp

set_option maxRecDepth 10000 in
theorem oO7f_39 : stepO7f pa pb qa qb wv ak ab an ax aa am ac al ao ad bk bb bn bx ba bm bc bl bo bd m0 m1 m2 m3 m4 m5 n0 n1 n2 n3 n4 n5 Q 39 := by
  intro c w hb hW hF
  have ho : RO7f[39]? = some ({ dst := some 64, op := Op.pick (Operand.tmp 62) (Operand.tmp 63) (Operand.const (Value.bool false)), type := 4, pos := "law.go:116", after := #[{ on := 37, ground := Ground.data }, { on := 38, ground := Ground.data }], guard := none } : Oper) := by kernel_rfl
  have e62 : c.eval (.tmp 62) = .bool true := fact_at (p := eqv (.bool true)) (by kernel_rfl) rfl (hF 37 (by decide))
  have e63 : c.eval (.tmp 63) = .bool true := fact_at (p := eqv (.bool true)) (by kernel_rfl) rfl (hF 38 (by decide))
  have hw := wnO7f (c := c) ho rfl
  have ec : ∀ v, c.eval (.const v) = v := fun _ => rfl
  have ef : ∀ f, c.eval (.func f) = .func (.func f) #[] #[] := fun _ => rfl
  refine does_value ho hw (v := .bool true) ?_ rfl (Below.refl _ _)
  generalize c.eval = ρ at *
  clear hF hb hW hw ho
  go_simp

set_option maxRecDepth 10000 in
theorem oO7f_40 : stepO7f pa pb qa qb wv ak ab an ax aa am ac al ao ad bk bb bn bx ba bm bc bl bo bd m0 m1 m2 m3 m4 m5 n0 n1 n2 n3 n4 n5 Q 40 := by
  intro c w hb hW hF
  have ho : RO7f[40]? = some ({ dst := some 4, op := Op.assign (Operand.tmp 64), type := 4, pos := "law.go:116", after := #[{ on := 39, ground := Ground.data }, { on := 38, ground := Ground.chain }, { on := 0, ground := Ground.phase }, { on := 1, ground := Ground.phase }, { on := 2, ground := Ground.phase }, { on := 3, ground := Ground.phase }, { on := 4, ground := Ground.phase }, { on := 5, ground := Ground.phase }, { on := 6, ground := Ground.phase }, { on := 7, ground := Ground.phase }, { on := 8, ground := Ground.phase }, { on := 9, ground := Ground.phase }, { on := 10, ground := Ground.phase }, { on := 11, ground := Ground.phase }, { on := 12, ground := Ground.phase }, { on := 13, ground := Ground.phase }, { on := 14, ground := Ground.phase }, { on := 15, ground := Ground.phase }, { on := 16, ground := Ground.phase }, { on := 17, ground := Ground.phase }, { on := 18, ground := Ground.phase }, { on := 19, ground := Ground.phase }, { on := 20, ground := Ground.phase }, { on := 21, ground := Ground.phase }, { on := 22, ground := Ground.phase }, { on := 23, ground := Ground.phase }, { on := 24, ground := Ground.phase }, { on := 25, ground := Ground.phase }, { on := 26, ground := Ground.phase }, { on := 27, ground := Ground.phase }, { on := 28, ground := Ground.phase }, { on := 29, ground := Ground.phase }, { on := 30, ground := Ground.phase }, { on := 31, ground := Ground.phase }, { on := 32, ground := Ground.phase }, { on := 33, ground := Ground.phase }, { on := 34, ground := Ground.phase }, { on := 35, ground := Ground.phase }, { on := 36, ground := Ground.phase }, { on := 37, ground := Ground.phase }, { on := 38, ground := Ground.phase }, { on := 39, ground := Ground.phase }], guard := none } : Oper) := by kernel_rfl
  have e64 : c.eval (.tmp 64) = .bool true := fact_at (p := eqv (.bool true)) (by kernel_rfl) rfl (hF 39 (by decide))
  have hw := wnO7f (c := c) ho rfl
  have ec : ∀ v, c.eval (.const v) = v := fun _ => rfl
  have ef : ∀ f, c.eval (.func f) = .func (.func f) #[] #[] := fun _ => rfl
  refine does_value ho hw (v := .bool true) ?_ rfl (Below.refl _ _)
  generalize c.eval = ρ at *
  clear hF hb hW hw ho
  go_simp

end

theorem stableO7f (pa pb qa qb : Nat) (wv : Int) (ak : Int) (ab : Bool) (an : Int) (ax : ByteArray) (aa : Option Addr) (am ac : Nat) (al : Option Addr) (ao ad : Nat) (bk : Int) (bb : Bool) (bn : Int) (bx : ByteArray) (ba : Option Addr) (bm bc : Nat) (bl : Option Addr) (bo bd : Nat) (m0 m1 m2 m3 m4 m5 n0 n1 n2 n3 n4 n5 : Value) : ∀ pr ∈ factsO7f pa pb qa qb wv ak ab an ax aa am ac al ao ad bk bb bn bx ba bm bc bl bo bd m0 m1 m2 m3 m4 m5 n0 n1 n2 n3 n4 n5, Stable pr := by
  unfold factsO7f
  refine List.forall_mem_cons.2 ⟨eqv_stable _, ?_⟩
  refine List.forall_mem_cons.2 ⟨eqv_stable _, ?_⟩
  refine List.forall_mem_cons.2 ⟨eqv_stable _, ?_⟩
  refine List.forall_mem_cons.2 ⟨eqv_stable _, ?_⟩
  refine List.forall_mem_cons.2 ⟨eqv_stable _, ?_⟩
  refine List.forall_mem_cons.2 ⟨eqv_stable _, ?_⟩
  refine List.forall_mem_cons.2 ⟨eqv_stable _, ?_⟩
  refine List.forall_mem_cons.2 ⟨eqv_stable _, ?_⟩
  refine List.forall_mem_cons.2 ⟨eqv_stable _, ?_⟩
  refine List.forall_mem_cons.2 ⟨eqv_stable _, ?_⟩
  refine List.forall_mem_cons.2 ⟨eqv_stable _, ?_⟩
  refine List.forall_mem_cons.2 ⟨eqv_stable _, ?_⟩
  refine List.forall_mem_cons.2 ⟨eqv_stable _, ?_⟩
  refine List.forall_mem_cons.2 ⟨eqv_stable _, ?_⟩
  refine List.forall_mem_cons.2 ⟨eqv_stable _, ?_⟩
  refine List.forall_mem_cons.2 ⟨eqv_stable _, ?_⟩
  refine List.forall_mem_cons.2 ⟨eqv_stable _, ?_⟩
  refine List.forall_mem_cons.2 ⟨eqv_stable _, ?_⟩
  refine List.forall_mem_cons.2 ⟨eqv_stable _, ?_⟩
  refine List.forall_mem_cons.2 ⟨rowOf_stable _, ?_⟩
  refine List.forall_mem_cons.2 ⟨eqv_stable _, ?_⟩
  refine List.forall_mem_cons.2 ⟨eqv_stable _, ?_⟩
  refine List.forall_mem_cons.2 ⟨eqv_stable _, ?_⟩
  refine List.forall_mem_cons.2 ⟨eqv_stable _, ?_⟩
  refine List.forall_mem_cons.2 ⟨eqv_stable _, ?_⟩
  refine List.forall_mem_cons.2 ⟨eqv_stable _, ?_⟩
  refine List.forall_mem_cons.2 ⟨eqv_stable _, ?_⟩
  refine List.forall_mem_cons.2 ⟨eqv_stable _, ?_⟩
  refine List.forall_mem_cons.2 ⟨eqv_stable _, ?_⟩
  refine List.forall_mem_cons.2 ⟨eqv_stable _, ?_⟩
  refine List.forall_mem_cons.2 ⟨eqv_stable _, ?_⟩
  refine List.forall_mem_cons.2 ⟨eqv_stable _, ?_⟩
  refine List.forall_mem_cons.2 ⟨eqv_stable _, ?_⟩
  refine List.forall_mem_cons.2 ⟨eqv_stable _, ?_⟩
  refine List.forall_mem_cons.2 ⟨eqv_stable _, ?_⟩
  refine List.forall_mem_cons.2 ⟨eqv_stable _, ?_⟩
  refine List.forall_mem_cons.2 ⟨eqv_stable _, ?_⟩
  refine List.forall_mem_cons.2 ⟨eqv_stable _, ?_⟩
  refine List.forall_mem_cons.2 ⟨eqv_stable _, ?_⟩
  refine List.forall_mem_cons.2 ⟨eqv_stable _, ?_⟩
  refine List.forall_mem_cons.2 ⟨eqv_stable _, ?_⟩
  exact List.forall_mem_nil _

set_option maxRecDepth 100000 in
theorem allO7f (pa pb qa qb : Nat) (wv : Int) (ak : Int) (ab : Bool) (an : Int) (ax : ByteArray) (aa : Option Addr) (am ac : Nat) (al : Option Addr) (ao ad : Nat) (bk : Int) (bb : Bool) (bn : Int) (bx : ByteArray) (ba : Option Addr) (bm bc : Nat) (bl : Option Addr) (bo bd : Nat) (m0 m1 m2 m3 m4 m5 n0 n1 n2 n3 n4 n5 : Value) (Q : Exit → Act → World → Prop) : ∀ i, i < 41 → (fun i => ∀ c w, BaseO7f pa pb qa qb wv ak ab an ax aa am ac al ao ad bk bb bn bx ba bm bc bl bo bd m0 m1 m2 m3 m4 m5 n0 n1 n2 n3 n4 n5 c → WorldO7f pa pb qa qb wv ak ab an ax aa am ac al ao ad bk bb bn bx ba bm bc bl bo bd m0 m1 m2 m3 m4 m5 n0 n1 n2 n3 n4 n5 w → (∀ q0 ∈ ancO7f i, factsAt (factsO7f pa pb qa qb wv ak ab an ax aa am ac al ao ad bk bb bn bx ba bm bc bl bo bd m0 m1 m2 m3 m4 m5 n0 n1 n2 n3 n4 n5) q0 (val RO7f c q0) w) → Does Tryz.prog RO7f Q (factsAt (factsO7f pa pb qa qb wv ak ab an ax aa am ac al ao ad bk bb bn bx ba bm bc bl bo bd m0 m1 m2 m3 m4 m5 n0 n1 n2 n3 n4 n5)) i c w) i := by
  refine below_succ ?_ (fun c w => oO7f_40 pa pb qa qb wv ak ab an ax aa am ac al ao ad bk bb bn bx ba bm bc bl bo bd m0 m1 m2 m3 m4 m5 n0 n1 n2 n3 n4 n5 Q c w)
  refine below_succ ?_ (fun c w => oO7f_39 pa pb qa qb wv ak ab an ax aa am ac al ao ad bk bb bn bx ba bm bc bl bo bd m0 m1 m2 m3 m4 m5 n0 n1 n2 n3 n4 n5 Q c w)
  refine below_succ ?_ (fun c w => oO7f_38 pa pb qa qb wv ak ab an ax aa am ac al ao ad bk bb bn bx ba bm bc bl bo bd m0 m1 m2 m3 m4 m5 n0 n1 n2 n3 n4 n5 Q c w)
  refine below_succ ?_ (fun c w => oO7f_37 pa pb qa qb wv ak ab an ax aa am ac al ao ad bk bb bn bx ba bm bc bl bo bd m0 m1 m2 m3 m4 m5 n0 n1 n2 n3 n4 n5 Q c w)
  refine below_succ ?_ (fun c w => oO7f_36 pa pb qa qb wv ak ab an ax aa am ac al ao ad bk bb bn bx ba bm bc bl bo bd m0 m1 m2 m3 m4 m5 n0 n1 n2 n3 n4 n5 Q c w)
  refine below_succ ?_ (fun c w => oO7f_35 pa pb qa qb wv ak ab an ax aa am ac al ao ad bk bb bn bx ba bm bc bl bo bd m0 m1 m2 m3 m4 m5 n0 n1 n2 n3 n4 n5 Q c w)
  refine below_succ ?_ (fun c w => oO7f_34 pa pb qa qb wv ak ab an ax aa am ac al ao ad bk bb bn bx ba bm bc bl bo bd m0 m1 m2 m3 m4 m5 n0 n1 n2 n3 n4 n5 Q c w)
  refine below_succ ?_ (fun c w => oO7f_33 pa pb qa qb wv ak ab an ax aa am ac al ao ad bk bb bn bx ba bm bc bl bo bd m0 m1 m2 m3 m4 m5 n0 n1 n2 n3 n4 n5 Q c w)
  refine below_succ ?_ (fun c w => oO7f_32 pa pb qa qb wv ak ab an ax aa am ac al ao ad bk bb bn bx ba bm bc bl bo bd m0 m1 m2 m3 m4 m5 n0 n1 n2 n3 n4 n5 Q c w)
  refine below_succ ?_ (fun c w => oO7f_31 pa pb qa qb wv ak ab an ax aa am ac al ao ad bk bb bn bx ba bm bc bl bo bd m0 m1 m2 m3 m4 m5 n0 n1 n2 n3 n4 n5 Q c w)
  refine below_succ ?_ (fun c w => oO7f_30 pa pb qa qb wv ak ab an ax aa am ac al ao ad bk bb bn bx ba bm bc bl bo bd m0 m1 m2 m3 m4 m5 n0 n1 n2 n3 n4 n5 Q c w)
  refine below_succ ?_ (fun c w => oO7f_29 pa pb qa qb wv ak ab an ax aa am ac al ao ad bk bb bn bx ba bm bc bl bo bd m0 m1 m2 m3 m4 m5 n0 n1 n2 n3 n4 n5 Q c w)
  refine below_succ ?_ (fun c w => oO7f_28 pa pb qa qb wv ak ab an ax aa am ac al ao ad bk bb bn bx ba bm bc bl bo bd m0 m1 m2 m3 m4 m5 n0 n1 n2 n3 n4 n5 Q c w)
  refine below_succ ?_ (fun c w => oO7f_27 pa pb qa qb wv ak ab an ax aa am ac al ao ad bk bb bn bx ba bm bc bl bo bd m0 m1 m2 m3 m4 m5 n0 n1 n2 n3 n4 n5 Q c w)
  refine below_succ ?_ (fun c w => oO7f_26 pa pb qa qb wv ak ab an ax aa am ac al ao ad bk bb bn bx ba bm bc bl bo bd m0 m1 m2 m3 m4 m5 n0 n1 n2 n3 n4 n5 Q c w)
  refine below_succ ?_ (fun c w => oO7f_25 pa pb qa qb wv ak ab an ax aa am ac al ao ad bk bb bn bx ba bm bc bl bo bd m0 m1 m2 m3 m4 m5 n0 n1 n2 n3 n4 n5 Q c w)
  refine below_succ ?_ (fun c w => oO7f_24 pa pb qa qb wv ak ab an ax aa am ac al ao ad bk bb bn bx ba bm bc bl bo bd m0 m1 m2 m3 m4 m5 n0 n1 n2 n3 n4 n5 Q c w)
  refine below_succ ?_ (fun c w => oO7f_23 pa pb qa qb wv ak ab an ax aa am ac al ao ad bk bb bn bx ba bm bc bl bo bd m0 m1 m2 m3 m4 m5 n0 n1 n2 n3 n4 n5 Q c w)
  refine below_succ ?_ (fun c w => oO7f_22 pa pb qa qb wv ak ab an ax aa am ac al ao ad bk bb bn bx ba bm bc bl bo bd m0 m1 m2 m3 m4 m5 n0 n1 n2 n3 n4 n5 Q c w)
  refine below_succ ?_ (fun c w => oO7f_21 pa pb qa qb wv ak ab an ax aa am ac al ao ad bk bb bn bx ba bm bc bl bo bd m0 m1 m2 m3 m4 m5 n0 n1 n2 n3 n4 n5 Q c w)
  refine below_succ ?_ (fun c w => oO7f_20 pa pb qa qb wv ak ab an ax aa am ac al ao ad bk bb bn bx ba bm bc bl bo bd m0 m1 m2 m3 m4 m5 n0 n1 n2 n3 n4 n5 Q c w)
  refine below_succ ?_ (fun c w => oO7f_19 pa pb qa qb wv ak ab an ax aa am ac al ao ad bk bb bn bx ba bm bc bl bo bd m0 m1 m2 m3 m4 m5 n0 n1 n2 n3 n4 n5 Q c w)
  refine below_succ ?_ (fun c w => oO7f_18 pa pb qa qb wv ak ab an ax aa am ac al ao ad bk bb bn bx ba bm bc bl bo bd m0 m1 m2 m3 m4 m5 n0 n1 n2 n3 n4 n5 Q c w)
  refine below_succ ?_ (fun c w => oO7f_17 pa pb qa qb wv ak ab an ax aa am ac al ao ad bk bb bn bx ba bm bc bl bo bd m0 m1 m2 m3 m4 m5 n0 n1 n2 n3 n4 n5 Q c w)
  refine below_succ ?_ (fun c w => oO7f_16 pa pb qa qb wv ak ab an ax aa am ac al ao ad bk bb bn bx ba bm bc bl bo bd m0 m1 m2 m3 m4 m5 n0 n1 n2 n3 n4 n5 Q c w)
  refine below_succ ?_ (fun c w => oO7f_15 pa pb qa qb wv ak ab an ax aa am ac al ao ad bk bb bn bx ba bm bc bl bo bd m0 m1 m2 m3 m4 m5 n0 n1 n2 n3 n4 n5 Q c w)
  refine below_succ ?_ (fun c w => oO7f_14 pa pb qa qb wv ak ab an ax aa am ac al ao ad bk bb bn bx ba bm bc bl bo bd m0 m1 m2 m3 m4 m5 n0 n1 n2 n3 n4 n5 Q c w)
  refine below_succ ?_ (fun c w => oO7f_13 pa pb qa qb wv ak ab an ax aa am ac al ao ad bk bb bn bx ba bm bc bl bo bd m0 m1 m2 m3 m4 m5 n0 n1 n2 n3 n4 n5 Q c w)
  refine below_succ ?_ (fun c w => oO7f_12 pa pb qa qb wv ak ab an ax aa am ac al ao ad bk bb bn bx ba bm bc bl bo bd m0 m1 m2 m3 m4 m5 n0 n1 n2 n3 n4 n5 Q c w)
  refine below_succ ?_ (fun c w => oO7f_11 pa pb qa qb wv ak ab an ax aa am ac al ao ad bk bb bn bx ba bm bc bl bo bd m0 m1 m2 m3 m4 m5 n0 n1 n2 n3 n4 n5 Q c w)
  refine below_succ ?_ (fun c w => oO7f_10 pa pb qa qb wv ak ab an ax aa am ac al ao ad bk bb bn bx ba bm bc bl bo bd m0 m1 m2 m3 m4 m5 n0 n1 n2 n3 n4 n5 Q c w)
  refine below_succ ?_ (fun c w => oO7f_9 pa pb qa qb wv ak ab an ax aa am ac al ao ad bk bb bn bx ba bm bc bl bo bd m0 m1 m2 m3 m4 m5 n0 n1 n2 n3 n4 n5 Q c w)
  refine below_succ ?_ (fun c w => oO7f_8 pa pb qa qb wv ak ab an ax aa am ac al ao ad bk bb bn bx ba bm bc bl bo bd m0 m1 m2 m3 m4 m5 n0 n1 n2 n3 n4 n5 Q c w)
  refine below_succ ?_ (fun c w => oO7f_7 pa pb qa qb wv ak ab an ax aa am ac al ao ad bk bb bn bx ba bm bc bl bo bd m0 m1 m2 m3 m4 m5 n0 n1 n2 n3 n4 n5 Q c w)
  refine below_succ ?_ (fun c w => oO7f_6 pa pb qa qb wv ak ab an ax aa am ac al ao ad bk bb bn bx ba bm bc bl bo bd m0 m1 m2 m3 m4 m5 n0 n1 n2 n3 n4 n5 Q c w)
  refine below_succ ?_ (fun c w => oO7f_5 pa pb qa qb wv ak ab an ax aa am ac al ao ad bk bb bn bx ba bm bc bl bo bd m0 m1 m2 m3 m4 m5 n0 n1 n2 n3 n4 n5 Q c w)
  refine below_succ ?_ (fun c w => oO7f_4 pa pb qa qb wv ak ab an ax aa am ac al ao ad bk bb bn bx ba bm bc bl bo bd m0 m1 m2 m3 m4 m5 n0 n1 n2 n3 n4 n5 Q c w)
  refine below_succ ?_ (fun c w => oO7f_3 pa pb qa qb wv ak ab an ax aa am ac al ao ad bk bb bn bx ba bm bc bl bo bd m0 m1 m2 m3 m4 m5 n0 n1 n2 n3 n4 n5 Q c w)
  refine below_succ ?_ (fun c w => oO7f_2 pa pb qa qb wv ak ab an ax aa am ac al ao ad bk bb bn bx ba bm bc bl bo bd m0 m1 m2 m3 m4 m5 n0 n1 n2 n3 n4 n5 Q c w)
  refine below_succ ?_ (fun c w => oO7f_1 pa pb qa qb wv ak ab an ax aa am ac al ao ad bk bb bn bx ba bm bc bl bo bd m0 m1 m2 m3 m4 m5 n0 n1 n2 n3 n4 n5 Q c w)
  refine below_succ ?_ (fun c w => oO7f_0 pa pb qa qb wv ak ab an ax aa am ac al ao ad bk bb bn bx ba bm bc bl bo bd m0 m1 m2 m3 m4 m5 n0 n1 n2 n3 n4 n5 Q c w)
  exact below_zero

theorem regionO7f (pa pb qa qb : Nat) (wv : Int) (ak : Int) (ab : Bool) (an : Int) (ax : ByteArray) (aa : Option Addr) (am ac : Nat) (al : Option Addr) (ao ad : Nat) (bk : Int) (bb : Bool) (bn : Int) (bx : ByteArray) (ba : Option Addr) (bm bc : Nat) (bl : Option Addr) (bo bd : Nat) (m0 m1 m2 m3 m4 m5 n0 n1 n2 n3 n4 n5 : Value) (Q : Exit → Act → World → Prop) (base : Act) (w0 : World) (hsz : base.tmps.size = 65) (hb : BaseO7f pa pb qa qb wv ak ab an ax aa am ac al ao ad bk bb bn bx ba bm bc bl bo bd m0 m1 m2 m3 m4 m5 n0 n1 n2 n3 n4 n5 base)
    (hW : ∀ w, Below w0.heap.size w0 w → WorldO7f pa pb qa qb wv ak ab an ax aa am ac al ao ad bk bb bn bx ba bm bc bl bo bd m0 m1 m2 m3 m4 m5 n0 n1 n2 n3 n4 n5 w) (hQ : ∀ c w, Same RO7f base c → Below w0.heap.size w0 w → c.eval (.tmp 4) = .bool true → Q .normal c w) : (Code.region 7 RO7f true).wp Tryz.prog Q base w0 := by
  refine facts_rule (A := ancO7f) (F := factsAt (factsO7f pa pb qa qb wv ak ab an ax aa am ac al ao ad bk bb bn bx ba bm bc bl bo bd m0 m1 m2 m3 m4 m5 n0 n1 n2 n3 n4 n5)) (by kernel_rfl) (by rw [hsz]; kernel_rfl) (fun i v w w' => factsAt_stable (stableO7f pa pb qa qb wv ak ab an ax aa am ac al ao ad bk bb bn bx ba bm bc bl bo bd m0 m1 m2 m3 m4 m5 n0 n1 n2 n3 n4 n5) i v w w') ?_ ?_
  · intro i hi c w hS hB hF
    exact allO7f pa pb qa qb wv ak ab an ax aa am ac al ao ad bk bb bn bx ba bm bc bl bo bd m0 m1 m2 m3 m4 m5 n0 n1 n2 n3 n4 n5 Q i (by rwa [show RO7f.size = 41 by kernel_rfl] at hi) c w ⟨(same_eval hS (by kernel_rfl)).trans hb.t2, (same_eval hS (by kernel_rfl)).trans hb.t3, (same_eval hS (by kernel_rfl)).trans hb.t5, (same_eval hS (by kernel_rfl)).trans hb.t6, (same_eval hS (by kernel_rfl)).trans hb.t7⟩ (hW w hB) hF
  · intro c w hS hB hF
    exact hQ c w hS hB (fact_at (p := eqv (.bool true)) (by kernel_rfl) rfl (hF 40 (by rw [show RO7f.size = 41 by kernel_rfl]; omega)))
end Go.Proofs.YtbpmhgcjefpigaaGreatDoor
