/- A statement that reads, calls and lays rows of its own: operation by operation, in whatever order. -/
import Derived.Test.YtbpmhgcjefpigaaGreatDoorJoin22
import Derived.Test.YtbpmhgcjefpigaaGreatDoorJoin21
namespace Go.Proofs.YtbpmhgcjefpigaaGreatDoor
open Go.RowKit Go.WideShapes Go.Shelf
set_option linter.unusedVariables false
set_option linter.unusedSimpArgs false
noncomputable def RU9f : Array Oper := regionAt Tryz.f49 9
def ancU9f (i : Nat) : List Nat := ([[], [0], [1], [1], [1, 2, 3], [1, 4], [1], [1], [1, 6, 7], [1, 8], [1, 5, 9], [1, 10], [1, 11], [0, 1, 2, 3, 4, 5, 6, 7, 8, 9, 10, 11, 12]] : List (List Nat)).getD i []
def factsU9f (g n cap j bl off m lc ii : Nat) (cm : Int) (n0 n1 n2 n3 n4 n5 a0 a1 a2 a3 a4 a5 : Value) : List (Value → World → Prop) :=
 [eqv (.bool false), eqv (.bool false), eqv (.slice (some ⟨g, 0, none⟩) n cap), eqv (.int .i64 (j : Int)), eqv (.pointer (some ⟨g, j * 6, none⟩)), eqv (.agg #[n0, n1, n2, n3, n4, n5]), eqv (.slice (some ⟨bl, off, none⟩) m lc), eqv (.int .i64 (ii : Int)), eqv (.pointer (some ⟨bl, off + ii * 6, none⟩)), eqv (.agg #[a0, a1, a2, a3, a4, a5]), eqv (.int .i64 cm), eqv (.bool (cm == 0)), eqv (.bool (cm == 0)), eqv (.bool (cm == 0))]
structure BaseU9f (g n cap j bl off m lc ii : Nat) (cm : Int) (n0 n1 n2 n3 n4 n5 a0 a1 a2 a3 a4 a5 : Value) (c : Act) : Prop where
 t0 : c.eval (.tmp 0) = .slice (some ⟨bl, off, none⟩) m lc
 t3 : c.eval (.tmp 3) = .slice (some ⟨g, 0, none⟩) n cap
 t4 : c.eval (.tmp 4) = .int .i64 (ii : Int)
 t6 : c.eval (.tmp 6) = .int .i64 (j : Int)
 t5 : c.eval (.tmp 5) = .bool false
structure WorldU9f (g n cap j bl off m lc ii : Nat) (cm : Int) (n0 n1 n2 n3 n4 n5 a0 a1 a2 a3 a4 a5 : Value) (w : World) : Prop where
 xn0 : w.cell? ⟨g, j * 6, none⟩ = some n0
 xn1 : w.cell? ⟨g, j * 6 + 1, none⟩ = some n1
 xn2 : w.cell? ⟨g, j * 6 + 2, none⟩ = some n2
 xn3 : w.cell? ⟨g, j * 6 + 3, none⟩ = some n3
 xn4 : w.cell? ⟨g, j * 6 + 4, none⟩ = some n4
 xn5 : w.cell? ⟨g, j * 6 + 5, none⟩ = some n5
 xa0 : w.cell? ⟨bl, off + ii * 6, none⟩ = some a0
 xa1 : w.cell? ⟨bl, off + ii * 6 + 1, none⟩ = some a1
 xa2 : w.cell? ⟨bl, off + ii * 6 + 2, none⟩ = some a2
 xa3 : w.cell? ⟨bl, off + ii * 6 + 3, none⟩ = some a3
 xa4 : w.cell? ⟨bl, off + ii * 6 + 4, none⟩ = some a4
 xa5 : w.cell? ⟨bl, off + ii * 6 + 5, none⟩ = some a5
 k1 : Calls Tryz.prog 30 #[.agg #[n0, n1, n2, n3, n4, n5], .agg #[a0, a1, a2, a3, a4, a5]] w fun e w' => e = .returned (.int .i64 cm) ∧ Below w.heap.size w w'
 hj : j < n
 hi : ii < m
def stepU9f (g n cap j bl off m lc ii : Nat) (cm : Int) (n0 n1 n2 n3 n4 n5 a0 a1 a2 a3 a4 a5 : Value) (Q : Exit → Act → World → Prop) (i : Nat) : Prop := ∀ (c : Act) (w : World), BaseU9f g n cap j bl off m lc ii cm n0 n1 n2 n3 n4 n5 a0 a1 a2 a3 a4 a5 c → WorldU9f g n cap j bl off m lc ii cm n0 n1 n2 n3 n4 n5 a0 a1 a2 a3 a4 a5 w → (∀ q0 ∈ ancU9f i, factsAt (factsU9f g n cap j bl off m lc ii cm n0 n1 n2 n3 n4 n5 a0 a1 a2 a3 a4 a5) q0 (val RU9f c q0) w) → Does Tryz.prog RU9f Q (factsAt (factsU9f g n cap j bl off m lc ii cm n0 n1 n2 n3 n4 n5 a0 a1 a2 a3 a4 a5)) i c w
theorem wnU9f {i : Nat} {o : Oper} {c : Act} (ho : RU9f[i]? = some o) (h : o.guard = none) : Region.wanted o (yielded RU9f c.tmps) = true := want_none h
theorem weU9f {i g : Nat} {b : Bool} {o : Oper} {c : Act} (ho : RU9f[i]? = some o) (h : o.guard = some (g, b)) (hg : val RU9f c g = .bool b) : Region.wanted o (yielded RU9f c.tmps) = true := want_eq h hg
section
variable (g n cap j bl off m lc ii : Nat) (cm : Int) (n0 n1 n2 n3 n4 n5 a0 a1 a2 a3 a4 a5 : Value) (Q : Exit → Act → World → Prop)
set_option maxRecDepth 10000 in
theorem oU9f_0 : stepU9f g n cap j bl off m lc ii cm n0 n1 n2 n3 n4 n5 a0 a1 a2 a3 a4 a5 Q 0 := by
 intro c w hb hW hF
 have ho : RU9f[0]? = some (⟨some 19, .move (.tmp 5), 4, "ref.go:380", #[], none⟩ : Oper) := by kernel_rfl
 have e5 := hb.t5
 have hw := wnU9f (c := c) ho rfl
 have ec : ∀ v, c.eval (.const v) = v := fun _ => rfl
 have ef : ∀ f, c.eval (.func f) = .func (.func f) #[] #[] := fun _ => rfl
 refine does_value ho hw (v := .bool false) ?_ rfl (Below.refl _ _)
 generalize c.eval = ρ at *
 clear hF hb hW hw ho
 go_simp
set_option maxRecDepth 10000 in
theorem oU9f_1 : stepU9f g n cap j bl off m lc ii cm n0 n1 n2 n3 n4 n5 a0 a1 a2 a3 a4 a5 Q 1 := by
 intro c w hb hW hF
 have ho : RU9f[1]? = some (⟨some 20, .move (.tmp 19), 4, "ref.go:380", #[⟨0, .data⟩], none⟩ : Oper) := by kernel_rfl
 have e19 : c.eval (.tmp 19) = .bool false := fact_at (p := eqv (.bool false)) (by kernel_rfl) rfl (hF 0 (by decide))
 have hw := wnU9f (c := c) ho rfl
 have ec : ∀ v, c.eval (.const v) = v := fun _ => rfl
 have ef : ∀ f, c.eval (.func f) = .func (.func f) #[] #[] := fun _ => rfl
 refine does_value ho hw (v := .bool false) ?_ rfl (Below.refl _ _)
 generalize c.eval = ρ at *
 clear hF hb hW hw ho
 go_simp
set_option maxRecDepth 10000 in
theorem oU9f_2 : stepU9f g n cap j bl off m lc ii cm n0 n1 n2 n3 n4 n5 a0 a1 a2 a3 a4 a5 Q 2 := by
 intro c w hb hW hF
 have ho : RU9f[2]? = some (⟨some 21, .move (.tmp 3), 24, "ref.go:380", #[⟨1, .guard⟩], some (1, false)⟩ : Oper) := by kernel_rfl
 have e3 := hb.t3
 have hg : val RU9f c 1 = .bool false := hF 1 (by decide)
 have hw := weU9f ho rfl hg
 have ec : ∀ v, c.eval (.const v) = v := fun _ => rfl
 have ef : ∀ f, c.eval (.func f) = .func (.func f) #[] #[] := fun _ => rfl
 refine does_value ho hw (v := .slice (some ⟨g, 0, none⟩) n cap) ?_ rfl (Below.refl _ _)
 generalize c.eval = ρ at *
 clear hF hb hW hw ho hg
 go_simp
set_option maxRecDepth 10000 in
theorem oU9f_3 : stepU9f g n cap j bl off m lc ii cm n0 n1 n2 n3 n4 n5 a0 a1 a2 a3 a4 a5 Q 3 := by
 intro c w hb hW hF
 have ho : RU9f[3]? = some (⟨some 22, .move (.tmp 6), 3, "ref.go:380", #[⟨1, .guard⟩], some (1, false)⟩ : Oper) := by kernel_rfl
 have e6 := hb.t6
 have hg : val RU9f c 1 = .bool false := hF 1 (by decide)
 have hw := weU9f ho rfl hg
 have ec : ∀ v, c.eval (.const v) = v := fun _ => rfl
 have ef : ∀ f, c.eval (.func f) = .func (.func f) #[] #[] := fun _ => rfl
 refine does_value ho hw (v := .int .i64 (j : Int)) ?_ rfl (Below.refl _ _)
 generalize c.eval = ρ at *
 clear hF hb hW hw ho hg
 go_simp
set_option maxRecDepth 10000 in
theorem oU9f_4 : stepU9f g n cap j bl off m lc ii cm n0 n1 n2 n3 n4 n5 a0 a1 a2 a3 a4 a5 Q 4 := by
 intro c w hb hW hF
 have ho : RU9f[4]? = some (⟨some 23, .indexAddr 24 (.tmp 21) (.tmp 22), 0, "ref.go:380", #[⟨2, .data⟩, ⟨3, .data⟩, ⟨1, .guard⟩], some (1, false)⟩ : Oper) := by kernel_rfl
 have e21 : c.eval (.tmp 21) = .slice (some ⟨g, 0, none⟩) n cap := fact_at (p := eqv (.slice (some ⟨g, 0, none⟩) n cap)) (by kernel_rfl) rfl (hF 2 (by decide))
 have e22 : c.eval (.tmp 22) = .int .i64 (j : Int) := fact_at (p := eqv (.int .i64 (j : Int))) (by kernel_rfl) rfl (hF 3 (by decide))
 have hg : val RU9f c 1 = .bool false := hF 1 (by decide)
 have hw := weU9f ho rfl hg
 have ec : ∀ v, c.eval (.const v) = v := fun _ => rfl
 have ef : ∀ f, c.eval (.func f) = .func (.func f) #[] #[] := fun _ => rfl
 have hj := hW.hj
 refine does_value ho hw (v := .pointer (some ⟨g, j * 6, none⟩)) ?_ rfl (Below.refl _ _)
 generalize c.eval = ρ at *
 clear hF hb hW hw ho hg
 go_simp
set_option maxRecDepth 10000 in
theorem oU9f_5 : stepU9f g n cap j bl off m lc ii cm n0 n1 n2 n3 n4 n5 a0 a1 a2 a3 a4 a5 Q 5 := by
 intro c w hb hW hF
 have ho : RU9f[5]? = some (⟨some 24, .load 26 (.tmp 23), 26, "ref.go:380", #[⟨4, .data⟩, ⟨1, .guard⟩], some (1, false)⟩ : Oper) := by kernel_rfl
 have e23 : c.eval (.tmp 23) = .pointer (some ⟨g, j * 6, none⟩) := fact_at (p := eqv (.pointer (some ⟨g, j * 6, none⟩))) (by kernel_rfl) rfl (hF 4 (by decide))
 have hg : val RU9f c 1 = .bool false := hF 1 (by decide)
 have hw := weU9f ho rfl hg
 have ec : ∀ v, c.eval (.const v) = v := fun _ => rfl
 have ef : ∀ f, c.eval (.func f) = .func (.func f) #[] #[] := fun _ => rfl
 have xn0 := hW.xn0
 have xn1 := hW.xn1
 have xn2 := hW.xn2
 have xn3 := hW.xn3
 have xn4 := hW.xn4
 have xn5 := hW.xn5
 refine does_value ho hw (v := .agg #[n0, n1, n2, n3, n4, n5]) ?_ rfl (Below.refl _ _)
 generalize c.eval = ρ at *
 clear hF hb hW hw ho hg
 go_simp
set_option maxRecDepth 10000 in
theorem oU9f_6 : stepU9f g n cap j bl off m lc ii cm n0 n1 n2 n3 n4 n5 a0 a1 a2 a3 a4 a5 Q 6 := by
 intro c w hb hW hF
 have ho : RU9f[6]? = some (⟨some 25, .move (.tmp 0), 24, "ref.go:380", #[⟨1, .guard⟩], some (1, false)⟩ : Oper) := by kernel_rfl
 have e0 := hb.t0
 have hg : val RU9f c 1 = .bool false := hF 1 (by decide)
 have hw := weU9f ho rfl hg
 have ec : ∀ v, c.eval (.const v) = v := fun _ => rfl
 have ef : ∀ f, c.eval (.func f) = .func (.func f) #[] #[] := fun _ => rfl
 refine does_value ho hw (v := .slice (some ⟨bl, off, none⟩) m lc) ?_ rfl (Below.refl _ _)
 generalize c.eval = ρ at *
 clear hF hb hW hw ho hg
 go_simp
set_option maxRecDepth 10000 in
theorem oU9f_7 : stepU9f g n cap j bl off m lc ii cm n0 n1 n2 n3 n4 n5 a0 a1 a2 a3 a4 a5 Q 7 := by
 intro c w hb hW hF
 have ho : RU9f[7]? = some (⟨some 26, .move (.tmp 4), 3, "ref.go:380", #[⟨1, .guard⟩], some (1, false)⟩ : Oper) := by kernel_rfl
 have e4 := hb.t4
 have hg : val RU9f c 1 = .bool false := hF 1 (by decide)
 have hw := weU9f ho rfl hg
 have ec : ∀ v, c.eval (.const v) = v := fun _ => rfl
 have ef : ∀ f, c.eval (.func f) = .func (.func f) #[] #[] := fun _ => rfl
 refine does_value ho hw (v := .int .i64 (ii : Int)) ?_ rfl (Below.refl _ _)
 generalize c.eval = ρ at *
 clear hF hb hW hw ho hg
 go_simp
set_option maxRecDepth 10000 in
theorem oU9f_8 : stepU9f g n cap j bl off m lc ii cm n0 n1 n2 n3 n4 n5 a0 a1 a2 a3 a4 a5 Q 8 := by
 intro c w hb hW hF
 have ho : RU9f[8]? = some (⟨some 27, .indexAddr 24 (.tmp 25) (.tmp 26), 0, "ref.go:380", #[⟨6, .data⟩, ⟨7, .data⟩, ⟨1, .guard⟩], some (1, false)⟩ : Oper) := by kernel_rfl
 have e25 : c.eval (.tmp 25) = .slice (some ⟨bl, off, none⟩) m lc := fact_at (p := eqv (.slice (some ⟨bl, off, none⟩) m lc)) (by kernel_rfl) rfl (hF 6 (by decide))
 have e26 : c.eval (.tmp 26) = .int .i64 (ii : Int) := fact_at (p := eqv (.int .i64 (ii : Int))) (by kernel_rfl) rfl (hF 7 (by decide))
 have hg : val RU9f c 1 = .bool false := hF 1 (by decide)
 have hw := weU9f ho rfl hg
 have ec : ∀ v, c.eval (.const v) = v := fun _ => rfl
 have ef : ∀ f, c.eval (.func f) = .func (.func f) #[] #[] := fun _ => rfl
 have hi := hW.hi
 refine does_value ho hw (v := .pointer (some ⟨bl, off + ii * 6, none⟩)) ?_ rfl (Below.refl _ _)
 generalize c.eval = ρ at *
 clear hF hb hW hw ho hg
 go_simp
set_option maxRecDepth 10000 in
theorem oU9f_9 : stepU9f g n cap j bl off m lc ii cm n0 n1 n2 n3 n4 n5 a0 a1 a2 a3 a4 a5 Q 9 := by
 intro c w hb hW hF
 have ho : RU9f[9]? = some (⟨some 28, .load 26 (.tmp 27), 26, "ref.go:380", #[⟨8, .data⟩, ⟨1, .guard⟩], some (1, false)⟩ : Oper) := by kernel_rfl
 have e27 : c.eval (.tmp 27) = .pointer (some ⟨bl, off + ii * 6, none⟩) := fact_at (p := eqv (.pointer (some ⟨bl, off + ii * 6, none⟩))) (by kernel_rfl) rfl (hF 8 (by decide))
 have hg : val RU9f c 1 = .bool false := hF 1 (by decide)
 have hw := weU9f ho rfl hg
 have ec : ∀ v, c.eval (.const v) = v := fun _ => rfl
 have ef : ∀ f, c.eval (.func f) = .func (.func f) #[] #[] := fun _ => rfl
 have xa0 := hW.xa0
 have xa1 := hW.xa1
 have xa2 := hW.xa2
 have xa3 := hW.xa3
 have xa4 := hW.xa4
 have xa5 := hW.xa5
 refine does_value ho hw (v := .agg #[a0, a1, a2, a3, a4, a5]) ?_ rfl (Below.refl _ _)
 generalize c.eval = ρ at *
 clear hF hb hW hw ho hg
 go_simp
set_option maxRecDepth 10000 in
theorem oU9f_10 : stepU9f g n cap j bl off m lc ii cm n0 n1 n2 n3 n4 n5 a0 a1 a2 a3 a4 a5 Q 10 := by
 intro c w hb hW hF
 have ho : RU9f[10]? = some (⟨some 29, .call { callee := .value (.func 30), args := #[.tmp 24, .tmp 28], argTypes := #[26, 26] }, 3, "ref.go:380", #[⟨5, .data⟩, ⟨9, .data⟩, ⟨1, .chain⟩, ⟨1, .guard⟩], some (1, false)⟩ : Oper) := by kernel_rfl
 have e24 : c.eval (.tmp 24) = .agg #[n0, n1, n2, n3, n4, n5] := fact_at (p := eqv (.agg #[n0, n1, n2, n3, n4, n5])) (by kernel_rfl) rfl (hF 5 (by decide))
 have e28 : c.eval (.tmp 28) = .agg #[a0, a1, a2, a3, a4, a5] := fact_at (p := eqv (.agg #[a0, a1, a2, a3, a4, a5])) (by kernel_rfl) rfl (hF 9 (by decide))
 have hg : val RU9f c 1 = .bool false := hF 1 (by decide)
 have hw := weU9f ho rfl hg
 have ec : ∀ v, c.eval (.const v) = v := fun _ => rfl
 have ef : ∀ f, c.eval (.func f) = .func (.func f) #[] #[] := fun _ => rfl
 refine does_call ho hw (f := 30) (args := #[.agg #[n0, n1, n2, n3, n4, n5], .agg #[a0, a1, a2, a3, a4, a5]]) ?_ (Calls.mono (hW.k1) fun e w' ⟨h1, h2⟩ => ⟨_, h1, rfl, h2⟩)
 generalize c.eval = ρ at *
 clear hF hb hW hw ho hg
 go_simp
set_option maxRecDepth 10000 in
theorem oU9f_11 : stepU9f g n cap j bl off m lc ii cm n0 n1 n2 n3 n4 n5 a0 a1 a2 a3 a4 a5 Q 11 := by
 intro c w hb hW hF
 have ho : RU9f[11]? = some (⟨some 30, .binOp .eql 3 (.tmp 29) (.const (Value.int .i64 0)) 3, 4, "ref.go:380", #[⟨10, .data⟩, ⟨1, .guard⟩], some (1, false)⟩ : Oper) := by kernel_rfl
 have e29 : c.eval (.tmp 29) = .int .i64 cm := fact_at (p := eqv (.int .i64 cm)) (by kernel_rfl) rfl (hF 10 (by decide))
 have hg : val RU9f c 1 = .bool false := hF 1 (by decide)
 have hw := weU9f ho rfl hg
 have ec : ∀ v, c.eval (.const v) = v := fun _ => rfl
 have ef : ∀ f, c.eval (.func f) = .func (.func f) #[] #[] := fun _ => rfl
 refine does_value ho hw (v := .bool (cm == 0)) ?_ rfl (Below.refl _ _)
 generalize c.eval = ρ at *
 clear hF hb hW hw ho hg
 go_simp
set_option maxRecDepth 10000 in
theorem oU9f_12 : stepU9f g n cap j bl off m lc ii cm n0 n1 n2 n3 n4 n5 a0 a1 a2 a3 a4 a5 Q 12 := by
 intro c w hb hW hF
 have ho : RU9f[12]? = some (⟨some 31, .pick (.tmp 20) (.const (Value.bool true)) (.tmp 30), 4, "ref.go:380", #[⟨1, .data⟩, ⟨11, .data⟩], none⟩ : Oper) := by kernel_rfl
 have e20 : c.eval (.tmp 20) = .bool false := fact_at (p := eqv (.bool false)) (by kernel_rfl) rfl (hF 1 (by decide))
 have e30 : c.eval (.tmp 30) = .bool (cm == 0) := fact_at (p := eqv (.bool (cm == 0))) (by kernel_rfl) rfl (hF 11 (by decide))
 have hw := wnU9f (c := c) ho rfl
 have ec : ∀ v, c.eval (.const v) = v := fun _ => rfl
 have ef : ∀ f, c.eval (.func f) = .func (.func f) #[] #[] := fun _ => rfl
 refine does_value ho hw (v := .bool (cm == 0)) ?_ rfl (Below.refl _ _)
 generalize c.eval = ρ at *
 clear hF hb hW hw ho
 go_simp
set_option maxRecDepth 10000 in
theorem oU9f_13 : stepU9f g n cap j bl off m lc ii cm n0 n1 n2 n3 n4 n5 a0 a1 a2 a3 a4 a5 Q 13 := by
 intro c w hb hW hF
 have ho : RU9f[13]? = some (⟨some 5, .assign (.tmp 31), 4, "ref.go:380", #[⟨12, .data⟩, ⟨10, .chain⟩, ⟨0, .phase⟩, ⟨1, .phase⟩, ⟨2, .phase⟩, ⟨3, .phase⟩, ⟨4, .phase⟩, ⟨5, .phase⟩, ⟨6, .phase⟩, ⟨7, .phase⟩, ⟨8, .phase⟩, ⟨9, .phase⟩, ⟨10, .phase⟩, ⟨11, .phase⟩, ⟨12, .phase⟩], none⟩ : Oper) := by kernel_rfl
 have e31 : c.eval (.tmp 31) = .bool (cm == 0) := fact_at (p := eqv (.bool (cm == 0))) (by kernel_rfl) rfl (hF 12 (by decide))
 have hw := wnU9f (c := c) ho rfl
 have ec : ∀ v, c.eval (.const v) = v := fun _ => rfl
 have ef : ∀ f, c.eval (.func f) = .func (.func f) #[] #[] := fun _ => rfl
 refine does_value ho hw (v := .bool (cm == 0)) ?_ rfl (Below.refl _ _)
 generalize c.eval = ρ at *
 clear hF hb hW hw ho
 go_simp
end
theorem stableU9f (g n cap j bl off m lc ii : Nat) (cm : Int) (n0 n1 n2 n3 n4 n5 a0 a1 a2 a3 a4 a5 : Value) : ∀ pr ∈ factsU9f g n cap j bl off m lc ii cm n0 n1 n2 n3 n4 n5 a0 a1 a2 a3 a4 a5, Stable pr := by
 unfold factsU9f
 refine List.forall_mem_cons.2 ⟨eqv_stable _, ?_⟩
 refine List.forall_mem_cons.2 ⟨eqv_stable _, ?_⟩
 refine List.forall_mem_cons.2 ⟨eqv_stable _, ?_⟩
 refine List.forall_mem_cons.2 ⟨eqv_stable _, ?_⟩
 refine List.forall_mem_cons.2 ⟨eqv_stable _, ?_⟩
 refine List.forall_mem_cons.2 ⟨eqv_stable _, ?_⟩
 refine List.forall_mem_cons.2 ⟨eqv_stable _, ?_⟩
 refine List.forall_mem_cons.2 ⟨eqv_stable _, ?_⟩
 refine List.forall_mem_cons.2 ⟨eqv_stable _, ?_⟩
 refine List.forall_mem_cons.2 ⟨eqv_stable _, ?_⟩
 refine List.forall_mem_cons.2 ⟨eqv_stable _, ?_⟩
 refine List.forall_mem_cons.2 ⟨eqv_stable _, ?_⟩
 refine List.forall_mem_cons.2 ⟨eqv_stable _, ?_⟩
 refine List.forall_mem_cons.2 ⟨eqv_stable _, ?_⟩
 exact List.forall_mem_nil _
set_option maxRecDepth 100000 in
theorem allU9f (g n cap j bl off m lc ii : Nat) (cm : Int) (n0 n1 n2 n3 n4 n5 a0 a1 a2 a3 a4 a5 : Value) (Q : Exit → Act → World → Prop) : ∀ i, i < 14 → (fun i => ∀ c w, BaseU9f g n cap j bl off m lc ii cm n0 n1 n2 n3 n4 n5 a0 a1 a2 a3 a4 a5 c → WorldU9f g n cap j bl off m lc ii cm n0 n1 n2 n3 n4 n5 a0 a1 a2 a3 a4 a5 w → (∀ q0 ∈ ancU9f i, factsAt (factsU9f g n cap j bl off m lc ii cm n0 n1 n2 n3 n4 n5 a0 a1 a2 a3 a4 a5) q0 (val RU9f c q0) w) → Does Tryz.prog RU9f Q (factsAt (factsU9f g n cap j bl off m lc ii cm n0 n1 n2 n3 n4 n5 a0 a1 a2 a3 a4 a5)) i c w) i := by
 refine below_succ ?_ (fun c w => oU9f_13 g n cap j bl off m lc ii cm n0 n1 n2 n3 n4 n5 a0 a1 a2 a3 a4 a5 Q c w)
 refine below_succ ?_ (fun c w => oU9f_12 g n cap j bl off m lc ii cm n0 n1 n2 n3 n4 n5 a0 a1 a2 a3 a4 a5 Q c w)
 refine below_succ ?_ (fun c w => oU9f_11 g n cap j bl off m lc ii cm n0 n1 n2 n3 n4 n5 a0 a1 a2 a3 a4 a5 Q c w)
 refine below_succ ?_ (fun c w => oU9f_10 g n cap j bl off m lc ii cm n0 n1 n2 n3 n4 n5 a0 a1 a2 a3 a4 a5 Q c w)
 refine below_succ ?_ (fun c w => oU9f_9 g n cap j bl off m lc ii cm n0 n1 n2 n3 n4 n5 a0 a1 a2 a3 a4 a5 Q c w)
 refine below_succ ?_ (fun c w => oU9f_8 g n cap j bl off m lc ii cm n0 n1 n2 n3 n4 n5 a0 a1 a2 a3 a4 a5 Q c w)
 refine below_succ ?_ (fun c w => oU9f_7 g n cap j bl off m lc ii cm n0 n1 n2 n3 n4 n5 a0 a1 a2 a3 a4 a5 Q c w)
 refine below_succ ?_ (fun c w => oU9f_6 g n cap j bl off m lc ii cm n0 n1 n2 n3 n4 n5 a0 a1 a2 a3 a4 a5 Q c w)
 refine below_succ ?_ (fun c w => oU9f_5 g n cap j bl off m lc ii cm n0 n1 n2 n3 n4 n5 a0 a1 a2 a3 a4 a5 Q c w)
 refine below_succ ?_ (fun c w => oU9f_4 g n cap j bl off m lc ii cm n0 n1 n2 n3 n4 n5 a0 a1 a2 a3 a4 a5 Q c w)
 refine below_succ ?_ (fun c w => oU9f_3 g n cap j bl off m lc ii cm n0 n1 n2 n3 n4 n5 a0 a1 a2 a3 a4 a5 Q c w)
 refine below_succ ?_ (fun c w => oU9f_2 g n cap j bl off m lc ii cm n0 n1 n2 n3 n4 n5 a0 a1 a2 a3 a4 a5 Q c w)
 refine below_succ ?_ (fun c w => oU9f_1 g n cap j bl off m lc ii cm n0 n1 n2 n3 n4 n5 a0 a1 a2 a3 a4 a5 Q c w)
 refine below_succ ?_ (fun c w => oU9f_0 g n cap j bl off m lc ii cm n0 n1 n2 n3 n4 n5 a0 a1 a2 a3 a4 a5 Q c w)
 exact below_zero
theorem dstU9f : ∀ i, i < RU9f.size → ∃ d, slotOf RU9f i = some d := by
 intro i hi
 rw [show RU9f.size = 14 by kernel_rfl] at hi
 match i, hi with
 | 0, _ => exact ⟨19, by kernel_rfl⟩
 | 1, _ => exact ⟨20, by kernel_rfl⟩
 | 2, _ => exact ⟨21, by kernel_rfl⟩
 | 3, _ => exact ⟨22, by kernel_rfl⟩
 | 4, _ => exact ⟨23, by kernel_rfl⟩
 | 5, _ => exact ⟨24, by kernel_rfl⟩
 | 6, _ => exact ⟨25, by kernel_rfl⟩
 | 7, _ => exact ⟨26, by kernel_rfl⟩
 | 8, _ => exact ⟨27, by kernel_rfl⟩
 | 9, _ => exact ⟨28, by kernel_rfl⟩
 | 10, _ => exact ⟨29, by kernel_rfl⟩
 | 11, _ => exact ⟨30, by kernel_rfl⟩
 | 12, _ => exact ⟨31, by kernel_rfl⟩
 | 13, _ => exact ⟨5, by kernel_rfl⟩
theorem regionU9f (g n cap j bl off m lc ii : Nat) (cm : Int) (n0 n1 n2 n3 n4 n5 a0 a1 a2 a3 a4 a5 : Value) (Q : Exit → Act → World → Prop) (base : Act) (w0 : World) (hsz : base.tmps.size = 42) (hb : BaseU9f g n cap j bl off m lc ii cm n0 n1 n2 n3 n4 n5 a0 a1 a2 a3 a4 a5 base)
  (hW : ∀ w, Below w0.heap.size w0 w → WorldU9f g n cap j bl off m lc ii cm n0 n1 n2 n3 n4 n5 a0 a1 a2 a3 a4 a5 w) (hQ : ∀ c w, Same RU9f base c → Below w0.heap.size w0 w → c.eval (.tmp 5) = .bool (cm == 0) → Q .normal c w) : (Code.region 9 RU9f true).wp Tryz.prog Q base w0 := by
 refine facts_ruleK 13 (.bool false) ((val_eq (show slotOf RU9f 13 = some 5 by kernel_rfl)).trans hb.t5) (A := ancU9f) (F := factsAt (factsU9f g n cap j bl off m lc ii cm n0 n1 n2 n3 n4 n5 a0 a1 a2 a3 a4 a5)) (by kernel_rfl) (by rw [hsz]; kernel_rfl) (dstU9f) (fun i v w w' => factsAt_stable (stableU9f g n cap j bl off m lc ii cm n0 n1 n2 n3 n4 n5 a0 a1 a2 a3 a4 a5) i v w w') ?_ ?_
 ·intro i hi c w hS hB hold hF
  have hlt : i < 14 := by rwa [show RU9f.size = 14 by kernel_rfl] at hi
  exact allU9f g n cap j bl off m lc ii cm n0 n1 n2 n3 n4 n5 a0 a1 a2 a3 a4 a5 Q i (by rwa [show RU9f.size = 14 by kernel_rfl] at hi) c w ⟨(same_eval hS (by kernel_rfl)).trans hb.t0, (same_eval hS (by kernel_rfl)).trans hb.t3, (same_eval hS (by kernel_rfl)).trans hb.t4, (same_eval hS (by kernel_rfl)).trans hb.t6, (val_eq (show slotOf RU9f 13 = some 5 by kernel_rfl)).symm.trans (hold ((show ∀ i, i < 14 → (i ∈ ancU9f 13 ∨ i = 13) by decide) i hlt))⟩ (hW w hB) hF
 ·intro c w hS hB hF
  exact hQ c w hS hB (fact_at (p := eqv (.bool (cm == 0))) (by kernel_rfl) rfl (hF 13 (by rw [show RU9f.size = 14 by kernel_rfl]; omega)))
end Go.Proofs.YtbpmhgcjefpigaaGreatDoor
