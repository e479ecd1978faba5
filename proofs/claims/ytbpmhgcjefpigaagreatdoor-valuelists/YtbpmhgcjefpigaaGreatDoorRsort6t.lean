/- A statement that reads, calls and lays rows of its own: operation by operation, in whatever order. -/
import Derived.Test.YtbpmhgcjefpigaaGreatDoorJoin21
namespace Go.Proofs.YtbpmhgcjefpigaaGreatDoor
open Go.RowKit Go.WideShapes Go.Shelf
set_option linter.unusedVariables false
set_option linter.unusedSimpArgs false
noncomputable def RZ6t : Array Oper := regionAt Tryz.f48 6
def ancZ6t (i : Nat) : List Nat := ([[], [], [1], [0, 2], [3], [4], [4], [4, 5, 6], [4, 7], [4], [4], [4, 9, 10], [4, 11], [4, 8, 12], [4, 13], [4, 14]] : List (List Nat)).getD i []
def factsZ6t (g n cap j bl off m lc ii : Nat) (cm : Int) (n0 n1 n2 n3 n4 n5 a0 a1 a2 a3 a4 a5 : Value) : List (Value → World → Prop) :=
 [eqv (.int .i64 (j : Int)), eqv (.slice (some ⟨g, 0, none⟩) n cap), eqv (.int .i64 (n : Int)), eqv (.bool true), eqv (.bool true), eqv (.slice (some ⟨g, 0, none⟩) n cap), eqv (.int .i64 (j : Int)), eqv (.pointer (some ⟨g, j * 6, none⟩)), eqv (.agg #[n0, n1, n2, n3, n4, n5]), eqv (.slice (some ⟨bl, off, none⟩) m lc), eqv (.int .i64 (ii : Int)), eqv (.pointer (some ⟨bl, off + ii * 6, none⟩)), eqv (.agg #[a0, a1, a2, a3, a4, a5]), eqv (.int .i64 cm), eqv (.bool (decide (cm ≤ 0))), eqv (.bool (decide (cm ≤ 0)))]
structure BaseZ6t (g n cap j bl off m lc ii : Nat) (cm : Int) (n0 n1 n2 n3 n4 n5 a0 a1 a2 a3 a4 a5 : Value) (c : Act) : Prop where
 t0 : c.eval (.tmp 0) = .slice (some ⟨bl, off, none⟩) m lc
 t3 : c.eval (.tmp 3) = .slice (some ⟨g, 0, none⟩) n cap
 t4 : c.eval (.tmp 4) = .int .i64 (ii : Int)
 t5 : c.eval (.tmp 5) = .int .i64 (j : Int)
structure WorldZ6t (g n cap j bl off m lc ii : Nat) (cm : Int) (n0 n1 n2 n3 n4 n5 a0 a1 a2 a3 a4 a5 : Value) (w : World) : Prop where
 xn0 : w.cell? ⟨g, j * 6, none⟩ = some n0
 xn1 : w.cell? ⟨g, j * 6 + 1, none⟩ = some n1
 xn2 : w.cell? ⟨g, j * 6 + 2, none⟩ = some n2
 xn3 : w.cell? ⟨g, j * 6 + 3, none⟩ = some n3
 xn4 : w.cell? ⟨g, j * 6 + 4, none⟩ = some n4
 xn5 : w.cell? ⟨g, j * 6 + 5, none⟩ = some n5
 xa0 : w.cell? ⟨bl, off + ii * 6, none⟩ = some a0
 xa1 : w.cell? ⟨bl, off + ii * 6 + 1, none⟩ = some a1
 xa2 : w.cell? ⟨bl, off + ii * 6 + 2, none⟩ = some a2
 xa3 : w.cell? ⟨bl, off + ii * 6 + 3, none⟩ = some a3
 xa4 : w.cell? ⟨bl, off + ii * 6 + 4, none⟩ = some a4
 xa5 : w.cell? ⟨bl, off + ii * 6 + 5, none⟩ = some a5
 k1 : Calls Tryz.prog 30 #[.agg #[n0, n1, n2, n3, n4, n5], .agg #[a0, a1, a2, a3, a4, a5]] w fun e w' => e = .returned (.int .i64 cm) ∧ Below w.heap.size w w'
 hj : j < n
 hi : ii < m
def stepZ6t (g n cap j bl off m lc ii : Nat) (cm : Int) (n0 n1 n2 n3 n4 n5 a0 a1 a2 a3 a4 a5 : Value) (Q : Exit → Act → World → Prop) (i : Nat) : Prop := ∀ (c : Act) (w : World), BaseZ6t g n cap j bl off m lc ii cm n0 n1 n2 n3 n4 n5 a0 a1 a2 a3 a4 a5 c → WorldZ6t g n cap j bl off m lc ii cm n0 n1 n2 n3 n4 n5 a0 a1 a2 a3 a4 a5 w → (∀ q0 ∈ ancZ6t i, factsAt (factsZ6t g n cap j bl off m lc ii cm n0 n1 n2 n3 n4 n5 a0 a1 a2 a3 a4 a5) q0 (val RZ6t c q0) w) → Does Tryz.prog RZ6t Q (factsAt (factsZ6t g n cap j bl off m lc ii cm n0 n1 n2 n3 n4 n5 a0 a1 a2 a3 a4 a5)) i c w
theorem wnZ6t {i : Nat} {o : Oper} {c : Act} (ho : RZ6t[i]? = some o) (h : o.guard = none) : Region.wanted o (yielded RZ6t c.tmps) = true := want_none h
theorem weZ6t {i g : Nat} {b : Bool} {o : Oper} {c : Act} (ho : RZ6t[i]? = some o) (h : o.guard = some (g, b)) (hg : val RZ6t c g = .bool b) : Region.wanted o (yielded RZ6t c.tmps) = true := want_eq h hg
section
variable (g n cap j bl off m lc ii : Nat) (cm : Int) (n0 n1 n2 n3 n4 n5 a0 a1 a2 a3 a4 a5 : Value) (Q : Exit → Act → World → Prop)
set_option maxRecDepth 10000 in
theorem oZ6t_0 : stepZ6t g n cap j bl off m lc ii cm n0 n1 n2 n3 n4 n5 a0 a1 a2 a3 a4 a5 Q 0 := by
 intro c w hb hW hF
 have ho : RZ6t[0]? = some (⟨some 13, .move (.tmp 5), 3, "ref.go:364", #[], none⟩ : Oper) := by kernel_rfl
 have e5 := hb.t5
 have hw := wnZ6t (c := c) ho rfl
 have ec : ∀ v, c.eval (.const v) = v := fun _ => rfl
 have ef : ∀ f, c.eval (.func f) = .func (.func f) #[] #[] := fun _ => rfl
 refine does_value ho hw (v := .int .i64 (j : Int)) ?_ rfl (Below.refl _ _)
 generalize c.eval = ρ at *
 clear hF hb hW hw ho
 go_simp
set_option maxRecDepth 10000 in
theorem oZ6t_1 : stepZ6t g n cap j bl off m lc ii cm n0 n1 n2 n3 n4 n5 a0 a1 a2 a3 a4 a5 Q 1 := by
 intro c w hb hW hF
 have ho : RZ6t[1]? = some (⟨some 14, .move (.tmp 3), 24, "ref.go:364", #[], none⟩ : Oper) := by kernel_rfl
 have e3 := hb.t3
 have hw := wnZ6t (c := c) ho rfl
 have ec : ∀ v, c.eval (.const v) = v := fun _ => rfl
 have ef : ∀ f, c.eval (.func f) = .func (.func f) #[] #[] := fun _ => rfl
 refine does_value ho hw (v := .slice (some ⟨g, 0, none⟩) n cap) ?_ rfl (Below.refl _ _)
 generalize c.eval = ρ at *
 clear hF hb hW hw ho
 go_simp
set_option maxRecDepth 10000 in
theorem oZ6t_2 : stepZ6t g n cap j bl off m lc ii cm n0 n1 n2 n3 n4 n5 a0 a1 a2 a3 a4 a5 Q 2 := by
 intro c w hb hW hF
 have ho : RZ6t[2]? = some (⟨some 15, .call { callee := .builtin .len, args := #[.tmp 14], argTypes := #[24] }, 3, "ref.go:364", #[⟨1, .data⟩], none⟩ : Oper) := by kernel_rfl
 have e14 : c.eval (.tmp 14) = .slice (some ⟨g, 0, none⟩) n cap := fact_at (p := eqv (.slice (some ⟨g, 0, none⟩) n cap)) (by kernel_rfl) rfl (hF 1 (by decide))
 have hw := wnZ6t (c := c) ho rfl
 have ec : ∀ v, c.eval (.const v) = v := fun _ => rfl
 have ef : ∀ f, c.eval (.func f) = .func (.func f) #[] #[] := fun _ => rfl
 refine does_value ho hw (v := .int .i64 (n : Int)) ?_ rfl (Below.refl _ _)
 generalize c.eval = ρ at *
 clear hF hb hW hw ho
 go_simp
set_option maxRecDepth 10000 in
theorem oZ6t_3 : stepZ6t g n cap j bl off m lc ii cm n0 n1 n2 n3 n4 n5 a0 a1 a2 a3 a4 a5 Q 3 := by
 intro c w hb hW hF
 have ho : RZ6t[3]? = some (⟨some 16, .binOp .lss 3 (.tmp 13) (.tmp 15) 3, 4, "ref.go:364", #[⟨0, .data⟩, ⟨2, .data⟩], none⟩ : Oper) := by kernel_rfl
 have e13 : c.eval (.tmp 13) = .int .i64 (j : Int) := fact_at (p := eqv (.int .i64 (j : Int))) (by kernel_rfl) rfl (hF 0 (by decide))
 have e15 : c.eval (.tmp 15) = .int .i64 (n : Int) := fact_at (p := eqv (.int .i64 (n : Int))) (by kernel_rfl) rfl (hF 2 (by decide))
 have hw := wnZ6t (c := c) ho rfl
 have ec : ∀ v, c.eval (.const v) = v := fun _ => rfl
 have ef : ∀ f, c.eval (.func f) = .func (.func f) #[] #[] := fun _ => rfl
 have hj := hW.hj
 refine does_value ho hw (v := .bool true) ?_ rfl (Below.refl _ _)
 generalize c.eval = ρ at *
 clear hF hb hW hw ho
 go_simp
set_option maxRecDepth 10000 in
theorem oZ6t_4 : stepZ6t g n cap j bl off m lc ii cm n0 n1 n2 n3 n4 n5 a0 a1 a2 a3 a4 a5 Q 4 := by
 intro c w hb hW hF
 have ho : RZ6t[4]? = some (⟨some 17, .move (.tmp 16), 4, "ref.go:364", #[⟨3, .data⟩], none⟩ : Oper) := by kernel_rfl
 have e16 : c.eval (.tmp 16) = .bool true := fact_at (p := eqv (.bool true)) (by kernel_rfl) rfl (hF 3 (by decide))
 have hw := wnZ6t (c := c) ho rfl
 have ec : ∀ v, c.eval (.const v) = v := fun _ => rfl
 have ef : ∀ f, c.eval (.func f) = .func (.func f) #[] #[] := fun _ => rfl
 refine does_value ho hw (v := .bool true) ?_ rfl (Below.refl _ _)
 generalize c.eval = ρ at *
 clear hF hb hW hw ho
 go_simp
set_option maxRecDepth 10000 in
theorem oZ6t_5 : stepZ6t g n cap j bl off m lc ii cm n0 n1 n2 n3 n4 n5 a0 a1 a2 a3 a4 a5 Q 5 := by
 intro c w hb hW hF
 have ho : RZ6t[5]? = some (⟨some 18, .move (.tmp 3), 24, "ref.go:364", #[⟨4, .guard⟩], some (4, true)⟩ : Oper) := by kernel_rfl
 have e3 := hb.t3
 have hg : val RZ6t c 4 = .bool true := hF 4 (by decide)
 have hw := weZ6t ho rfl hg
 have ec : ∀ v, c.eval (.const v) = v := fun _ => rfl
 have ef : ∀ f, c.eval (.func f) = .func (.func f) #[] #[] := fun _ => rfl
 refine does_value ho hw (v := .slice (some ⟨g, 0, none⟩) n cap) ?_ rfl (Below.refl _ _)
 generalize c.eval = ρ at *
 clear hF hb hW hw ho hg
 go_simp
set_option maxRecDepth 10000 in
theorem oZ6t_6 : stepZ6t g n cap j bl off m lc ii cm n0 n1 n2 n3 n4 n5 a0 a1 a2 a3 a4 a5 Q 6 := by
 intro c w hb hW hF
 have ho : RZ6t[6]? = some (⟨some 19, .move (.tmp 5), 3, "ref.go:364", #[⟨4, .guard⟩], some (4, true)⟩ : Oper) := by kernel_rfl
 have e5 := hb.t5
 have hg : val RZ6t c 4 = .bool true := hF 4 (by decide)
 have hw := weZ6t ho rfl hg
 have ec : ∀ v, c.eval (.const v) = v := fun _ => rfl
 have ef : ∀ f, c.eval (.func f) = .func (.func f) #[] #[] := fun _ => rfl
 refine does_value ho hw (v := .int .i64 (j : Int)) ?_ rfl (Below.refl _ _)
 generalize c.eval = ρ at *
 clear hF hb hW hw ho hg
 go_simp
set_option maxRecDepth 10000 in
theorem oZ6t_7 : stepZ6t g n cap j bl off m lc ii cm n0 n1 n2 n3 n4 n5 a0 a1 a2 a3 a4 a5 Q 7 := by
 intro c w hb hW hF
 have ho : RZ6t[7]? = some (⟨some 20, .indexAddr 24 (.tmp 18) (.tmp 19), 0, "ref.go:364", #[⟨5, .data⟩, ⟨6, .data⟩, ⟨4, .guard⟩], some (4, true)⟩ : Oper) := by kernel_rfl
 have e18 : c.eval (.tmp 18) = .slice (some ⟨g, 0, none⟩) n cap := fact_at (p := eqv (.slice (some ⟨g, 0, none⟩) n cap)) (by kernel_rfl) rfl (hF 5 (by decide))
 have e19 : c.eval (.tmp 19) = .int .i64 (j : Int) := fact_at (p := eqv (.int .i64 (j : Int))) (by kernel_rfl) rfl (hF 6 (by decide))
 have hg : val RZ6t c 4 = .bool true := hF 4 (by decide)
 have hw := weZ6t ho rfl hg
 have ec : ∀ v, c.eval (.const v) = v := fun _ => rfl
 have ef : ∀ f, c.eval (.func f) = .func (.func f) #[] #[] := fun _ => rfl
 have hj := hW.hj
 refine does_value ho hw (v := .pointer (some ⟨g, j * 6, none⟩)) ?_ rfl (Below.refl _ _)
 generalize c.eval = ρ at *
 clear hF hb hW hw ho hg
 go_simp
set_option maxRecDepth 10000 in
theorem oZ6t_8 : stepZ6t g n cap j bl off m lc ii cm n0 n1 n2 n3 n4 n5 a0 a1 a2 a3 a4 a5 Q 8 := by
 intro c w hb hW hF
 have ho : RZ6t[8]? = some (⟨some 21, .load 26 (.tmp 20), 26, "ref.go:364", #[⟨7, .data⟩, ⟨4, .guard⟩], some (4, true)⟩ : Oper) := by kernel_rfl
 have e20 : c.eval (.tmp 20) = .pointer (some ⟨g, j * 6, none⟩) := fact_at (p := eqv (.pointer (some ⟨g, j * 6, none⟩))) (by kernel_rfl) rfl (hF 7 (by decide))
 have hg : val RZ6t c 4 = .bool true := hF 4 (by decide)
 have hw := weZ6t ho rfl hg
 have ec : ∀ v, c.eval (.const v) = v := fun _ => rfl
 have ef : ∀ f, c.eval (.func f) = .func (.func f) #[] #[] := fun _ => rfl
 have xn0 := hW.xn0
 have xn1 := hW.xn1
 have xn2 := hW.xn2
 have xn3 := hW.xn3
 have xn4 := hW.xn4
 have xn5 := hW.xn5
 refine does_value ho hw (v := .agg #[n0, n1, n2, n3, n4, n5]) ?_ rfl (Below.refl _ _)
 generalize c.eval = ρ at *
 clear hF hb hW hw ho hg
 go_simp
set_option maxRecDepth 10000 in
theorem oZ6t_9 : stepZ6t g n cap j bl off m lc ii cm n0 n1 n2 n3 n4 n5 a0 a1 a2 a3 a4 a5 Q 9 := by
 intro c w hb hW hF
 have ho : RZ6t[9]? = some (⟨some 22, .move (.tmp 0), 24, "ref.go:364", #[⟨4, .guard⟩], some (4, true)⟩ : Oper) := by kernel_rfl
 have e0 := hb.t0
 have hg : val RZ6t c 4 = .bool true := hF 4 (by decide)
 have hw := weZ6t ho rfl hg
 have ec : ∀ v, c.eval (.const v) = v := fun _ => rfl
 have ef : ∀ f, c.eval (.func f) = .func (.func f) #[] #[] := fun _ => rfl
 refine does_value ho hw (v := .slice (some ⟨bl, off, none⟩) m lc) ?_ rfl (Below.refl _ _)
 generalize c.eval = ρ at *
 clear hF hb hW hw ho hg
 go_simp
set_option maxRecDepth 10000 in
theorem oZ6t_10 : stepZ6t g n cap j bl off m lc ii cm n0 n1 n2 n3 n4 n5 a0 a1 a2 a3 a4 a5 Q 10 := by
 intro c w hb hW hF
 have ho : RZ6t[10]? = some (⟨some 23, .move (.tmp 4), 3, "ref.go:364", #[⟨4, .guard⟩], some (4, true)⟩ : Oper) := by kernel_rfl
 have e4 := hb.t4
 have hg : val RZ6t c 4 = .bool true := hF 4 (by decide)
 have hw := weZ6t ho rfl hg
 have ec : ∀ v, c.eval (.const v) = v := fun _ => rfl
 have ef : ∀ f, c.eval (.func f) = .func (.func f) #[] #[] := fun _ => rfl
 refine does_value ho hw (v := .int .i64 (ii : Int)) ?_ rfl (Below.refl _ _)
 generalize c.eval = ρ at *
 clear hF hb hW hw ho hg
 go_simp
set_option maxRecDepth 10000 in
theorem oZ6t_11 : stepZ6t g n cap j bl off m lc ii cm n0 n1 n2 n3 n4 n5 a0 a1 a2 a3 a4 a5 Q 11 := by
 intro c w hb hW hF
 have ho : RZ6t[11]? = some (⟨some 24, .indexAddr 24 (.tmp 22) (.tmp 23), 0, "ref.go:364", #[⟨9, .data⟩, ⟨10, .data⟩, ⟨4, .guard⟩], some (4, true)⟩ : Oper) := by kernel_rfl
 have e22 : c.eval (.tmp 22) = .slice (some ⟨bl, off, none⟩) m lc := fact_at (p := eqv (.slice (some ⟨bl, off, none⟩) m lc)) (by kernel_rfl) rfl (hF 9 (by decide))
 have e23 : c.eval (.tmp 23) = .int .i64 (ii : Int) := fact_at (p := eqv (.int .i64 (ii : Int))) (by kernel_rfl) rfl (hF 10 (by decide))
 have hg : val RZ6t c 4 = .bool true := hF 4 (by decide)
 have hw := weZ6t ho rfl hg
 have ec : ∀ v, c.eval (.const v) = v := fun _ => rfl
 have ef : ∀ f, c.eval (.func f) = .func (.func f) #[] #[] := fun _ => rfl
 have hi := hW.hi
 refine does_value ho hw (v := .pointer (some ⟨bl, off + ii * 6, none⟩)) ?_ rfl (Below.refl _ _)
 generalize c.eval = ρ at *
 clear hF hb hW hw ho hg
 go_simp
set_option maxRecDepth 10000 in
theorem oZ6t_12 : stepZ6t g n cap j bl off m lc ii cm n0 n1 n2 n3 n4 n5 a0 a1 a2 a3 a4 a5 Q 12 := by
 intro c w hb hW hF
 have ho : RZ6t[12]? = some (⟨some 25, .load 26 (.tmp 24), 26, "ref.go:364", #[⟨11, .data⟩, ⟨4, .guard⟩], some (4, true)⟩ : Oper) := by kernel_rfl
 have e24 : c.eval (.tmp 24) = .pointer (some ⟨bl, off + ii * 6, none⟩) := fact_at (p := eqv (.pointer (some ⟨bl, off + ii * 6, none⟩))) (by kernel_rfl) rfl (hF 11 (by decide))
 have hg : val RZ6t c 4 = .bool true := hF 4 (by decide)
 have hw := weZ6t ho rfl hg
 have ec : ∀ v, c.eval (.const v) = v := fun _ => rfl
 have ef : ∀ f, c.eval (.func f) = .func (.func f) #[] #[] := fun _ => rfl
 have xa0 := hW.xa0
 have xa1 := hW.xa1
 have xa2 := hW.xa2
 have xa3 := hW.xa3
 have xa4 := hW.xa4
 have xa5 := hW.xa5
 refine does_value ho hw (v := .agg #[a0, a1, a2, a3, a4, a5]) ?_ rfl (Below.refl _ _)
 generalize c.eval = ρ at *
 clear hF hb hW hw ho hg
 go_simp
set_option maxRecDepth 10000 in
theorem oZ6t_13 : stepZ6t g n cap j bl off m lc ii cm n0 n1 n2 n3 n4 n5 a0 a1 a2 a3 a4 a5 Q 13 := by
 intro c w hb hW hF
 have ho : RZ6t[13]? = some (⟨some 26, .call { callee := .value (.func 30), args := #[.tmp 21, .tmp 25], argTypes := #[26, 26] }, 3, "ref.go:364", #[⟨8, .data⟩, ⟨12, .data⟩, ⟨4, .chain⟩, ⟨4, .guard⟩], some (4, true)⟩ : Oper) := by kernel_rfl
 have e21 : c.eval (.tmp 21) = .agg #[n0, n1, n2, n3, n4, n5] := fact_at (p := eqv (.agg #[n0, n1, n2, n3, n4, n5])) (by kernel_rfl) rfl (hF 8 (by decide))
 have e25 : c.eval (.tmp 25) = .agg #[a0, a1, a2, a3, a4, a5] := fact_at (p := eqv (.agg #[a0, a1, a2, a3, a4, a5])) (by kernel_rfl) rfl (hF 12 (by decide))
 have hg : val RZ6t c 4 = .bool true := hF 4 (by decide)
 have hw := weZ6t ho rfl hg
 have ec : ∀ v, c.eval (.const v) = v := fun _ => rfl
 have ef : ∀ f, c.eval (.func f) = .func (.func f) #[] #[] := fun _ => rfl
 refine does_call ho hw (f := 30) (args := #[.agg #[n0, n1, n2, n3, n4, n5], .agg #[a0, a1, a2, a3, a4, a5]]) ?_ (Calls.mono (hW.k1) fun e w' ⟨h1, h2⟩ => ⟨_, h1, rfl, h2⟩)
 generalize c.eval = ρ at *
 clear hF hb hW hw ho hg
 go_simp
set_option maxRecDepth 10000 in
theorem oZ6t_14 : stepZ6t g n cap j bl off m lc ii cm n0 n1 n2 n3 n4 n5 a0 a1 a2 a3 a4 a5 Q 14 := by
 intro c w hb hW hF
 have ho : RZ6t[14]? = some (⟨some 27, .binOp .leq 3 (.tmp 26) (.const (Value.int .i64 0)) 3, 4, "ref.go:364", #[⟨13, .data⟩, ⟨4, .guard⟩], some (4, true)⟩ : Oper) := by kernel_rfl
 have e26 : c.eval (.tmp 26) = .int .i64 cm := fact_at (p := eqv (.int .i64 cm)) (by kernel_rfl) rfl (hF 13 (by decide))
 have hg : val RZ6t c 4 = .bool true := hF 4 (by decide)
 have hw := weZ6t ho rfl hg
 have ec : ∀ v, c.eval (.const v) = v := fun _ => rfl
 have ef : ∀ f, c.eval (.func f) = .func (.func f) #[] #[] := fun _ => rfl
 refine does_value ho hw (v := .bool (decide (cm ≤ 0))) ?_ rfl (Below.refl _ _)
 generalize c.eval = ρ at *
 clear hF hb hW hw ho hg
 go_simp
set_option maxRecDepth 10000 in
theorem oZ6t_15 : stepZ6t g n cap j bl off m lc ii cm n0 n1 n2 n3 n4 n5 a0 a1 a2 a3 a4 a5 Q 15 := by
 intro c w hb hW hF
 have ho : RZ6t[15]? = some (⟨some 28, .pick (.tmp 17) (.tmp 27) (.const (Value.bool false)), 4, "ref.go:364", #[⟨4, .data⟩, ⟨14, .data⟩], none⟩ : Oper) := by kernel_rfl
 have e17 : c.eval (.tmp 17) = .bool true := fact_at (p := eqv (.bool true)) (by kernel_rfl) rfl (hF 4 (by decide))
 have e27 : c.eval (.tmp 27) = .bool (decide (cm ≤ 0)) := fact_at (p := eqv (.bool (decide (cm ≤ 0)))) (by kernel_rfl) rfl (hF 14 (by decide))
 have hw := wnZ6t (c := c) ho rfl
 have ec : ∀ v, c.eval (.const v) = v := fun _ => rfl
 have ef : ∀ f, c.eval (.func f) = .func (.func f) #[] #[] := fun _ => rfl
 refine does_value ho hw (v := .bool (decide (cm ≤ 0))) ?_ rfl (Below.refl _ _)
 generalize c.eval = ρ at *
 clear hF hb hW hw ho
 go_simp
end
theorem stableZ6t (g n cap j bl off m lc ii : Nat) (cm : Int) (n0 n1 n2 n3 n4 n5 a0 a1 a2 a3 a4 a5 : Value) : ∀ pr ∈ factsZ6t g n cap j bl off m lc ii cm n0 n1 n2 n3 n4 n5 a0 a1 a2 a3 a4 a5, Stable pr := by
 unfold factsZ6t
 refine List.forall_mem_cons.2 ⟨eqv_stable _, ?_⟩
 refine List.forall_mem_cons.2 ⟨eqv_stable _, ?_⟩
 refine List.forall_mem_cons.2 ⟨eqv_stable _, ?_⟩
 refine List.forall_mem_cons.2 ⟨eqv_stable _, ?_⟩
 refine List.forall_mem_cons.2 ⟨eqv_stable _, ?_⟩
 refine List.forall_mem_cons.2 ⟨eqv_stable _, ?_⟩
 refine List.forall_mem_cons.2 ⟨eqv_stable _, ?_⟩
 refine List.forall_mem_cons.2 ⟨eqv_stable _, ?_⟩
 refine List.forall_mem_cons.2 ⟨eqv_stable _, ?_⟩
 refine List.forall_mem_cons.2 ⟨eqv_stable _, ?_⟩
 refine List.forall_mem_cons.2 ⟨eqv_stable _, ?_⟩
 refine List.forall_mem_cons.2 ⟨eqv_stable _, ?_⟩
 refine List.forall_mem_cons.2 ⟨eqv_stable _, ?_⟩
 refine List.forall_mem_cons.2 ⟨eqv_stable _, ?_⟩
 refine List.forall_mem_cons.2 ⟨eqv_stable _, ?_⟩
 refine List.forall_mem_cons.2 ⟨eqv_stable _, ?_⟩
 exact List.forall_mem_nil _
set_option maxRecDepth 100000 in
theorem allZ6t (g n cap j bl off m lc ii : Nat) (cm : Int) (n0 n1 n2 n3 n4 n5 a0 a1 a2 a3 a4 a5 : Value) (Q : Exit → Act → World → Prop) : ∀ i, i < 16 → (fun i => ∀ c w, BaseZ6t g n cap j bl off m lc ii cm n0 n1 n2 n3 n4 n5 a0 a1 a2 a3 a4 a5 c → WorldZ6t g n cap j bl off m lc ii cm n0 n1 n2 n3 n4 n5 a0 a1 a2 a3 a4 a5 w → (∀ q0 ∈ ancZ6t i, factsAt (factsZ6t g n cap j bl off m lc ii cm n0 n1 n2 n3 n4 n5 a0 a1 a2 a3 a4 a5) q0 (val RZ6t c q0) w) → Does Tryz.prog RZ6t Q (factsAt (factsZ6t g n cap j bl off m lc ii cm n0 n1 n2 n3 n4 n5 a0 a1 a2 a3 a4 a5)) i c w) i := by
 refine below_succ ?_ (fun c w => oZ6t_15 g n cap j bl off m lc ii cm n0 n1 n2 n3 n4 n5 a0 a1 a2 a3 a4 a5 Q c w)
 refine below_succ ?_ (fun c w => oZ6t_14 g n cap j bl off m lc ii cm n0 n1 n2 n3 n4 n5 a0 a1 a2 a3 a4 a5 Q c w)
 refine below_succ ?_ (fun c w => oZ6t_13 g n cap j bl off m lc ii cm n0 n1 n2 n3 n4 n5 a0 a1 a2 a3 a4 a5 Q c w)
 refine below_succ ?_ (fun c w => oZ6t_12 g n cap j bl off m lc ii cm n0 n1 n2 n3 n4 n5 a0 a1 a2 a3 a4 a5 Q c w)
 refine below_succ ?_ (fun c w => oZ6t_11 g n cap j bl off m lc ii cm n0 n1 n2 n3 n4 n5 a0 a1 a2 a3 a4 a5 Q c w)
 refine below_succ ?_ (fun c w => oZ6t_10 g n cap j bl off m lc ii cm n0 n1 n2 n3 n4 n5 a0 a1 a2 a3 a4 a5 Q c w)
 refine below_succ ?_ (fun c w => oZ6t_9 g n cap j bl off m lc ii cm n0 n1 n2 n3 n4 n5 a0 a1 a2 a3 a4 a5 Q c w)
 refine below_succ ?_ (fun c w => oZ6t_8 g n cap j bl off m lc ii cm n0 n1 n2 n3 n4 n5 a0 a1 a2 a3 a4 a5 Q c w)
 refine below_succ ?_ (fun c w => oZ6t_7 g n cap j bl off m lc ii cm n0 n1 n2 n3 n4 n5 a0 a1 a2 a3 a4 a5 Q c w)
 refine below_succ ?_ (fun c w => oZ6t_6 g n cap j bl off m lc ii cm n0 n1 n2 n3 n4 n5 a0 a1 a2 a3 a4 a5 Q c w)
 refine below_succ ?_ (fun c w => oZ6t_5 g n cap j bl off m lc ii cm n0 n1 n2 n3 n4 n5 a0 a1 a2 a3 a4 a5 Q c w)
 refine below_succ ?_ (fun c w => oZ6t_4 g n cap j bl off m lc ii cm n0 n1 n2 n3 n4 n5 a0 a1 a2 a3 a4 a5 Q c w)
 refine below_succ ?_ (fun c w => oZ6t_3 g n cap j bl off m lc ii cm n0 n1 n2 n3 n4 n5 a0 a1 a2 a3 a4 a5 Q c w)
 refine below_succ ?_ (fun c w => oZ6t_2 g n cap j bl off m lc ii cm n0 n1 n2 n3 n4 n5 a0 a1 a2 a3 a4 a5 Q c w)
 refine below_succ ?_ (fun c w => oZ6t_1 g n cap j bl off m lc ii cm n0 n1 n2 n3 n4 n5 a0 a1 a2 a3 a4 a5 Q c w)
 refine below_succ ?_ (fun c w => oZ6t_0 g n cap j bl off m lc ii cm n0 n1 n2 n3 n4 n5 a0 a1 a2 a3 a4 a5 Q c w)
 exact below_zero
theorem regionZ6t (g n cap j bl off m lc ii : Nat) (cm : Int) (n0 n1 n2 n3 n4 n5 a0 a1 a2 a3 a4 a5 : Value) (Q : Exit → Act → World → Prop) (base : Act) (w0 : World) (hsz : base.tmps.size = 48) (hb : BaseZ6t g n cap j bl off m lc ii cm n0 n1 n2 n3 n4 n5 a0 a1 a2 a3 a4 a5 base)
  (hW : ∀ w, Below w0.heap.size w0 w → WorldZ6t g n cap j bl off m lc ii cm n0 n1 n2 n3 n4 n5 a0 a1 a2 a3 a4 a5 w) (hQ : ∀ c w, Same RZ6t base c → Below w0.heap.size w0 w → c.eval (.tmp 28) = .bool (decide (cm ≤ 0)) → Q .normal c w) : (Code.region 6 RZ6t true).wp Tryz.prog Q base w0 := by
 refine facts_rule (A := ancZ6t) (F := factsAt (factsZ6t g n cap j bl off m lc ii cm n0 n1 n2 n3 n4 n5 a0 a1 a2 a3 a4 a5)) (by kernel_rfl) (by rw [hsz]; kernel_rfl) (fun i v w w' => factsAt_stable (stableZ6t g n cap j bl off m lc ii cm n0 n1 n2 n3 n4 n5 a0 a1 a2 a3 a4 a5) i v w w') ?_ ?_
 ·intro i hi c w hS hB hF
  exact allZ6t g n cap j bl off m lc ii cm n0 n1 n2 n3 n4 n5 a0 a1 a2 a3 a4 a5 Q i (by rwa [show RZ6t.size = 16 by kernel_rfl] at hi) c w ⟨(same_eval hS (by kernel_rfl)).trans hb.t0, (same_eval hS (by kernel_rfl)).trans hb.t3, (same_eval hS (by kernel_rfl)).trans hb.t4, (same_eval hS (by kernel_rfl)).trans hb.t5⟩ (hW w hB) hF
 ·intro c w hS hB hF
  exact hQ c w hS hB (fact_at (p := eqv (.bool (decide (cm ≤ 0)))) (by kernel_rfl) rfl (hF 15 (by rw [show RZ6t.size = 16 by kernel_rfl]; omega)))
end Go.Proofs.YtbpmhgcjefpigaaGreatDoor
