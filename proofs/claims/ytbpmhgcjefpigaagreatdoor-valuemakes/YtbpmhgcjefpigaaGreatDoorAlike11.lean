/- A statement that only reads and calls: operation by operation, in whatever order. -/
import Derived.Test.YtbpmhgcjefpigaaGreatDoorJoin16
namespace Go.Proofs.YtbpmhgcjefpigaaGreatDoor
open Go.RowKit Go.WideShapes Go.Shelf
set_option linter.unusedVariables false
set_option linter.unusedSimpArgs false
noncomputable def RA11 : Array Oper := regionAt Tryz.f27 11
def ancA11 (i : Nat) : List Nat := ([[], [0], [], [1, 2], [3], [], [5], [], [6, 7], [8], [4, 9], [10]] : List (List Nat)).getD i []
def factsA11 (p1 p2 bl off tl lc bl2 off2 lc2 j : Nat) (v0 v1 v2 v3 v4 v5 u0 u1 u2 u3 u4 u5 : Value) : List (Value → World → Prop) :=
  [eqv (.pointer (some ⟨p1, 5, none⟩)), eqv (.slice (some ⟨bl, off, none⟩) tl lc), eqv (.int .i64 (j : Int)), eqv (.pointer (some ⟨bl, off + j * 6, none⟩)), eqv (.agg #[v0, v1, v2, v3, v4, v5]), eqv (.pointer (some ⟨p2, 5, none⟩)), eqv (.slice (some ⟨bl2, off2, none⟩) tl lc2), eqv (.int .i64 (j : Int)), eqv (.pointer (some ⟨bl2, off2 + j * 6, none⟩)), eqv (.agg #[u0, u1, u2, u3, u4, u5]), eqv (.bool true), eqv (.bool false)]
structure BaseA11 (p1 p2 bl off tl lc bl2 off2 lc2 j : Nat) (v0 v1 v2 v3 v4 v5 u0 u1 u2 u3 u4 u5 : Value) (c : Act) : Prop where
  t2 : c.eval (.tmp 2) = .pointer (some ⟨p1, 0, none⟩)
  t3 : c.eval (.tmp 3) = .pointer (some ⟨p2, 0, none⟩)
  t6 : c.eval (.tmp 6) = .int .i64 (j : Int)
structure WorldA11 (p1 p2 bl off tl lc bl2 off2 lc2 j : Nat) (v0 v1 v2 v3 v4 v5 u0 u1 u2 u3 u4 u5 : Value) (w : World) : Prop where
  x1 : w.cell? ⟨p1, 5, none⟩ = some (.slice (some ⟨bl, off, none⟩) tl lc)
  x2 : w.cell? ⟨p2, 5, none⟩ = some (.slice (some ⟨bl2, off2, none⟩) tl lc2)
  cv0 : w.cell? ⟨bl, off + j * 6, none⟩ = some v0
  cv1 : w.cell? ⟨bl, off + j * 6 + 1, none⟩ = some v1
  cv2 : w.cell? ⟨bl, off + j * 6 + 2, none⟩ = some v2
  cv3 : w.cell? ⟨bl, off + j * 6 + 3, none⟩ = some v3
  cv4 : w.cell? ⟨bl, off + j * 6 + 4, none⟩ = some v4
  cv5 : w.cell? ⟨bl, off + j * 6 + 5, none⟩ = some v5
  cu0 : w.cell? ⟨bl2, off2 + j * 6, none⟩ = some u0
  cu1 : w.cell? ⟨bl2, off2 + j * 6 + 1, none⟩ = some u1
  cu2 : w.cell? ⟨bl2, off2 + j * 6 + 2, none⟩ = some u2
  cu3 : w.cell? ⟨bl2, off2 + j * 6 + 3, none⟩ = some u3
  cu4 : w.cell? ⟨bl2, off2 + j * 6 + 4, none⟩ = some u4
  cu5 : w.cell? ⟨bl2, off2 + j * 6 + 5, none⟩ = some u5
  lt : j < tl
  le : tl ≤ 9223372036854775807
  call : Calls Tryz.prog 27 #[.agg #[v0, v1, v2, v3, v4, v5], .agg #[u0, u1, u2, u3, u4, u5]] w fun e w' => e = .returned (.bool true) ∧ Below w.heap.size w w'
def stepA11 (p1 p2 bl off tl lc bl2 off2 lc2 j : Nat) (v0 v1 v2 v3 v4 v5 u0 u1 u2 u3 u4 u5 : Value) (Q : Exit → Act → World → Prop) (i : Nat) : Prop := ∀ (c : Act) (w : World), BaseA11 p1 p2 bl off tl lc bl2 off2 lc2 j v0 v1 v2 v3 v4 v5 u0 u1 u2 u3 u4 u5 c → WorldA11 p1 p2 bl off tl lc bl2 off2 lc2 j v0 v1 v2 v3 v4 v5 u0 u1 u2 u3 u4 u5 w → (∀ q0 ∈ ancA11 i, factsAt (factsA11 p1 p2 bl off tl lc bl2 off2 lc2 j v0 v1 v2 v3 v4 v5 u0 u1 u2 u3 u4 u5) q0 (val RA11 c q0) w) → Does Tryz.prog RA11 Q (factsAt (factsA11 p1 p2 bl off tl lc bl2 off2 lc2 j v0 v1 v2 v3 v4 v5 u0 u1 u2 u3 u4 u5)) i c w
theorem wnA11 {i : Nat} {o : Oper} {c : Act} (ho : RA11[i]? = some o) (h : o.guard = none) : Region.wanted o (yielded RA11 c.tmps) = true := want_none h
section
variable (p1 p2 bl off tl lc bl2 off2 lc2 j : Nat) (v0 v1 v2 v3 v4 v5 u0 u1 u2 u3 u4 u5 : Value) (Q : Exit → Act → World → Prop)
set_option maxRecDepth 10000 in
theorem oA11_0 : stepA11 p1 p2 bl off tl lc bl2 off2 lc2 j v0 v1 v2 v3 v4 v5 u0 u1 u2 u3 u4 u5 Q 0 := by
  intro c w hb hW hF
  have ho : RA11[0]? = some ({ dst := some 76, op := Op.fieldAddr 26 (Operand.tmp 2) 5, type := 0, pos := "ref.go:352", after := #[], guard := none } : Oper) := by kernel_rfl
  have e2 := hb.t2
  have hw := wnA11 (c := c) ho rfl
  have ec : ∀ v, c.eval (.const v) = v := fun _ => rfl
  have ef : ∀ f, c.eval (.func f) = .func (.func f) #[] #[] := fun _ => rfl
  refine does_value ho hw (v := .pointer (some ⟨p1, 5, none⟩)) ?_ rfl (Below.refl _ _)
  generalize c.eval = ρ at *
  clear hF hb hW hw ho
  go_simp
set_option maxRecDepth 10000 in
theorem oA11_1 : stepA11 p1 p2 bl off tl lc bl2 off2 lc2 j v0 v1 v2 v3 v4 v5 u0 u1 u2 u3 u4 u5 Q 1 := by
  intro c w hb hW hF
  have ho : RA11[1]? = some ({ dst := some 77, op := Op.load 24 (Operand.tmp 76), type := 24, pos := "ref.go:352", after := #[{ on := 0, ground := Ground.data }], guard := none } : Oper) := by kernel_rfl
  have e76 : c.eval (.tmp 76) = .pointer (some ⟨p1, 5, none⟩) := fact_at (p := eqv (.pointer (some ⟨p1, 5, none⟩))) (by kernel_rfl) rfl (hF 0 (by decide))
  have hw := wnA11 (c := c) ho rfl
  have ec : ∀ v, c.eval (.const v) = v := fun _ => rfl
  have ef : ∀ f, c.eval (.func f) = .func (.func f) #[] #[] := fun _ => rfl
  have x1 := hW.x1
  refine does_value ho hw (v := .slice (some ⟨bl, off, none⟩) tl lc) ?_ rfl (Below.refl _ _)
  generalize c.eval = ρ at *
  clear hF hb hW hw ho
  go_simp
set_option maxRecDepth 10000 in
theorem oA11_2 : stepA11 p1 p2 bl off tl lc bl2 off2 lc2 j v0 v1 v2 v3 v4 v5 u0 u1 u2 u3 u4 u5 Q 2 := by
  intro c w hb hW hF
  have ho : RA11[2]? = some ({ dst := some 78, op := Op.move (Operand.tmp 6), type := 3, pos := "ref.go:352", after := #[], guard := none } : Oper) := by kernel_rfl
  have e6 := hb.t6
  have hw := wnA11 (c := c) ho rfl
  have ec : ∀ v, c.eval (.const v) = v := fun _ => rfl
  have ef : ∀ f, c.eval (.func f) = .func (.func f) #[] #[] := fun _ => rfl
  refine does_value ho hw (v := .int .i64 (j : Int)) ?_ rfl (Below.refl _ _)
  generalize c.eval = ρ at *
  clear hF hb hW hw ho
  go_simp
set_option maxRecDepth 10000 in
theorem oA11_3 : stepA11 p1 p2 bl off tl lc bl2 off2 lc2 j v0 v1 v2 v3 v4 v5 u0 u1 u2 u3 u4 u5 Q 3 := by
  intro c w hb hW hF
  have ho : RA11[3]? = some ({ dst := some 79, op := Op.indexAddr 24 (Operand.tmp 77) (Operand.tmp 78), type := 0, pos := "ref.go:352", after := #[{ on := 1, ground := Ground.data }, { on := 2, ground := Ground.data }], guard := none } : Oper) := by kernel_rfl
  have e77 : c.eval (.tmp 77) = .slice (some ⟨bl, off, none⟩) tl lc := fact_at (p := eqv (.slice (some ⟨bl, off, none⟩) tl lc)) (by kernel_rfl) rfl (hF 1 (by decide))
  have e78 : c.eval (.tmp 78) = .int .i64 (j : Int) := fact_at (p := eqv (.int .i64 (j : Int))) (by kernel_rfl) rfl (hF 2 (by decide))
  have hw := wnA11 (c := c) ho rfl
  have ec : ∀ v, c.eval (.const v) = v := fun _ => rfl
  have ef : ∀ f, c.eval (.func f) = .func (.func f) #[] #[] := fun _ => rfl
  have lt := hW.lt
  have le := hW.le
  refine does_value ho hw (v := .pointer (some ⟨bl, off + j * 6, none⟩)) ?_ rfl (Below.refl _ _)
  generalize c.eval = ρ at *
  clear hF hb hW hw ho
  go_simp
set_option maxRecDepth 10000 in
theorem oA11_4 : stepA11 p1 p2 bl off tl lc bl2 off2 lc2 j v0 v1 v2 v3 v4 v5 u0 u1 u2 u3 u4 u5 Q 4 := by
  intro c w hb hW hF
  have ho : RA11[4]? = some ({ dst := some 80, op := Op.load 26 (Operand.tmp 79), type := 26, pos := "ref.go:352", after := #[{ on := 3, ground := Ground.data }], guard := none } : Oper) := by kernel_rfl
  have e79 : c.eval (.tmp 79) = .pointer (some ⟨bl, off + j * 6, none⟩) := fact_at (p := eqv (.pointer (some ⟨bl, off + j * 6, none⟩))) (by kernel_rfl) rfl (hF 3 (by decide))
  have hw := wnA11 (c := c) ho rfl
  have ec : ∀ v, c.eval (.const v) = v := fun _ => rfl
  have ef : ∀ f, c.eval (.func f) = .func (.func f) #[] #[] := fun _ => rfl
  have cv0 := hW.cv0
  have cv1 := hW.cv1
  have cv2 := hW.cv2
  have cv3 := hW.cv3
  have cv4 := hW.cv4
  have cv5 := hW.cv5
  refine does_value ho hw (v := .agg #[v0, v1, v2, v3, v4, v5]) ?_ rfl (Below.refl _ _)
  generalize c.eval = ρ at *
  clear hF hb hW hw ho
  go_simp
set_option maxRecDepth 10000 in
theorem oA11_5 : stepA11 p1 p2 bl off tl lc bl2 off2 lc2 j v0 v1 v2 v3 v4 v5 u0 u1 u2 u3 u4 u5 Q 5 := by
  intro c w hb hW hF
  have ho : RA11[5]? = some ({ dst := some 81, op := Op.fieldAddr 26 (Operand.tmp 3) 5, type := 0, pos := "ref.go:352", after := #[], guard := none } : Oper) := by kernel_rfl
  have e3 := hb.t3
  have hw := wnA11 (c := c) ho rfl
  have ec : ∀ v, c.eval (.const v) = v := fun _ => rfl
  have ef : ∀ f, c.eval (.func f) = .func (.func f) #[] #[] := fun _ => rfl
  refine does_value ho hw (v := .pointer (some ⟨p2, 5, none⟩)) ?_ rfl (Below.refl _ _)
  generalize c.eval = ρ at *
  clear hF hb hW hw ho
  go_simp
set_option maxRecDepth 10000 in
theorem oA11_6 : stepA11 p1 p2 bl off tl lc bl2 off2 lc2 j v0 v1 v2 v3 v4 v5 u0 u1 u2 u3 u4 u5 Q 6 := by
  intro c w hb hW hF
  have ho : RA11[6]? = some ({ dst := some 82, op := Op.load 24 (Operand.tmp 81), type := 24, pos := "ref.go:352", after := #[{ on := 5, ground := Ground.data }], guard := none } : Oper) := by kernel_rfl
  have e81 : c.eval (.tmp 81) = .pointer (some ⟨p2, 5, none⟩) := fact_at (p := eqv (.pointer (some ⟨p2, 5, none⟩))) (by kernel_rfl) rfl (hF 5 (by decide))
  have hw := wnA11 (c := c) ho rfl
  have ec : ∀ v, c.eval (.const v) = v := fun _ => rfl
  have ef : ∀ f, c.eval (.func f) = .func (.func f) #[] #[] := fun _ => rfl
  have x2 := hW.x2
  refine does_value ho hw (v := .slice (some ⟨bl2, off2, none⟩) tl lc2) ?_ rfl (Below.refl _ _)
  generalize c.eval = ρ at *
  clear hF hb hW hw ho
  go_simp
set_option maxRecDepth 10000 in
theorem oA11_7 : stepA11 p1 p2 bl off tl lc bl2 off2 lc2 j v0 v1 v2 v3 v4 v5 u0 u1 u2 u3 u4 u5 Q 7 := by
  intro c w hb hW hF
  have ho : RA11[7]? = some ({ dst := some 83, op := Op.move (Operand.tmp 6), type := 3, pos := "ref.go:352", after := #[], guard := none } : Oper) := by kernel_rfl
  have e6 := hb.t6
  have hw := wnA11 (c := c) ho rfl
  have ec : ∀ v, c.eval (.const v) = v := fun _ => rfl
  have ef : ∀ f, c.eval (.func f) = .func (.func f) #[] #[] := fun _ => rfl
  refine does_value ho hw (v := .int .i64 (j : Int)) ?_ rfl (Below.refl _ _)
  generalize c.eval = ρ at *
  clear hF hb hW hw ho
  go_simp
set_option maxRecDepth 10000 in
theorem oA11_8 : stepA11 p1 p2 bl off tl lc bl2 off2 lc2 j v0 v1 v2 v3 v4 v5 u0 u1 u2 u3 u4 u5 Q 8 := by
  intro c w hb hW hF
  have ho : RA11[8]? = some ({ dst := some 84, op := Op.indexAddr 24 (Operand.tmp 82) (Operand.tmp 83), type := 0, pos := "ref.go:352", after := #[{ on := 6, ground := Ground.data }, { on := 7, ground := Ground.data }], guard := none } : Oper) := by kernel_rfl
  have e82 : c.eval (.tmp 82) = .slice (some ⟨bl2, off2, none⟩) tl lc2 := fact_at (p := eqv (.slice (some ⟨bl2, off2, none⟩) tl lc2)) (by kernel_rfl) rfl (hF 6 (by decide))
  have e83 : c.eval (.tmp 83) = .int .i64 (j : Int) := fact_at (p := eqv (.int .i64 (j : Int))) (by kernel_rfl) rfl (hF 7 (by decide))
  have hw := wnA11 (c := c) ho rfl
  have ec : ∀ v, c.eval (.const v) = v := fun _ => rfl
  have ef : ∀ f, c.eval (.func f) = .func (.func f) #[] #[] := fun _ => rfl
  have lt := hW.lt
  have le := hW.le
  refine does_value ho hw (v := .pointer (some ⟨bl2, off2 + j * 6, none⟩)) ?_ rfl (Below.refl _ _)
  generalize c.eval = ρ at *
  clear hF hb hW hw ho
  go_simp
set_option maxRecDepth 10000 in
theorem oA11_9 : stepA11 p1 p2 bl off tl lc bl2 off2 lc2 j v0 v1 v2 v3 v4 v5 u0 u1 u2 u3 u4 u5 Q 9 := by
  intro c w hb hW hF
  have ho : RA11[9]? = some ({ dst := some 85, op := Op.load 26 (Operand.tmp 84), type := 26, pos := "ref.go:352", after := #[{ on := 8, ground := Ground.data }], guard := none } : Oper) := by kernel_rfl
  have e84 : c.eval (.tmp 84) = .pointer (some ⟨bl2, off2 + j * 6, none⟩) := fact_at (p := eqv (.pointer (some ⟨bl2, off2 + j * 6, none⟩))) (by kernel_rfl) rfl (hF 8 (by decide))
  have hw := wnA11 (c := c) ho rfl
  have ec : ∀ v, c.eval (.const v) = v := fun _ => rfl
  have ef : ∀ f, c.eval (.func f) = .func (.func f) #[] #[] := fun _ => rfl
  have cu0 := hW.cu0
  have cu1 := hW.cu1
  have cu2 := hW.cu2
  have cu3 := hW.cu3
  have cu4 := hW.cu4
  have cu5 := hW.cu5
  refine does_value ho hw (v := .agg #[u0, u1, u2, u3, u4, u5]) ?_ rfl (Below.refl _ _)
  generalize c.eval = ρ at *
  clear hF hb hW hw ho
  go_simp
set_option maxRecDepth 10000 in
theorem oA11_10 : stepA11 p1 p2 bl off tl lc bl2 off2 lc2 j v0 v1 v2 v3 v4 v5 u0 u1 u2 u3 u4 u5 Q 10 := by
  intro c w hb hW hF
  have ho : RA11[10]? = some ({ dst := some 86, op := Op.call { callee := Callee.value (Operand.func 27), args := #[Operand.tmp 80, Operand.tmp 85], argTypes := #[26, 26] }, type := 4, pos := "ref.go:352", after := #[{ on := 4, ground := Ground.data }, { on := 9, ground := Ground.data }], guard := none } : Oper) := by kernel_rfl
  have e80 : c.eval (.tmp 80) = .agg #[v0, v1, v2, v3, v4, v5] := fact_at (p := eqv (.agg #[v0, v1, v2, v3, v4, v5])) (by kernel_rfl) rfl (hF 4 (by decide))
  have e85 : c.eval (.tmp 85) = .agg #[u0, u1, u2, u3, u4, u5] := fact_at (p := eqv (.agg #[u0, u1, u2, u3, u4, u5])) (by kernel_rfl) rfl (hF 9 (by decide))
  have hw := wnA11 (c := c) ho rfl
  have ec : ∀ v, c.eval (.const v) = v := fun _ => rfl
  have ef : ∀ f, c.eval (.func f) = .func (.func f) #[] #[] := fun _ => rfl
  refine does_call ho hw (f := 27) (args := #[.agg #[v0, v1, v2, v3, v4, v5], .agg #[u0, u1, u2, u3, u4, u5]]) ?_ (Calls.mono (hW.call) fun e w' ⟨h1, h2⟩ => ⟨_, h1, rfl, h2⟩)
  generalize c.eval = ρ at *
  clear hF hb hW hw ho
  go_simp
set_option maxRecDepth 10000 in
theorem oA11_11 : stepA11 p1 p2 bl off tl lc bl2 off2 lc2 j v0 v1 v2 v3 v4 v5 u0 u1 u2 u3 u4 u5 Q 11 := by
  intro c w hb hW hF
  have ho : RA11[11]? = some ({ dst := some 87, op := Op.unOp UnOp.not 4 (Operand.tmp 86), type := 4, pos := "ref.go:352", after := #[{ on := 10, ground := Ground.data }], guard := none } : Oper) := by kernel_rfl
  have e86 : c.eval (.tmp 86) = .bool true := fact_at (p := eqv (.bool true)) (by kernel_rfl) rfl (hF 10 (by decide))
  have hw := wnA11 (c := c) ho rfl
  have ec : ∀ v, c.eval (.const v) = v := fun _ => rfl
  have ef : ∀ f, c.eval (.func f) = .func (.func f) #[] #[] := fun _ => rfl
  refine does_value ho hw (v := .bool false) ?_ rfl (Below.refl _ _)
  generalize c.eval = ρ at *
  clear hF hb hW hw ho
  go_simp
end
theorem stableA11 (p1 p2 bl off tl lc bl2 off2 lc2 j : Nat) (v0 v1 v2 v3 v4 v5 u0 u1 u2 u3 u4 u5 : Value) : ∀ pr ∈ factsA11 p1 p2 bl off tl lc bl2 off2 lc2 j v0 v1 v2 v3 v4 v5 u0 u1 u2 u3 u4 u5, Stable pr := by
  unfold factsA11
  repeat' (first | exact List.forall_mem_nil _ | refine List.forall_mem_cons.2 ⟨eqv_stable _, ?_⟩)
set_option maxRecDepth 100000 in
theorem allA11 (p1 p2 bl off tl lc bl2 off2 lc2 j : Nat) (v0 v1 v2 v3 v4 v5 u0 u1 u2 u3 u4 u5 : Value) (Q : Exit → Act → World → Prop) : ∀ i, i < 12 → (fun i => ∀ c w, BaseA11 p1 p2 bl off tl lc bl2 off2 lc2 j v0 v1 v2 v3 v4 v5 u0 u1 u2 u3 u4 u5 c → WorldA11 p1 p2 bl off tl lc bl2 off2 lc2 j v0 v1 v2 v3 v4 v5 u0 u1 u2 u3 u4 u5 w → (∀ q0 ∈ ancA11 i, factsAt (factsA11 p1 p2 bl off tl lc bl2 off2 lc2 j v0 v1 v2 v3 v4 v5 u0 u1 u2 u3 u4 u5) q0 (val RA11 c q0) w) → Does Tryz.prog RA11 Q (factsAt (factsA11 p1 p2 bl off tl lc bl2 off2 lc2 j v0 v1 v2 v3 v4 v5 u0 u1 u2 u3 u4 u5)) i c w) i := by
  refine below_succ ?_ (fun c w => oA11_11 p1 p2 bl off tl lc bl2 off2 lc2 j v0 v1 v2 v3 v4 v5 u0 u1 u2 u3 u4 u5 Q c w)
  refine below_succ ?_ (fun c w => oA11_10 p1 p2 bl off tl lc bl2 off2 lc2 j v0 v1 v2 v3 v4 v5 u0 u1 u2 u3 u4 u5 Q c w)
  refine below_succ ?_ (fun c w => oA11_9 p1 p2 bl off tl lc bl2 off2 lc2 j v0 v1 v2 v3 v4 v5 u0 u1 u2 u3 u4 u5 Q c w)
  refine below_succ ?_ (fun c w => oA11_8 p1 p2 bl off tl lc bl2 off2 lc2 j v0 v1 v2 v3 v4 v5 u0 u1 u2 u3 u4 u5 Q c w)
  refine below_succ ?_ (fun c w => oA11_7 p1 p2 bl off tl lc bl2 off2 lc2 j v0 v1 v2 v3 v4 v5 u0 u1 u2 u3 u4 u5 Q c w)
  refine below_succ ?_ (fun c w => oA11_6 p1 p2 bl off tl lc bl2 off2 lc2 j v0 v1 v2 v3 v4 v5 u0 u1 u2 u3 u4 u5 Q c w)
  refine below_succ ?_ (fun c w => oA11_5 p1 p2 bl off tl lc bl2 off2 lc2 j v0 v1 v2 v3 v4 v5 u0 u1 u2 u3 u4 u5 Q c w)
  refine below_succ ?_ (fun c w => oA11_4 p1 p2 bl off tl lc bl2 off2 lc2 j v0 v1 v2 v3 v4 v5 u0 u1 u2 u3 u4 u5 Q c w)
  refine below_succ ?_ (fun c w => oA11_3 p1 p2 bl off tl lc bl2 off2 lc2 j v0 v1 v2 v3 v4 v5 u0 u1 u2 u3 u4 u5 Q c w)
  refine below_succ ?_ (fun c w => oA11_2 p1 p2 bl off tl lc bl2 off2 lc2 j v0 v1 v2 v3 v4 v5 u0 u1 u2 u3 u4 u5 Q c w)
  refine below_succ ?_ (fun c w => oA11_1 p1 p2 bl off tl lc bl2 off2 lc2 j v0 v1 v2 v3 v4 v5 u0 u1 u2 u3 u4 u5 Q c w)
  refine below_succ ?_ (fun c w => oA11_0 p1 p2 bl off tl lc bl2 off2 lc2 j v0 v1 v2 v3 v4 v5 u0 u1 u2 u3 u4 u5 Q c w)
  exact below_zero
theorem regionA11 (p1 p2 bl off tl lc bl2 off2 lc2 j : Nat) (v0 v1 v2 v3 v4 v5 u0 u1 u2 u3 u4 u5 : Value) (Q : Exit → Act → World → Prop) (base : Act) (w0 : World) (hsz : base.tmps.size = 88) (hb : BaseA11 p1 p2 bl off tl lc bl2 off2 lc2 j v0 v1 v2 v3 v4 v5 u0 u1 u2 u3 u4 u5 base)
    (hW : ∀ w, Below w0.heap.size w0 w → WorldA11 p1 p2 bl off tl lc bl2 off2 lc2 j v0 v1 v2 v3 v4 v5 u0 u1 u2 u3 u4 u5 w) (hQ : ∀ c w, Same RA11 base c → Below w0.heap.size w0 w → c.eval (.tmp 87) = .bool false → Q .normal c w) : (Code.region 11 RA11 true).wp Tryz.prog Q base w0 := by
  refine facts_rule (A := ancA11) (F := factsAt (factsA11 p1 p2 bl off tl lc bl2 off2 lc2 j v0 v1 v2 v3 v4 v5 u0 u1 u2 u3 u4 u5)) (by kernel_rfl) (by rw [hsz]; kernel_rfl) (fun i v w w' => factsAt_stable (stableA11 p1 p2 bl off tl lc bl2 off2 lc2 j v0 v1 v2 v3 v4 v5 u0 u1 u2 u3 u4 u5) i v w w') ?_ ?_
  · intro i hi c w hS hB hF
    exact allA11 p1 p2 bl off tl lc bl2 off2 lc2 j v0 v1 v2 v3 v4 v5 u0 u1 u2 u3 u4 u5 Q i (by rwa [show RA11.size = 12 by kernel_rfl] at hi) c w ⟨(same_eval hS (by kernel_rfl)).trans hb.t2, (same_eval hS (by kernel_rfl)).trans hb.t3, (same_eval hS (by kernel_rfl)).trans hb.t6⟩ (hW w hB) hF
  · intro c w hS hB hF
    exact hQ c w hS hB (fact_at (p := eqv (.bool false)) (by kernel_rfl) rfl (hF 11 (by rw [show RA11.size = 12 by kernel_rfl]; omega)))
end Go.Proofs.YtbpmhgcjefpigaaGreatDoor
