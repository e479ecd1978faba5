/- A statement that only reads and calls: operation by operation, in whatever order. -/
import Derived.Test.YtbpmhgcjefpigaaGreatDoorJoin16
namespace Go.Proofs.YtbpmhgcjefpigaaGreatDoor
open Go.RowKit Go.WideShapes Go.Shelf
set_option linter.unusedVariables false
set_option linter.unusedSimpArgs false
noncomputable def RP6 : Array Oper := regionAt Tryz.f29 6
def ancP6 (i : Nat) : List Nat := ([[], [0], [], [1, 2], [3], [], [5], [], [6, 7], [8], [4, 9], [10]] : List (List Nat)).getD i []
def factsP6 (p1 p2 bl off tl lc bl2 off2 lc2 j : Nat) (v0 v1 v2 v3 v4 v5 u0 u1 u2 u3 u4 u5 : Value) : List (Value → World → Prop) :=
  [eqv (.pointer (some ⟨p1, 5, none⟩)), eqv (.slice (some ⟨bl, off, none⟩) tl lc), eqv (.int .i64 (j : Int)), eqv (.pointer (some ⟨bl, off + j * 6, none⟩)), eqv (.agg #[v0, v1, v2, v3, v4, v5]), eqv (.pointer (some ⟨p2, 5, none⟩)), eqv (.slice (some ⟨bl2, off2, none⟩) tl lc2), eqv (.int .i64 (j : Int)), eqv (.pointer (some ⟨bl2, off2 + j * 6, none⟩)), eqv (.agg #[u0, u1, u2, u3, u4, u5]), eqv (.bool true), eqv (.bool false)]
structure BaseP6 (p1 p2 bl off tl lc bl2 off2 lc2 j : Nat) (v0 v1 v2 v3 v4 v5 u0 u1 u2 u3 u4 u5 : Value) (c : Act) : Prop where
  t2 : c.eval (.tmp 2) = .pointer (some ⟨p1, 0, none⟩)
  t3 : c.eval (.tmp 3) = .pointer (some ⟨p2, 0, none⟩)
  t5 : c.eval (.tmp 5) = .int .i64 (j : Int)
structure WorldP6 (p1 p2 bl off tl lc bl2 off2 lc2 j : Nat) (v0 v1 v2 v3 v4 v5 u0 u1 u2 u3 u4 u5 : Value) (w : World) : Prop where
  x1 : w.cell? ⟨p1, 5, none⟩ = some (.slice (some ⟨bl, off, none⟩) tl lc)
  x2 : w.cell? ⟨p2, 5, none⟩ = some (.slice (some ⟨bl2, off2, none⟩) tl lc2)
  cv0 : w.cell? ⟨bl, off + j * 6, none⟩ = some v0
  cv1 : w.cell? ⟨bl, off + j * 6 + 1, none⟩ = some v1
  cv2 : w.cell? ⟨bl, off + j * 6 + 2, none⟩ = some v2
  cv3 : w.cell? ⟨bl, off + j * 6 + 3, none⟩ = some v3
  cv4 : w.cell? ⟨bl, off + j * 6 + 4, none⟩ = some v4
  cv5 : w.cell? ⟨bl, off + j * 6 + 5, none⟩ = some v5
  cu0 : w.cell? ⟨bl2, off2 + j * 6, none⟩ = some u0
  cu1 : w.cell? ⟨bl2, off2 + j * 6 + 1, none⟩ = some u1
  cu2 : w.cell? ⟨bl2, off2 + j * 6 + 2, none⟩ = some u2
  cu3 : w.cell? ⟨bl2, off2 + j * 6 + 3, none⟩ = some u3
  cu4 : w.cell? ⟨bl2, off2 + j * 6 + 4, none⟩ = some u4
  cu5 : w.cell? ⟨bl2, off2 + j * 6 + 5, none⟩ = some u5
  lt : j < tl
  le : tl ≤ 9223372036854775807
  call : Calls Tryz.prog 29 #[.agg #[v0, v1, v2, v3, v4, v5], .agg #[u0, u1, u2, u3, u4, u5]] w fun e w' => e = .returned (.bool true) ∧ Below w.heap.size w w'
def stepP6 (p1 p2 bl off tl lc bl2 off2 lc2 j : Nat) (v0 v1 v2 v3 v4 v5 u0 u1 u2 u3 u4 u5 : Value) (Q : Exit → Act → World → Prop) (i : Nat) : Prop := ∀ (c : Act) (w : World), BaseP6 p1 p2 bl off tl lc bl2 off2 lc2 j v0 v1 v2 v3 v4 v5 u0 u1 u2 u3 u4 u5 c → WorldP6 p1 p2 bl off tl lc bl2 off2 lc2 j v0 v1 v2 v3 v4 v5 u0 u1 u2 u3 u4 u5 w → (∀ q0 ∈ ancP6 i, factsAt (factsP6 p1 p2 bl off tl lc bl2 off2 lc2 j v0 v1 v2 v3 v4 v5 u0 u1 u2 u3 u4 u5) q0 (val RP6 c q0) w) → Does Tryz.prog RP6 Q (factsAt (factsP6 p1 p2 bl off tl lc bl2 off2 lc2 j v0 v1 v2 v3 v4 v5 u0 u1 u2 u3 u4 u5)) i c w
theorem wnP6 {i : Nat} {o : Oper} {c : Act} (ho : RP6[i]? = some o) (h : o.guard = none) : Region.wanted o (yielded RP6 c.tmps) = true := want_none h
section
variable (p1 p2 bl off tl lc bl2 off2 lc2 j : Nat) (v0 v1 v2 v3 v4 v5 u0 u1 u2 u3 u4 u5 : Value) (Q : Exit → Act → World → Prop)
set_option maxRecDepth 10000 in
theorem oP6_0 : stepP6 p1 p2 bl off tl lc bl2 off2 lc2 j v0 v1 v2 v3 v4 v5 u0 u1 u2 u3 u4 u5 Q 0 := by
  intro c w hb hW hF
  have ho : RP6[0]? = some ({ dst := some 48, op := Op.fieldAddr 26 (Operand.tmp 2) 5, type := 0, pos := "law.go:59", after := #[], guard := none } : Oper) := by kernel_rfl
  have e2 := hb.t2
  have hw := wnP6 (c := c) ho rfl
  have ec : ∀ v, c.eval (.const v) = v := fun _ => rfl
  have ef : ∀ f, c.eval (.func f) = .func (.func f) #[] #[] := fun _ => rfl
  refine does_value ho hw (v := .pointer (some ⟨p1, 5, none⟩)) ?_ rfl (Below.refl _ _)
  generalize c.eval = ρ at *
  clear hF hb hW hw ho
  go_simp
set_option maxRecDepth 10000 in
theorem oP6_1 : stepP6 p1 p2 bl off tl lc bl2 off2 lc2 j v0 v1 v2 v3 v4 v5 u0 u1 u2 u3 u4 u5 Q 1 := by
  intro c w hb hW hF
  have ho : RP6[1]? = some ({ dst := some 49, op := Op.load 24 (Operand.tmp 48), type := 24, pos := "law.go:59", after := #[{ on := 0, ground := Ground.data }], guard := none } : Oper) := by kernel_rfl
  have e48 : c.eval (.tmp 48) = .pointer (some ⟨p1, 5, none⟩) := fact_at (p := eqv (.pointer (some ⟨p1, 5, none⟩))) (by kernel_rfl) rfl (hF 0 (by decide))
  have hw := wnP6 (c := c) ho rfl
  have ec : ∀ v, c.eval (.const v) = v := fun _ => rfl
  have ef : ∀ f, c.eval (.func f) = .func (.func f) #[] #[] := fun _ => rfl
  have x1 := hW.x1
  refine does_value ho hw (v := .slice (some ⟨bl, off, none⟩) tl lc) ?_ rfl (Below.refl _ _)
  generalize c.eval = ρ at *
  clear hF hb hW hw ho
  go_simp
set_option maxRecDepth 10000 in
theorem oP6_2 : stepP6 p1 p2 bl off tl lc bl2 off2 lc2 j v0 v1 v2 v3 v4 v5 u0 u1 u2 u3 u4 u5 Q 2 := by
  intro c w hb hW hF
  have ho : RP6[2]? = some ({ dst := some 50, op := Op.move (Operand.tmp 5), type := 3, pos := "law.go:59", after := #[], guard := none } : Oper) := by kernel_rfl
  have e5 := hb.t5
  have hw := wnP6 (c := c) ho rfl
  have ec : ∀ v, c.eval (.const v) = v := fun _ => rfl
  have ef : ∀ f, c.eval (.func f) = .func (.func f) #[] #[] := fun _ => rfl
  refine does_value ho hw (v := .int .i64 (j : Int)) ?_ rfl (Below.refl _ _)
  generalize c.eval = ρ at *
  clear hF hb hW hw ho
  go_simp
set_option maxRecDepth 10000 in
theorem oP6_3 : stepP6 p1 p2 bl off tl lc bl2 off2 lc2 j v0 v1 v2 v3 v4 v5 u0 u1 u2 u3 u4 u5 Q 3 := by
  intro c w hb hW hF
  have ho : RP6[3]? = some ({ dst := some 51, op := Op.indexAddr 24 (Operand.tmp 49) (Operand.tmp 50), type := 0, pos := "law.go:59", after := #[{ on := 1, ground := Ground.data }, { on := 2, ground := Ground.data }], guard := none } : Oper) := by kernel_rfl
  have e49 : c.eval (.tmp 49) = .slice (some ⟨bl, off, none⟩) tl lc := fact_at (p := eqv (.slice (some ⟨bl, off, none⟩) tl lc)) (by kernel_rfl) rfl (hF 1 (by decide))
  have e50 : c.eval (.tmp 50) = .int .i64 (j : Int) := fact_at (p := eqv (.int .i64 (j : Int))) (by kernel_rfl) rfl (hF 2 (by decide))
  have hw := wnP6 (c := c) ho rfl
  have ec : ∀ v, c.eval (.const v) = v := fun _ => rfl
  have ef : ∀ f, c.eval (.func f) = .func (.func f) #[] #[] := fun _ => rfl
  have lt := hW.lt
  have le := hW.le
  refine does_value ho hw (v := .pointer (some ⟨bl, off + j * 6, none⟩)) ?_ rfl (Below.refl _ _)
  generalize c.eval = ρ at *
  clear hF hb hW hw ho
  go_simp
set_option maxRecDepth 10000 in
theorem oP6_4 : stepP6 p1 p2 bl off tl lc bl2 off2 lc2 j v0 v1 v2 v3 v4 v5 u0 u1 u2 u3 u4 u5 Q 4 := by
  intro c w hb hW hF
  have ho : RP6[4]? = some ({ dst := some 52, op := Op.load 26 (Operand.tmp 51), type := 26, pos := "law.go:59", after := #[{ on := 3, ground := Ground.data }], guard := none } : Oper) := by kernel_rfl
  have e51 : c.eval (.tmp 51) = .pointer (some ⟨bl, off + j * 6, none⟩) := fact_at (p := eqv (.pointer (some ⟨bl, off + j * 6, none⟩))) (by kernel_rfl) rfl (hF 3 (by decide))
  have hw := wnP6 (c := c) ho rfl
  have ec : ∀ v, c.eval (.const v) = v := fun _ => rfl
  have ef : ∀ f, c.eval (.func f) = .func (.func f) #[] #[] := fun _ => rfl
  have cv0 := hW.cv0
  have cv1 := hW.cv1
  have cv2 := hW.cv2
  have cv3 := hW.cv3
  have cv4 := hW.cv4
  have cv5 := hW.cv5
  refine does_value ho hw (v := .agg #[v0, v1, v2, v3, v4, v5]) ?_ rfl (Below.refl _ _)
  generalize c.eval = ρ at *
  clear hF hb hW hw ho
  go_simp
set_option maxRecDepth 10000 in
theorem oP6_5 : stepP6 p1 p2 bl off tl lc bl2 off2 lc2 j v0 v1 v2 v3 v4 v5 u0 u1 u2 u3 u4 u5 Q 5 := by
  intro c w hb hW hF
  have ho : RP6[5]? = some ({ dst := some 53, op := Op.fieldAddr 26 (Operand.tmp 3) 5, type := 0, pos := "law.go:59", after := #[], guard := none } : Oper) := by kernel_rfl
  have e3 := hb.t3
  have hw := wnP6 (c := c) ho rfl
  have ec : ∀ v, c.eval (.const v) = v := fun _ => rfl
  have ef : ∀ f, c.eval (.func f) = .func (.func f) #[] #[] := fun _ => rfl
  refine does_value ho hw (v := .pointer (some ⟨p2, 5, none⟩)) ?_ rfl (Below.refl _ _)
  generalize c.eval = ρ at *
  clear hF hb hW hw ho
  go_simp
set_option maxRecDepth 10000 in
theorem oP6_6 : stepP6 p1 p2 bl off tl lc bl2 off2 lc2 j v0 v1 v2 v3 v4 v5 u0 u1 u2 u3 u4 u5 Q 6 := by
  intro c w hb hW hF
  have ho : RP6[6]? = some ({ dst := some 54, op := Op.load 24 (Operand.tmp 53), type := 24, pos := "law.go:59", after := #[{ on := 5, ground := Ground.data }], guard := none } : Oper) := by kernel_rfl
  have e53 : c.eval (.tmp 53) = .pointer (some ⟨p2, 5, none⟩) := fact_at (p := eqv (.pointer (some ⟨p2, 5, none⟩))) (by kernel_rfl) rfl (hF 5 (by decide))
  have hw := wnP6 (c := c) ho rfl
  have ec : ∀ v, c.eval (.const v) = v := fun _ => rfl
  have ef : ∀ f, c.eval (.func f) = .func (.func f) #[] #[] := fun _ => rfl
  have x2 := hW.x2
  refine does_value ho hw (v := .slice (some ⟨bl2, off2, none⟩) tl lc2) ?_ rfl (Below.refl _ _)
  generalize c.eval = ρ at *
  clear hF hb hW hw ho
  go_simp
set_option maxRecDepth 10000 in
theorem oP6_7 : stepP6 p1 p2 bl off tl lc bl2 off2 lc2 j v0 v1 v2 v3 v4 v5 u0 u1 u2 u3 u4 u5 Q 7 := by
  intro c w hb hW hF
  have ho : RP6[7]? = some ({ dst := some 55, op := Op.move (Operand.tmp 5), type := 3, pos := "law.go:59", after := #[], guard := none } : Oper) := by kernel_rfl
  have e5 := hb.t5
  have hw := wnP6 (c := c) ho rfl
  have ec : ∀ v, c.eval (.const v) = v := fun _ => rfl
  have ef : ∀ f, c.eval (.func f) = .func (.func f) #[] #[] := fun _ => rfl
  refine does_value ho hw (v := .int .i64 (j : Int)) ?_ rfl (Below.refl _ _)
  generalize c.eval = ρ at *
  clear hF hb hW hw ho
  go_simp
set_option maxRecDepth 10000 in
theorem oP6_8 : stepP6 p1 p2 bl off tl lc bl2 off2 lc2 j v0 v1 v2 v3 v4 v5 u0 u1 u2 u3 u4 u5 Q 8 := by
  intro c w hb hW hF
  have ho : RP6[8]? = some ({ dst := some 56, op := Op.indexAddr 24 (Operand.tmp 54) (Operand.tmp 55), type := 0, pos := "law.go:59", after := #[{ on := 6, ground := Ground.data }, { on := 7, ground := Ground.data }], guard := none } : Oper) := by kernel_rfl
  have e54 : c.eval (.tmp 54) = .slice (some ⟨bl2, off2, none⟩) tl lc2 := fact_at (p := eqv (.slice (some ⟨bl2, off2, none⟩) tl lc2)) (by kernel_rfl) rfl (hF 6 (by decide))
  have e55 : c.eval (.tmp 55) = .int .i64 (j : Int) := fact_at (p := eqv (.int .i64 (j : Int))) (by kernel_rfl) rfl (hF 7 (by decide))
  have hw := wnP6 (c := c) ho rfl
  have ec : ∀ v, c.eval (.const v) = v := fun _ => rfl
  have ef : ∀ f, c.eval (.func f) = .func (.func f) #[] #[] := fun _ => rfl
  have lt := hW.lt
  have le := hW.le
  refine does_value ho hw (v := .pointer (some ⟨bl2, off2 + j * 6, none⟩)) ?_ rfl (Below.refl _ _)
  generalize c.eval = ρ at *
  clear hF hb hW hw ho
  go_simp
set_option maxRecDepth 10000 in
theorem oP6_9 : stepP6 p1 p2 bl off tl lc bl2 off2 lc2 j v0 v1 v2 v3 v4 v5 u0 u1 u2 u3 u4 u5 Q 9 := by
  intro c w hb hW hF
  have ho : RP6[9]? = some ({ dst := some 57, op := Op.load 26 (Operand.tmp 56), type := 26, pos := "law.go:59", after := #[{ on := 8, ground := Ground.data }], guard := none } : Oper) := by kernel_rfl
  have e56 : c.eval (.tmp 56) = .pointer (some ⟨bl2, off2 + j * 6, none⟩) := fact_at (p := eqv (.pointer (some ⟨bl2, off2 + j * 6, none⟩))) (by kernel_rfl) rfl (hF 8 (by decide))
  have hw := wnP6 (c := c) ho rfl
  have ec : ∀ v, c.eval (.const v) = v := fun _ => rfl
  have ef : ∀ f, c.eval (.func f) = .func (.func f) #[] #[] := fun _ => rfl
  have cu0 := hW.cu0
  have cu1 := hW.cu1
  have cu2 := hW.cu2
  have cu3 := hW.cu3
  have cu4 := hW.cu4
  have cu5 := hW.cu5
  refine does_value ho hw (v := .agg #[u0, u1, u2, u3, u4, u5]) ?_ rfl (Below.refl _ _)
  generalize c.eval = ρ at *
  clear hF hb hW hw ho
  go_simp
set_option maxRecDepth 10000 in
theorem oP6_10 : stepP6 p1 p2 bl off tl lc bl2 off2 lc2 j v0 v1 v2 v3 v4 v5 u0 u1 u2 u3 u4 u5 Q 10 := by
  intro c w hb hW hF
  have ho : RP6[10]? = some ({ dst := some 58, op := Op.call { callee := Callee.value (Operand.func 29), args := #[Operand.tmp 52, Operand.tmp 57], argTypes := #[26, 26] }, type := 4, pos := "law.go:59", after := #[{ on := 4, ground := Ground.data }, { on := 9, ground := Ground.data }], guard := none } : Oper) := by kernel_rfl
  have e52 : c.eval (.tmp 52) = .agg #[v0, v1, v2, v3, v4, v5] := fact_at (p := eqv (.agg #[v0, v1, v2, v3, v4, v5])) (by kernel_rfl) rfl (hF 4 (by decide))
  have e57 : c.eval (.tmp 57) = .agg #[u0, u1, u2, u3, u4, u5] := fact_at (p := eqv (.agg #[u0, u1, u2, u3, u4, u5])) (by kernel_rfl) rfl (hF 9 (by decide))
  have hw := wnP6 (c := c) ho rfl
  have ec : ∀ v, c.eval (.const v) = v := fun _ => rfl
  have ef : ∀ f, c.eval (.func f) = .func (.func f) #[] #[] := fun _ => rfl
  refine does_call ho hw (f := 29) (args := #[.agg #[v0, v1, v2, v3, v4, v5], .agg #[u0, u1, u2, u3, u4, u5]]) ?_ (Calls.mono (hW.call) fun e w' ⟨h1, h2⟩ => ⟨_, h1, rfl, h2⟩)
  generalize c.eval = ρ at *
  clear hF hb hW hw ho
  go_simp
set_option maxRecDepth 10000 in
theorem oP6_11 : stepP6 p1 p2 bl off tl lc bl2 off2 lc2 j v0 v1 v2 v3 v4 v5 u0 u1 u2 u3 u4 u5 Q 11 := by
  intro c w hb hW hF
  have ho : RP6[11]? = some ({ dst := some 59, op := Op.unOp UnOp.not 4 (Operand.tmp 58), type := 4, pos := "law.go:59", after := #[{ on := 10, ground := Ground.data }], guard := none } : Oper) := by kernel_rfl
  have e58 : c.eval (.tmp 58) = .bool true := fact_at (p := eqv (.bool true)) (by kernel_rfl) rfl (hF 10 (by decide))
  have hw := wnP6 (c := c) ho rfl
  have ec : ∀ v, c.eval (.const v) = v := fun _ => rfl
  have ef : ∀ f, c.eval (.func f) = .func (.func f) #[] #[] := fun _ => rfl
  refine does_value ho hw (v := .bool false) ?_ rfl (Below.refl _ _)
  generalize c.eval = ρ at *
  clear hF hb hW hw ho
  go_simp
end
theorem stableP6 (p1 p2 bl off tl lc bl2 off2 lc2 j : Nat) (v0 v1 v2 v3 v4 v5 u0 u1 u2 u3 u4 u5 : Value) : ∀ pr ∈ factsP6 p1 p2 bl off tl lc bl2 off2 lc2 j v0 v1 v2 v3 v4 v5 u0 u1 u2 u3 u4 u5, Stable pr := by
  unfold factsP6
  repeat' (first | exact List.forall_mem_nil _ | refine List.forall_mem_cons.2 ⟨eqv_stable _, ?_⟩)
set_option maxRecDepth 100000 in
theorem allP6 (p1 p2 bl off tl lc bl2 off2 lc2 j : Nat) (v0 v1 v2 v3 v4 v5 u0 u1 u2 u3 u4 u5 : Value) (Q : Exit → Act → World → Prop) : ∀ i, i < 12 → (fun i => ∀ c w, BaseP6 p1 p2 bl off tl lc bl2 off2 lc2 j v0 v1 v2 v3 v4 v5 u0 u1 u2 u3 u4 u5 c → WorldP6 p1 p2 bl off tl lc bl2 off2 lc2 j v0 v1 v2 v3 v4 v5 u0 u1 u2 u3 u4 u5 w → (∀ q0 ∈ ancP6 i, factsAt (factsP6 p1 p2 bl off tl lc bl2 off2 lc2 j v0 v1 v2 v3 v4 v5 u0 u1 u2 u3 u4 u5) q0 (val RP6 c q0) w) → Does Tryz.prog RP6 Q (factsAt (factsP6 p1 p2 bl off tl lc bl2 off2 lc2 j v0 v1 v2 v3 v4 v5 u0 u1 u2 u3 u4 u5)) i c w) i := by
  refine below_succ ?_ (fun c w => oP6_11 p1 p2 bl off tl lc bl2 off2 lc2 j v0 v1 v2 v3 v4 v5 u0 u1 u2 u3 u4 u5 Q c w)
  refine below_succ ?_ (fun c w => oP6_10 p1 p2 bl off tl lc bl2 off2 lc2 j v0 v1 v2 v3 v4 v5 u0 u1 u2 u3 u4 u5 Q c w)
  refine below_succ ?_ (fun c w => oP6_9 p1 p2 bl off tl lc bl2 off2 lc2 j v0 v1 v2 v3 v4 v5 u0 u1 u2 u3 u4 u5 Q c w)
  refine below_succ ?_ (fun c w => oP6_8 p1 p2 bl off tl lc bl2 off2 lc2 j v0 v1 v2 v3 v4 v5 u0 u1 u2 u3 u4 u5 Q c w)
  refine below_succ ?_ (fun c w => oP6_7 p1 p2 bl off tl lc bl2 off2 lc2 j v0 v1 v2 v3 v4 v5 u0 u1 u2 u3 u4 u5 Q c w)
  refine below_succ ?_ (fun c w => oP6_6 p1 p2 bl off tl lc bl2 off2 lc2 j v0 v1 v2 v3 v4 v5 u0 u1 u2 u3 u4 u5 Q c w)
  refine below_succ ?_ (fun c w => oP6_5 p1 p2 bl off tl lc bl2 off2 lc2 j v0 v1 v2 v3 v4 v5 u0 u1 u2 u3 u4 u5 Q c w)
  refine below_succ ?_ (fun c w => oP6_4 p1 p2 bl off tl lc bl2 off2 lc2 j v0 v1 v2 v3 v4 v5 u0 u1 u2 u3 u4 u5 Q c w)
  refine below_succ ?_ (fun c w => oP6_3 p1 p2 bl off tl lc bl2 off2 lc2 j v0 v1 v2 v3 v4 v5 u0 u1 u2 u3 u4 u5 Q c w)
  refine below_succ ?_ (fun c w => oP6_2 p1 p2 bl off tl lc bl2 off2 lc2 j v0 v1 v2 v3 v4 v5 u0 u1 u2 u3 u4 u5 Q c w)
  refine below_succ ?_ (fun c w => oP6_1 p1 p2 bl off tl lc bl2 off2 lc2 j v0 v1 v2 v3 v4 v5 u0 u1 u2 u3 u4 u5 Q c w)
  refine below_succ ?_ (fun c w => oP6_0 p1 p2 bl off tl lc bl2 off2 lc2 j v0 v1 v2 v3 v4 v5 u0 u1 u2 u3 u4 u5 Q c w)
  exact below_zero
theorem regionP6 (p1 p2 bl off tl lc bl2 off2 lc2 j : Nat) (v0 v1 v2 v3 v4 v5 u0 u1 u2 u3 u4 u5 : Value) (Q : Exit → Act → World → Prop) (base : Act) (w0 : World) (hsz : base.tmps.size = 60) (hb : BaseP6 p1 p2 bl off tl lc bl2 off2 lc2 j v0 v1 v2 v3 v4 v5 u0 u1 u2 u3 u4 u5 base)
    (hW : ∀ w, Below w0.heap.size w0 w → WorldP6 p1 p2 bl off tl lc bl2 off2 lc2 j v0 v1 v2 v3 v4 v5 u0 u1 u2 u3 u4 u5 w) (hQ : ∀ c w, Same RP6 base c → Below w0.heap.size w0 w → c.eval (.tmp 59) = .bool false → Q .normal c w) : (Code.region 6 RP6 true).wp Tryz.prog Q base w0 := by
  refine facts_rule (A := ancP6) (F := factsAt (factsP6 p1 p2 bl off tl lc bl2 off2 lc2 j v0 v1 v2 v3 v4 v5 u0 u1 u2 u3 u4 u5)) (by kernel_rfl) (by rw [hsz]; kernel_rfl) (fun i v w w' => factsAt_stable (stableP6 p1 p2 bl off tl lc bl2 off2 lc2 j v0 v1 v2 v3 v4 v5 u0 u1 u2 u3 u4 u5) i v w w') ?_ ?_
  · intro i hi c w hS hB hF
    exact allP6 p1 p2 bl off tl lc bl2 off2 lc2 j v0 v1 v2 v3 v4 v5 u0 u1 u2 u3 u4 u5 Q i (by rwa [show RP6.size = 12 by kernel_rfl] at hi) c w ⟨(same_eval hS (by kernel_rfl)).trans hb.t2, (same_eval hS (by kernel_rfl)).trans hb.t3, (same_eval hS (by kernel_rfl)).trans hb.t5⟩ (hW w hB) hF
  · intro c w hS hB hF
    exact hQ c w hS hB (fact_at (p := eqv (.bool false)) (by kernel_rfl) rfl (hF 11 (by rw [show RP6.size = 12 by kernel_rfl]; omega)))
end Go.Proofs.YtbpmhgcjefpigaaGreatDoor
