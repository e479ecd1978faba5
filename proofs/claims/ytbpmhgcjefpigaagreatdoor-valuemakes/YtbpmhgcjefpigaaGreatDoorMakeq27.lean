/- A statement that reads, calls and lays rows of its own: operation by operation, in whatever order. -/
import Derived.Test.YtbpmhgcjefpigaaGreatDoorCopy7
namespace Go.Proofs.YtbpmhgcjefpigaaGreatDoor
open Go.RowKit Go.WideShapes Go.Shelf
set_option linter.unusedVariables false
set_option linter.unusedSimpArgs false
noncomputable def RQ27 : Array Oper := regionAt Tryz.f9 27
def ancQ27 (i : Nat) : List Nat := ([[], [], [0, 1], [2], [3], [3, 4], [3, 5], [3], [3, 7], [3, 8], [3, 6, 9], [3, 10], [11], [12], [12, 13], [12, 14], [12], [12, 16], [12, 17], [12, 15, 18], [12, 19], [20], [21], [21, 22], [21, 23], [21], [21, 25], [21, 26], [21, 24, 27], [21, 28], [29], [30], [30, 31], [32]] : List (List Nat)).getD i []
def factsQ27 (bx : Nat) (pb : Bool) (pn : Int) (ps : ByteArray) : List (Value → World → Prop) :=
  [eqv (.agg #[.int .i64 0, .bool false, .int .i64 0, .string ⟨#[]⟩, .slice none 0 0, .slice none 0 0]), eqv (.agg #[.int .i64 0, .bool false, .int .i64 0, .string ⟨#[]⟩, .slice none 0 0, .slice none 0 0]), eqv (.bool true), eqv (.bool true), eqv (.pointer (some ⟨bx, 0, none⟩)), eqv (.bool pb), eqv (.agg #[.int .i64 1, .bool pb, .int .i64 0, .string ⟨#[]⟩, .slice none 0 0, .slice none 0 0]), eqv (.pointer (some ⟨bx, 0, none⟩)), eqv (.bool pb), eqv (.agg #[.int .i64 1, .bool pb, .int .i64 0, .string ⟨#[]⟩, .slice none 0 0, .slice none 0 0]), eqv (.bool true), eqv (.bool true), eqv (.bool true), eqv (.pointer (some ⟨bx, 1, none⟩)), eqv (.int .i64 pn), eqv (.agg #[.int .i64 2, .bool false, .int .i64 pn, .string ⟨#[]⟩, .slice none 0 0, .slice none 0 0]), eqv (.pointer (some ⟨bx, 1, none⟩)), eqv (.int .i64 pn), eqv (.agg #[.int .i64 2, .bool false, .int .i64 pn, .string ⟨#[]⟩, .slice none 0 0, .slice none 0 0]), eqv (.bool true), eqv (.bool true), eqv (.bool true), eqv (.pointer (some ⟨bx, 2, none⟩)), eqv (.string ps), eqv (.agg #[.int .i64 3, .bool false, .int .i64 0, .string ps, .slice none 0 0, .slice none 0 0]), eqv (.pointer (some ⟨bx, 2, none⟩)), eqv (.string ps), eqv (.agg #[.int .i64 3, .bool false, .int .i64 0, .string ps, .slice none 0 0, .slice none 0 0]), eqv (.bool true), eqv (.bool true), eqv (.bool true), eqv (.bool true), eqv (.bool true), eqv (.bool true)]
structure BaseQ27 (bx : Nat) (pb : Bool) (pn : Int) (ps : ByteArray) (c : Act) : Prop where
  t1 : c.eval (.tmp 1) = .pointer (some ⟨bx, 0, none⟩)
structure WorldQ27 (bx : Nat) (pb : Bool) (pn : Int) (ps : ByteArray) (w : World) : Prop where
  c0 : w.cell? ⟨bx, 0, none⟩ = some (.bool pb)
  c1 : w.cell? ⟨bx, 1, none⟩ = some (.int .i64 pn)
  c2 : w.cell? ⟨bx, 2, none⟩ = some (.string ps)
  k53 : Calls Tryz.prog 53 #[] w fun e w' => e = .returned (.agg #[.int .i64 0, .bool false, .int .i64 0, .string ⟨#[]⟩, .slice none 0 0, .slice none 0 0]) ∧ Below w.heap.size w w'
  k54 : Calls Tryz.prog 54 #[.bool pb] w fun e w' => e = .returned (.agg #[.int .i64 1, .bool pb, .int .i64 0, .string ⟨#[]⟩, .slice none 0 0, .slice none 0 0]) ∧ Below w.heap.size w w'
  k55 : Calls Tryz.prog 55 #[.int .i64 pn] w fun e w' => e = .returned (.agg #[.int .i64 2, .bool false, .int .i64 pn, .string ⟨#[]⟩, .slice none 0 0, .slice none 0 0]) ∧ Below w.heap.size w w'
  k56 : Calls Tryz.prog 56 #[.string ps] w fun e w' => e = .returned (.agg #[.int .i64 3, .bool false, .int .i64 0, .string ps, .slice none 0 0, .slice none 0 0]) ∧ Below w.heap.size w w'
  a0 : Calls Tryz.prog 27 #[.agg #[.int .i64 0, .bool false, .int .i64 0, .string ⟨#[]⟩, .slice none 0 0, .slice none 0 0], .agg #[.int .i64 0, .bool false, .int .i64 0, .string ⟨#[]⟩, .slice none 0 0, .slice none 0 0]] w fun e w' => e = .returned (.bool true) ∧ Below w.heap.size w w'
  a1 : Calls Tryz.prog 27 #[.agg #[.int .i64 1, .bool pb, .int .i64 0, .string ⟨#[]⟩, .slice none 0 0, .slice none 0 0], .agg #[.int .i64 1, .bool pb, .int .i64 0, .string ⟨#[]⟩, .slice none 0 0, .slice none 0 0]] w fun e w' => e = .returned (.bool true) ∧ Below w.heap.size w w'
  a2 : Calls Tryz.prog 27 #[.agg #[.int .i64 2, .bool false, .int .i64 pn, .string ⟨#[]⟩, .slice none 0 0, .slice none 0 0], .agg #[.int .i64 2, .bool false, .int .i64 pn, .string ⟨#[]⟩, .slice none 0 0, .slice none 0 0]] w fun e w' => e = .returned (.bool true) ∧ Below w.heap.size w w'
  a3 : Calls Tryz.prog 27 #[.agg #[.int .i64 3, .bool false, .int .i64 0, .string ps, .slice none 0 0, .slice none 0 0], .agg #[.int .i64 3, .bool false, .int .i64 0, .string ps, .slice none 0 0, .slice none 0 0]] w fun e w' => e = .returned (.bool true) ∧ Below w.heap.size w w'
  k16 : Calls Tryz.prog 16 #[] w fun e w' => e = .returned (.bool true) ∧ Below w.heap.size w w'
def stepQ27 (bx : Nat) (pb : Bool) (pn : Int) (ps : ByteArray) (Q : Exit → Act → World → Prop) (i : Nat) : Prop := ∀ (c : Act) (w : World), BaseQ27 bx pb pn ps c → WorldQ27 bx pb pn ps w → (∀ q0 ∈ ancQ27 i, factsAt (factsQ27 bx pb pn ps) q0 (val RQ27 c q0) w) → Does Tryz.prog RQ27 Q (factsAt (factsQ27 bx pb pn ps)) i c w
theorem wnQ27 {i : Nat} {o : Oper} {c : Act} (ho : RQ27[i]? = some o) (h : o.guard = none) : Region.wanted o (yielded RQ27 c.tmps) = true := want_none h
theorem weQ27 {i g : Nat} {b : Bool} {o : Oper} {c : Act} (ho : RQ27[i]? = some o) (h : o.guard = some (g, b)) (hg : val RQ27 c g = .bool b) : Region.wanted o (yielded RQ27 c.tmps) = true := want_eq h hg
section
variable (bx : Nat) (pb : Bool) (pn : Int) (ps : ByteArray) (Q : Exit → Act → World → Prop)
set_option maxRecDepth 10000 in
theorem oQ27_0 : stepQ27 bx pb pn ps Q 0 := by
  intro c w hb hW hF
  have ho : RQ27[0]? = some ({ dst := some 172, op := Op.call { callee := Callee.value (Operand.func 53), args := #[], argTypes := #[] }, type := 26, pos := "law.go:238", after := #[], guard := none } : Oper) := by kernel_rfl
  have hw := wnQ27 (c := c) ho rfl
  have ec : ∀ v, c.eval (.const v) = v := fun _ => rfl
  have ef : ∀ f, c.eval (.func f) = .func (.func f) #[] #[] := fun _ => rfl
  refine does_call ho hw (f := 53) (args := #[]) ?_ (Calls.mono (hW.k53) fun e w' ⟨h1, h2⟩ => ⟨_, h1, rfl, h2⟩)
  generalize c.eval = ρ at *
  clear hF hb hW hw ho
  go_simp
set_option maxRecDepth 10000 in
theorem oQ27_1 : stepQ27 bx pb pn ps Q 1 := by
  intro c w hb hW hF
  have ho : RQ27[1]? = some ({ dst := some 173, op := Op.build 26 #[], type := 26, pos := "law.go:238", after := #[], guard := none } : Oper) := by kernel_rfl
  have hw := wnQ27 (c := c) ho rfl
  have ec : ∀ v, c.eval (.const v) = v := fun _ => rfl
  have ef : ∀ f, c.eval (.func f) = .func (.func f) #[] #[] := fun _ => rfl
  refine does_value ho hw (v := .agg #[.int .i64 0, .bool false, .int .i64 0, .string ⟨#[]⟩, .slice none 0 0, .slice none 0 0]) ?_ rfl (Below.refl _ _)
  generalize c.eval = ρ at *
  clear hF hb hW hw ho
  go_simp
set_option maxRecDepth 10000 in
theorem oQ27_2 : stepQ27 bx pb pn ps Q 2 := by
  intro c w hb hW hF
  have ho : RQ27[2]? = some ({ dst := some 174, op := Op.call { callee := Callee.value (Operand.func 27), args := #[Operand.tmp 172, Operand.tmp 173], argTypes := #[26, 26] }, type := 4, pos := "law.go:238", after := #[{ on := 0, ground := Ground.data }, { on := 1, ground := Ground.data }, { on := 0, ground := Ground.chain }], guard := none } : Oper) := by kernel_rfl
  have e172 : c.eval (.tmp 172) = .agg #[.int .i64 0, .bool false, .int .i64 0, .string ⟨#[]⟩, .slice none 0 0, .slice none 0 0] := fact_at (p := eqv (.agg #[.int .i64 0, .bool false, .int .i64 0, .string ⟨#[]⟩, .slice none 0 0, .slice none 0 0])) (by kernel_rfl) rfl (hF 0 (by decide))
  have e173 : c.eval (.tmp 173) = .agg #[.int .i64 0, .bool false, .int .i64 0, .string ⟨#[]⟩, .slice none 0 0, .slice none 0 0] := fact_at (p := eqv (.agg #[.int .i64 0, .bool false, .int .i64 0, .string ⟨#[]⟩, .slice none 0 0, .slice none 0 0])) (by kernel_rfl) rfl (hF 1 (by decide))
  have hw := wnQ27 (c := c) ho rfl
  have ec : ∀ v, c.eval (.const v) = v := fun _ => rfl
  have ef : ∀ f, c.eval (.func f) = .func (.func f) #[] #[] := fun _ => rfl
  refine does_call ho hw (f := 27) (args := #[.agg #[.int .i64 0, .bool false, .int .i64 0, .string ⟨#[]⟩, .slice none 0 0, .slice none 0 0], .agg #[.int .i64 0, .bool false, .int .i64 0, .string ⟨#[]⟩, .slice none 0 0, .slice none 0 0]]) ?_ (Calls.mono (hW.a0) fun e w' ⟨h1, h2⟩ => ⟨_, h1, rfl, h2⟩)
  generalize c.eval = ρ at *
  clear hF hb hW hw ho
  go_simp
set_option maxRecDepth 10000 in
theorem oQ27_3 : stepQ27 bx pb pn ps Q 3 := by
  intro c w hb hW hF
  have ho : RQ27[3]? = some ({ dst := some 175, op := Op.move (Operand.tmp 174), type := 4, pos := "law.go:238", after := #[{ on := 2, ground := Ground.data }, { on := 2, ground := Ground.chain }], guard := none } : Oper) := by kernel_rfl
  have e174 : c.eval (.tmp 174) = .bool true := fact_at (p := eqv (.bool true)) (by kernel_rfl) rfl (hF 2 (by decide))
  have hw := wnQ27 (c := c) ho rfl
  have ec : ∀ v, c.eval (.const v) = v := fun _ => rfl
  have ef : ∀ f, c.eval (.func f) = .func (.func f) #[] #[] := fun _ => rfl
  refine does_value ho hw (v := .bool true) ?_ rfl (Below.refl _ _)
  generalize c.eval = ρ at *
  clear hF hb hW hw ho
  go_simp
set_option maxRecDepth 10000 in
theorem oQ27_4 : stepQ27 bx pb pn ps Q 4 := by
  intro c w hb hW hF
  have ho : RQ27[4]? = some ({ dst := some 176, op := Op.fieldAddr 56 (Operand.tmp 1) 0, type := 0, pos := "law.go:238", after := #[{ on := 3, ground := Ground.guard }], guard := some (3, true) } : Oper) := by kernel_rfl
  have e1 := hb.t1
  have hg : val RQ27 c 3 = .bool true := hF 3 (by decide)
  have hw := weQ27 ho rfl hg
  have ec : ∀ v, c.eval (.const v) = v := fun _ => rfl
  have ef : ∀ f, c.eval (.func f) = .func (.func f) #[] #[] := fun _ => rfl
  refine does_value ho hw (v := .pointer (some ⟨bx, 0, none⟩)) ?_ rfl (Below.refl _ _)
  generalize c.eval = ρ at *
  clear hF hb hW hw ho hg
  go_simp
set_option maxRecDepth 10000 in
theorem oQ27_5 : stepQ27 bx pb pn ps Q 5 := by
  intro c w hb hW hF
  have ho : RQ27[5]? = some ({ dst := some 177, op := Op.load 4 (Operand.tmp 176), type := 4, pos := "law.go:238", after := #[{ on := 4, ground := Ground.data }, { on := 3, ground := Ground.guard }], guard := some (3, true) } : Oper) := by kernel_rfl
  have e176 : c.eval (.tmp 176) = .pointer (some ⟨bx, 0, none⟩) := fact_at (p := eqv (.pointer (some ⟨bx, 0, none⟩))) (by kernel_rfl) rfl (hF 4 (by decide))
  have hg : val RQ27 c 3 = .bool true := hF 3 (by decide)
  have hw := weQ27 ho rfl hg
  have ec : ∀ v, c.eval (.const v) = v := fun _ => rfl
  have ef : ∀ f, c.eval (.func f) = .func (.func f) #[] #[] := fun _ => rfl
  have c0 := hW.c0
  refine does_value ho hw (v := .bool pb) ?_ rfl (Below.refl _ _)
  generalize c.eval = ρ at *
  clear hF hb hW hw ho hg
  go_simp
set_option maxRecDepth 10000 in
theorem oQ27_6 : stepQ27 bx pb pn ps Q 6 := by
  intro c w hb hW hF
  have ho : RQ27[6]? = some ({ dst := some 178, op := Op.call { callee := Callee.value (Operand.func 54), args := #[Operand.tmp 177], argTypes := #[4] }, type := 26, pos := "law.go:238", after := #[{ on := 5, ground := Ground.data }, { on := 3, ground := Ground.chain }, { on := 3, ground := Ground.guard }], guard := some (3, true) } : Oper) := by kernel_rfl
  have e177 : c.eval (.tmp 177) = .bool pb := fact_at (p := eqv (.bool pb)) (by kernel_rfl) rfl (hF 5 (by decide))
  have hg : val RQ27 c 3 = .bool true := hF 3 (by decide)
  have hw := weQ27 ho rfl hg
  have ec : ∀ v, c.eval (.const v) = v := fun _ => rfl
  have ef : ∀ f, c.eval (.func f) = .func (.func f) #[] #[] := fun _ => rfl
  refine does_call ho hw (f := 54) (args := #[.bool pb]) ?_ (Calls.mono (hW.k54) fun e w' ⟨h1, h2⟩ => ⟨_, h1, rfl, h2⟩)
  generalize c.eval = ρ at *
  clear hF hb hW hw ho hg
  go_simp
set_option maxRecDepth 10000 in
theorem oQ27_7 : stepQ27 bx pb pn ps Q 7 := by
  intro c w hb hW hF
  have ho : RQ27[7]? = some ({ dst := some 179, op := Op.fieldAddr 56 (Operand.tmp 1) 0, type := 0, pos := "law.go:238", after := #[{ on := 3, ground := Ground.guard }], guard := some (3, true) } : Oper) := by kernel_rfl
  have e1 := hb.t1
  have hg : val RQ27 c 3 = .bool true := hF 3 (by decide)
  have hw := weQ27 ho rfl hg
  have ec : ∀ v, c.eval (.const v) = v := fun _ => rfl
  have ef : ∀ f, c.eval (.func f) = .func (.func f) #[] #[] := fun _ => rfl
  refine does_value ho hw (v := .pointer (some ⟨bx, 0, none⟩)) ?_ rfl (Below.refl _ _)
  generalize c.eval = ρ at *
  clear hF hb hW hw ho hg
  go_simp
set_option maxRecDepth 10000 in
theorem oQ27_8 : stepQ27 bx pb pn ps Q 8 := by
  intro c w hb hW hF
  have ho : RQ27[8]? = some ({ dst := some 180, op := Op.load 4 (Operand.tmp 179), type := 4, pos := "law.go:238", after := #[{ on := 7, ground := Ground.data }, { on := 3, ground := Ground.guard }], guard := some (3, true) } : Oper) := by kernel_rfl
  have e179 : c.eval (.tmp 179) = .pointer (some ⟨bx, 0, none⟩) := fact_at (p := eqv (.pointer (some ⟨bx, 0, none⟩))) (by kernel_rfl) rfl (hF 7 (by decide))
  have hg : val RQ27 c 3 = .bool true := hF 3 (by decide)
  have hw := weQ27 ho rfl hg
  have ec : ∀ v, c.eval (.const v) = v := fun _ => rfl
  have ef : ∀ f, c.eval (.func f) = .func (.func f) #[] #[] := fun _ => rfl
  have c0 := hW.c0
  refine does_value ho hw (v := .bool pb) ?_ rfl (Below.refl _ _)
  generalize c.eval = ρ at *
  clear hF hb hW hw ho hg
  go_simp
set_option maxRecDepth 10000 in
theorem oQ27_9 : stepQ27 bx pb pn ps Q 9 := by
  intro c w hb hW hF
  have ho : RQ27[9]? = some ({ dst := some 181, op := Op.build 26 #[(0, Operand.const (Value.int IntKind.i64 1)), (1, Operand.tmp 180)], type := 26, pos := "law.go:238", after := #[{ on := 8, ground := Ground.data }, { on := 3, ground := Ground.guard }], guard := some (3, true) } : Oper) := by kernel_rfl
  have e180 : c.eval (.tmp 180) = .bool pb := fact_at (p := eqv (.bool pb)) (by kernel_rfl) rfl (hF 8 (by decide))
  have hg : val RQ27 c 3 = .bool true := hF 3 (by decide)
  have hw := weQ27 ho rfl hg
  have ec : ∀ v, c.eval (.const v) = v := fun _ => rfl
  have ef : ∀ f, c.eval (.func f) = .func (.func f) #[] #[] := fun _ => rfl
  refine does_value ho hw (v := .agg #[.int .i64 1, .bool pb, .int .i64 0, .string ⟨#[]⟩, .slice none 0 0, .slice none 0 0]) ?_ rfl (Below.refl _ _)
  generalize c.eval = ρ at *
  clear hF hb hW hw ho hg
  go_simp
set_option maxRecDepth 10000 in
theorem oQ27_10 : stepQ27 bx pb pn ps Q 10 := by
  intro c w hb hW hF
  have ho : RQ27[10]? = some ({ dst := some 182, op := Op.call { callee := Callee.value (Operand.func 27), args := #[Operand.tmp 178, Operand.tmp 181], argTypes := #[26, 26] }, type := 4, pos := "law.go:238", after := #[{ on := 6, ground := Ground.data }, { on := 9, ground := Ground.data }, { on := 6, ground := Ground.chain }, { on := 3, ground := Ground.guard }], guard := some (3, true) } : Oper) := by kernel_rfl
  have e178 : c.eval (.tmp 178) = .agg #[.int .i64 1, .bool pb, .int .i64 0, .string ⟨#[]⟩, .slice none 0 0, .slice none 0 0] := fact_at (p := eqv (.agg #[.int .i64 1, .bool pb, .int .i64 0, .string ⟨#[]⟩, .slice none 0 0, .slice none 0 0])) (by kernel_rfl) rfl (hF 6 (by decide))
  have e181 : c.eval (.tmp 181) = .agg #[.int .i64 1, .bool pb, .int .i64 0, .string ⟨#[]⟩, .slice none 0 0, .slice none 0 0] := fact_at (p := eqv (.agg #[.int .i64 1, .bool pb, .int .i64 0, .string ⟨#[]⟩, .slice none 0 0, .slice none 0 0])) (by kernel_rfl) rfl (hF 9 (by decide))
  have hg : val RQ27 c 3 = .bool true := hF 3 (by decide)
  have hw := weQ27 ho rfl hg
  have ec : ∀ v, c.eval (.const v) = v := fun _ => rfl
  have ef : ∀ f, c.eval (.func f) = .func (.func f) #[] #[] := fun _ => rfl
  refine does_call ho hw (f := 27) (args := #[.agg #[.int .i64 1, .bool pb, .int .i64 0, .string ⟨#[]⟩, .slice none 0 0, .slice none 0 0], .agg #[.int .i64 1, .bool pb, .int .i64 0, .string ⟨#[]⟩, .slice none 0 0, .slice none 0 0]]) ?_ (Calls.mono (hW.a1) fun e w' ⟨h1, h2⟩ => ⟨_, h1, rfl, h2⟩)
  generalize c.eval = ρ at *
  clear hF hb hW hw ho hg
  go_simp
set_option maxRecDepth 10000 in
theorem oQ27_11 : stepQ27 bx pb pn ps Q 11 := by
  intro c w hb hW hF
  have ho : RQ27[11]? = some ({ dst := some 183, op := Op.pick (Operand.tmp 175) (Operand.tmp 182) (Operand.const (Value.bool false)), type := 4, pos := "law.go:238", after := #[{ on := 3, ground := Ground.data }, { on := 10, ground := Ground.data }], guard := none } : Oper) := by kernel_rfl
  have e175 : c.eval (.tmp 175) = .bool true := fact_at (p := eqv (.bool true)) (by kernel_rfl) rfl (hF 3 (by decide))
  have e182 : c.eval (.tmp 182) = .bool true := fact_at (p := eqv (.bool true)) (by kernel_rfl) rfl (hF 10 (by decide))
  have hw := wnQ27 (c := c) ho rfl
  have ec : ∀ v, c.eval (.const v) = v := fun _ => rfl
  have ef : ∀ f, c.eval (.func f) = .func (.func f) #[] #[] := fun _ => rfl
  refine does_value ho hw (v := .bool true) ?_ rfl (Below.refl _ _)
  generalize c.eval = ρ at *
  clear hF hb hW hw ho
  go_simp
set_option maxRecDepth 10000 in
theorem oQ27_12 : stepQ27 bx pb pn ps Q 12 := by
  intro c w hb hW hF
  have ho : RQ27[12]? = some ({ dst := some 184, op := Op.move (Operand.tmp 183), type := 4, pos := "law.go:238", after := #[{ on := 11, ground := Ground.data }, { on := 10, ground := Ground.chain }], guard := none } : Oper) := by kernel_rfl
  have e183 : c.eval (.tmp 183) = .bool true := fact_at (p := eqv (.bool true)) (by kernel_rfl) rfl (hF 11 (by decide))
  have hw := wnQ27 (c := c) ho rfl
  have ec : ∀ v, c.eval (.const v) = v := fun _ => rfl
  have ef : ∀ f, c.eval (.func f) = .func (.func f) #[] #[] := fun _ => rfl
  refine does_value ho hw (v := .bool true) ?_ rfl (Below.refl _ _)
  generalize c.eval = ρ at *
  clear hF hb hW hw ho
  go_simp
set_option maxRecDepth 10000 in
theorem oQ27_13 : stepQ27 bx pb pn ps Q 13 := by
  intro c w hb hW hF
  have ho : RQ27[13]? = some ({ dst := some 185, op := Op.fieldAddr 56 (Operand.tmp 1) 1, type := 0, pos := "law.go:238", after := #[{ on := 12, ground := Ground.guard }], guard := some (12, true) } : Oper) := by kernel_rfl
  have e1 := hb.t1
  have hg : val RQ27 c 12 = .bool true := hF 12 (by decide)
  have hw := weQ27 ho rfl hg
  have ec : ∀ v, c.eval (.const v) = v := fun _ => rfl
  have ef : ∀ f, c.eval (.func f) = .func (.func f) #[] #[] := fun _ => rfl
  refine does_value ho hw (v := .pointer (some ⟨bx, 1, none⟩)) ?_ rfl (Below.refl _ _)
  generalize c.eval = ρ at *
  clear hF hb hW hw ho hg
  go_simp
set_option maxRecDepth 10000 in
theorem oQ27_14 : stepQ27 bx pb pn ps Q 14 := by
  intro c w hb hW hF
  have ho : RQ27[14]? = some ({ dst := some 186, op := Op.load 2 (Operand.tmp 185), type := 2, pos := "law.go:238", after := #[{ on := 13, ground := Ground.data }, { on := 12, ground := Ground.guard }], guard := some (12, true) } : Oper) := by kernel_rfl
  have e185 : c.eval (.tmp 185) = .pointer (some ⟨bx, 1, none⟩) := fact_at (p := eqv (.pointer (some ⟨bx, 1, none⟩))) (by kernel_rfl) rfl (hF 13 (by decide))
  have hg : val RQ27 c 12 = .bool true := hF 12 (by decide)
  have hw := weQ27 ho rfl hg
  have ec : ∀ v, c.eval (.const v) = v := fun _ => rfl
  have ef : ∀ f, c.eval (.func f) = .func (.func f) #[] #[] := fun _ => rfl
  have c1 := hW.c1
  refine does_value ho hw (v := .int .i64 pn) ?_ rfl (Below.refl _ _)
  generalize c.eval = ρ at *
  clear hF hb hW hw ho hg
  go_simp
set_option maxRecDepth 10000 in
theorem oQ27_15 : stepQ27 bx pb pn ps Q 15 := by
  intro c w hb hW hF
  have ho : RQ27[15]? = some ({ dst := some 187, op := Op.call { callee := Callee.value (Operand.func 55), args := #[Operand.tmp 186], argTypes := #[2] }, type := 26, pos := "law.go:238", after := #[{ on := 14, ground := Ground.data }, { on := 12, ground := Ground.chain }, { on := 12, ground := Ground.guard }], guard := some (12, true) } : Oper) := by kernel_rfl
  have e186 : c.eval (.tmp 186) = .int .i64 pn := fact_at (p := eqv (.int .i64 pn)) (by kernel_rfl) rfl (hF 14 (by decide))
  have hg : val RQ27 c 12 = .bool true := hF 12 (by decide)
  have hw := weQ27 ho rfl hg
  have ec : ∀ v, c.eval (.const v) = v := fun _ => rfl
  have ef : ∀ f, c.eval (.func f) = .func (.func f) #[] #[] := fun _ => rfl
  refine does_call ho hw (f := 55) (args := #[.int .i64 pn]) ?_ (Calls.mono (hW.k55) fun e w' ⟨h1, h2⟩ => ⟨_, h1, rfl, h2⟩)
  generalize c.eval = ρ at *
  clear hF hb hW hw ho hg
  go_simp
set_option maxRecDepth 10000 in
theorem oQ27_16 : stepQ27 bx pb pn ps Q 16 := by
  intro c w hb hW hF
  have ho : RQ27[16]? = some ({ dst := some 188, op := Op.fieldAddr 56 (Operand.tmp 1) 1, type := 0, pos := "law.go:238", after := #[{ on := 12, ground := Ground.guard }], guard := some (12, true) } : Oper) := by kernel_rfl
  have e1 := hb.t1
  have hg : val RQ27 c 12 = .bool true := hF 12 (by decide)
  have hw := weQ27 ho rfl hg
  have ec : ∀ v, c.eval (.const v) = v := fun _ => rfl
  have ef : ∀ f, c.eval (.func f) = .func (.func f) #[] #[] := fun _ => rfl
  refine does_value ho hw (v := .pointer (some ⟨bx, 1, none⟩)) ?_ rfl (Below.refl _ _)
  generalize c.eval = ρ at *
  clear hF hb hW hw ho hg
  go_simp
set_option maxRecDepth 10000 in
theorem oQ27_17 : stepQ27 bx pb pn ps Q 17 := by
  intro c w hb hW hF
  have ho : RQ27[17]? = some ({ dst := some 189, op := Op.load 2 (Operand.tmp 188), type := 2, pos := "law.go:238", after := #[{ on := 16, ground := Ground.data }, { on := 12, ground := Ground.guard }], guard := some (12, true) } : Oper) := by kernel_rfl
  have e188 : c.eval (.tmp 188) = .pointer (some ⟨bx, 1, none⟩) := fact_at (p := eqv (.pointer (some ⟨bx, 1, none⟩))) (by kernel_rfl) rfl (hF 16 (by decide))
  have hg : val RQ27 c 12 = .bool true := hF 12 (by decide)
  have hw := weQ27 ho rfl hg
  have ec : ∀ v, c.eval (.const v) = v := fun _ => rfl
  have ef : ∀ f, c.eval (.func f) = .func (.func f) #[] #[] := fun _ => rfl
  have c1 := hW.c1
  refine does_value ho hw (v := .int .i64 pn) ?_ rfl (Below.refl _ _)
  generalize c.eval = ρ at *
  clear hF hb hW hw ho hg
  go_simp
set_option maxRecDepth 10000 in
theorem oQ27_18 : stepQ27 bx pb pn ps Q 18 := by
  intro c w hb hW hF
  have ho : RQ27[18]? = some ({ dst := some 190, op := Op.build 26 #[(0, Operand.const (Value.int IntKind.i64 2)), (2, Operand.tmp 189)], type := 26, pos := "law.go:238", after := #[{ on := 17, ground := Ground.data }, { on := 12, ground := Ground.guard }], guard := some (12, true) } : Oper) := by kernel_rfl
  have e189 : c.eval (.tmp 189) = .int .i64 pn := fact_at (p := eqv (.int .i64 pn)) (by kernel_rfl) rfl (hF 17 (by decide))
  have hg : val RQ27 c 12 = .bool true := hF 12 (by decide)
  have hw := weQ27 ho rfl hg
  have ec : ∀ v, c.eval (.const v) = v := fun _ => rfl
  have ef : ∀ f, c.eval (.func f) = .func (.func f) #[] #[] := fun _ => rfl
  refine does_value ho hw (v := .agg #[.int .i64 2, .bool false, .int .i64 pn, .string ⟨#[]⟩, .slice none 0 0, .slice none 0 0]) ?_ rfl (Below.refl _ _)
  generalize c.eval = ρ at *
  clear hF hb hW hw ho hg
  go_simp
set_option maxRecDepth 10000 in
theorem oQ27_19 : stepQ27 bx pb pn ps Q 19 := by
  intro c w hb hW hF
  have ho : RQ27[19]? = some ({ dst := some 191, op := Op.call { callee := Callee.value (Operand.func 27), args := #[Operand.tmp 187, Operand.tmp 190], argTypes := #[26, 26] }, type := 4, pos := "law.go:238", after := #[{ on := 15, ground := Ground.data }, { on := 18, ground := Ground.data }, { on := 15, ground := Ground.chain }, { on := 12, ground := Ground.guard }], guard := some (12, true) } : Oper) := by kernel_rfl
  have e187 : c.eval (.tmp 187) = .agg #[.int .i64 2, .bool false, .int .i64 pn, .string ⟨#[]⟩, .slice none 0 0, .slice none 0 0] := fact_at (p := eqv (.agg #[.int .i64 2, .bool false, .int .i64 pn, .string ⟨#[]⟩, .slice none 0 0, .slice none 0 0])) (by kernel_rfl) rfl (hF 15 (by decide))
  have e190 : c.eval (.tmp 190) = .agg #[.int .i64 2, .bool false, .int .i64 pn, .string ⟨#[]⟩, .slice none 0 0, .slice none 0 0] := fact_at (p := eqv (.agg #[.int .i64 2, .bool false, .int .i64 pn, .string ⟨#[]⟩, .slice none 0 0, .slice none 0 0])) (by kernel_rfl) rfl (hF 18 (by decide))
  have hg : val RQ27 c 12 = .bool true := hF 12 (by decide)
  have hw := weQ27 ho rfl hg
  have ec : ∀ v, c.eval (.const v) = v := fun _ => rfl
  have ef : ∀ f, c.eval (.func f) = .func (.func f) #[] #[] := fun _ => rfl
  refine does_call ho hw (f := 27) (args := #[.agg #[.int .i64 2, .bool false, .int .i64 pn, .string ⟨#[]⟩, .slice none 0 0, .slice none 0 0], .agg #[.int .i64 2, .bool false, .int .i64 pn, .string ⟨#[]⟩, .slice none 0 0, .slice none 0 0]]) ?_ (Calls.mono (hW.a2) fun e w' ⟨h1, h2⟩ => ⟨_, h1, rfl, h2⟩)
  generalize c.eval = ρ at *
  clear hF hb hW hw ho hg
  go_simp
set_option maxRecDepth 10000 in
theorem oQ27_20 : stepQ27 bx pb pn ps Q 20 := by
  intro c w hb hW hF
  have ho : RQ27[20]? = some ({ dst := some 192, op := Op.pick (Operand.tmp 184) (Operand.tmp 191) (Operand.const (Value.bool false)), type := 4, pos := "law.go:238", after := #[{ on := 12, ground := Ground.data }, { on := 19, ground := Ground.data }], guard := none } : Oper) := by kernel_rfl
  have e184 : c.eval (.tmp 184) = .bool true := fact_at (p := eqv (.bool true)) (by kernel_rfl) rfl (hF 12 (by decide))
  have e191 : c.eval (.tmp 191) = .bool true := fact_at (p := eqv (.bool true)) (by kernel_rfl) rfl (hF 19 (by decide))
  have hw := wnQ27 (c := c) ho rfl
  have ec : ∀ v, c.eval (.const v) = v := fun _ => rfl
  have ef : ∀ f, c.eval (.func f) = .func (.func f) #[] #[] := fun _ => rfl
  refine does_value ho hw (v := .bool true) ?_ rfl (Below.refl _ _)
  generalize c.eval = ρ at *
  clear hF hb hW hw ho
  go_simp
set_option maxRecDepth 10000 in
theorem oQ27_21 : stepQ27 bx pb pn ps Q 21 := by
  intro c w hb hW hF
  have ho : RQ27[21]? = some ({ dst := some 193, op := Op.move (Operand.tmp 192), type := 4, pos := "law.go:238", after := #[{ on := 20, ground := Ground.data }, { on := 19, ground := Ground.chain }], guard := none } : Oper) := by kernel_rfl
  have e192 : c.eval (.tmp 192) = .bool true := fact_at (p := eqv (.bool true)) (by kernel_rfl) rfl (hF 20 (by decide))
  have hw := wnQ27 (c := c) ho rfl
  have ec : ∀ v, c.eval (.const v) = v := fun _ => rfl
  have ef : ∀ f, c.eval (.func f) = .func (.func f) #[] #[] := fun _ => rfl
  refine does_value ho hw (v := .bool true) ?_ rfl (Below.refl _ _)
  generalize c.eval = ρ at *
  clear hF hb hW hw ho
  go_simp
set_option maxRecDepth 10000 in
theorem oQ27_22 : stepQ27 bx pb pn ps Q 22 := by
  intro c w hb hW hF
  have ho : RQ27[22]? = some ({ dst := some 194, op := Op.fieldAddr 56 (Operand.tmp 1) 2, type := 0, pos := "law.go:238", after := #[{ on := 21, ground := Ground.guard }], guard := some (21, true) } : Oper) := by kernel_rfl
  have e1 := hb.t1
  have hg : val RQ27 c 21 = .bool true := hF 21 (by decide)
  have hw := weQ27 ho rfl hg
  have ec : ∀ v, c.eval (.const v) = v := fun _ => rfl
  have ef : ∀ f, c.eval (.func f) = .func (.func f) #[] #[] := fun _ => rfl
  refine does_value ho hw (v := .pointer (some ⟨bx, 2, none⟩)) ?_ rfl (Below.refl _ _)
  generalize c.eval = ρ at *
  clear hF hb hW hw ho hg
  go_simp
set_option maxRecDepth 10000 in
theorem oQ27_23 : stepQ27 bx pb pn ps Q 23 := by
  intro c w hb hW hF
  have ho : RQ27[23]? = some ({ dst := some 195, op := Op.load 9 (Operand.tmp 194), type := 9, pos := "law.go:238", after := #[{ on := 22, ground := Ground.data }, { on := 21, ground := Ground.guard }], guard := some (21, true) } : Oper) := by kernel_rfl
  have e194 : c.eval (.tmp 194) = .pointer (some ⟨bx, 2, none⟩) := fact_at (p := eqv (.pointer (some ⟨bx, 2, none⟩))) (by kernel_rfl) rfl (hF 22 (by decide))
  have hg : val RQ27 c 21 = .bool true := hF 21 (by decide)
  have hw := weQ27 ho rfl hg
  have ec : ∀ v, c.eval (.const v) = v := fun _ => rfl
  have ef : ∀ f, c.eval (.func f) = .func (.func f) #[] #[] := fun _ => rfl
  have c2 := hW.c2
  refine does_value ho hw (v := .string ps) ?_ rfl (Below.refl _ _)
  generalize c.eval = ρ at *
  clear hF hb hW hw ho hg
  go_simp
set_option maxRecDepth 10000 in
theorem oQ27_24 : stepQ27 bx pb pn ps Q 24 := by
  intro c w hb hW hF
  have ho : RQ27[24]? = some ({ dst := some 196, op := Op.call { callee := Callee.value (Operand.func 56), args := #[Operand.tmp 195], argTypes := #[9] }, type := 26, pos := "law.go:238", after := #[{ on := 23, ground := Ground.data }, { on := 21, ground := Ground.chain }, { on := 21, ground := Ground.guard }], guard := some (21, true) } : Oper) := by kernel_rfl
  have e195 : c.eval (.tmp 195) = .string ps := fact_at (p := eqv (.string ps)) (by kernel_rfl) rfl (hF 23 (by decide))
  have hg : val RQ27 c 21 = .bool true := hF 21 (by decide)
  have hw := weQ27 ho rfl hg
  have ec : ∀ v, c.eval (.const v) = v := fun _ => rfl
  have ef : ∀ f, c.eval (.func f) = .func (.func f) #[] #[] := fun _ => rfl
  refine does_call ho hw (f := 56) (args := #[.string ps]) ?_ (Calls.mono (hW.k56) fun e w' ⟨h1, h2⟩ => ⟨_, h1, rfl, h2⟩)
  generalize c.eval = ρ at *
  clear hF hb hW hw ho hg
  go_simp
set_option maxRecDepth 10000 in
theorem oQ27_25 : stepQ27 bx pb pn ps Q 25 := by
  intro c w hb hW hF
  have ho : RQ27[25]? = some ({ dst := some 197, op := Op.fieldAddr 56 (Operand.tmp 1) 2, type := 0, pos := "law.go:238", after := #[{ on := 21, ground := Ground.guard }], guard := some (21, true) } : Oper) := by kernel_rfl
  have e1 := hb.t1
  have hg : val RQ27 c 21 = .bool true := hF 21 (by decide)
  have hw := weQ27 ho rfl hg
  have ec : ∀ v, c.eval (.const v) = v := fun _ => rfl
  have ef : ∀ f, c.eval (.func f) = .func (.func f) #[] #[] := fun _ => rfl
  refine does_value ho hw (v := .pointer (some ⟨bx, 2, none⟩)) ?_ rfl (Below.refl _ _)
  generalize c.eval = ρ at *
  clear hF hb hW hw ho hg
  go_simp
set_option maxRecDepth 10000 in
theorem oQ27_26 : stepQ27 bx pb pn ps Q 26 := by
  intro c w hb hW hF
  have ho : RQ27[26]? = some ({ dst := some 198, op := Op.load 9 (Operand.tmp 197), type := 9, pos := "law.go:238", after := #[{ on := 25, ground := Ground.data }, { on := 21, ground := Ground.guard }], guard := some (21, true) } : Oper) := by kernel_rfl
  have e197 : c.eval (.tmp 197) = .pointer (some ⟨bx, 2, none⟩) := fact_at (p := eqv (.pointer (some ⟨bx, 2, none⟩))) (by kernel_rfl) rfl (hF 25 (by decide))
  have hg : val RQ27 c 21 = .bool true := hF 21 (by decide)
  have hw := weQ27 ho rfl hg
  have ec : ∀ v, c.eval (.const v) = v := fun _ => rfl
  have ef : ∀ f, c.eval (.func f) = .func (.func f) #[] #[] := fun _ => rfl
  have c2 := hW.c2
  refine does_value ho hw (v := .string ps) ?_ rfl (Below.refl _ _)
  generalize c.eval = ρ at *
  clear hF hb hW hw ho hg
  go_simp
set_option maxRecDepth 10000 in
theorem oQ27_27 : stepQ27 bx pb pn ps Q 27 := by
  intro c w hb hW hF
  have ho : RQ27[27]? = some ({ dst := some 199, op := Op.build 26 #[(0, Operand.const (Value.int IntKind.i64 3)), (3, Operand.tmp 198)], type := 26, pos := "law.go:238", after := #[{ on := 26, ground := Ground.data }, { on := 21, ground := Ground.guard }], guard := some (21, true) } : Oper) := by kernel_rfl
  have e198 : c.eval (.tmp 198) = .string ps := fact_at (p := eqv (.string ps)) (by kernel_rfl) rfl (hF 26 (by decide))
  have hg : val RQ27 c 21 = .bool true := hF 21 (by decide)
  have hw := weQ27 ho rfl hg
  have ec : ∀ v, c.eval (.const v) = v := fun _ => rfl
  have ef : ∀ f, c.eval (.func f) = .func (.func f) #[] #[] := fun _ => rfl
  refine does_value ho hw (v := .agg #[.int .i64 3, .bool false, .int .i64 0, .string ps, .slice none 0 0, .slice none 0 0]) ?_ rfl (Below.refl _ _)
  generalize c.eval = ρ at *
  clear hF hb hW hw ho hg
  go_simp
set_option maxRecDepth 10000 in
theorem oQ27_28 : stepQ27 bx pb pn ps Q 28 := by
  intro c w hb hW hF
  have ho : RQ27[28]? = some ({ dst := some 200, op := Op.call { callee := Callee.value (Operand.func 27), args := #[Operand.tmp 196, Operand.tmp 199], argTypes := #[26, 26] }, type := 4, pos := "law.go:238", after := #[{ on := 24, ground := Ground.data }, { on := 27, ground := Ground.data }, { on := 24, ground := Ground.chain }, { on := 21, ground := Ground.guard }], guard := some (21, true) } : Oper) := by kernel_rfl
  have e196 : c.eval (.tmp 196) = .agg #[.int .i64 3, .bool false, .int .i64 0, .string ps, .slice none 0 0, .slice none 0 0] := fact_at (p := eqv (.agg #[.int .i64 3, .bool false, .int .i64 0, .string ps, .slice none 0 0, .slice none 0 0])) (by kernel_rfl) rfl (hF 24 (by decide))
  have e199 : c.eval (.tmp 199) = .agg #[.int .i64 3, .bool false, .int .i64 0, .string ps, .slice none 0 0, .slice none 0 0] := fact_at (p := eqv (.agg #[.int .i64 3, .bool false, .int .i64 0, .string ps, .slice none 0 0, .slice none 0 0])) (by kernel_rfl) rfl (hF 27 (by decide))
  have hg : val RQ27 c 21 = .bool true := hF 21 (by decide)
  have hw := weQ27 ho rfl hg
  have ec : ∀ v, c.eval (.const v) = v := fun _ => rfl
  have ef : ∀ f, c.eval (.func f) = .func (.func f) #[] #[] := fun _ => rfl
  refine does_call ho hw (f := 27) (args := #[.agg #[.int .i64 3, .bool false, .int .i64 0, .string ps, .slice none 0 0, .slice none 0 0], .agg #[.int .i64 3, .bool false, .int .i64 0, .string ps, .slice none 0 0, .slice none 0 0]]) ?_ (Calls.mono (hW.a3) fun e w' ⟨h1, h2⟩ => ⟨_, h1, rfl, h2⟩)
  generalize c.eval = ρ at *
  clear hF hb hW hw ho hg
  go_simp
set_option maxRecDepth 10000 in
theorem oQ27_29 : stepQ27 bx pb pn ps Q 29 := by
  intro c w hb hW hF
  have ho : RQ27[29]? = some ({ dst := some 201, op := Op.pick (Operand.tmp 193) (Operand.tmp 200) (Operand.const (Value.bool false)), type := 4, pos := "law.go:238", after := #[{ on := 21, ground := Ground.data }, { on := 28, ground := Ground.data }], guard := none } : Oper) := by kernel_rfl
  have e193 : c.eval (.tmp 193) = .bool true := fact_at (p := eqv (.bool true)) (by kernel_rfl) rfl (hF 21 (by decide))
  have e200 : c.eval (.tmp 200) = .bool true := fact_at (p := eqv (.bool true)) (by kernel_rfl) rfl (hF 28 (by decide))
  have hw := wnQ27 (c := c) ho rfl
  have ec : ∀ v, c.eval (.const v) = v := fun _ => rfl
  have ef : ∀ f, c.eval (.func f) = .func (.func f) #[] #[] := fun _ => rfl
  refine does_value ho hw (v := .bool true) ?_ rfl (Below.refl _ _)
  generalize c.eval = ρ at *
  clear hF hb hW hw ho
  go_simp
set_option maxRecDepth 10000 in
theorem oQ27_30 : stepQ27 bx pb pn ps Q 30 := by
  intro c w hb hW hF
  have ho : RQ27[30]? = some ({ dst := some 202, op := Op.move (Operand.tmp 201), type := 4, pos := "law.go:238", after := #[{ on := 29, ground := Ground.data }, { on := 28, ground := Ground.chain }], guard := none } : Oper) := by kernel_rfl
  have e201 : c.eval (.tmp 201) = .bool true := fact_at (p := eqv (.bool true)) (by kernel_rfl) rfl (hF 29 (by decide))
  have hw := wnQ27 (c := c) ho rfl
  have ec : ∀ v, c.eval (.const v) = v := fun _ => rfl
  have ef : ∀ f, c.eval (.func f) = .func (.func f) #[] #[] := fun _ => rfl
  refine does_value ho hw (v := .bool true) ?_ rfl (Below.refl _ _)
  generalize c.eval = ρ at *
  clear hF hb hW hw ho
  go_simp
set_option maxRecDepth 10000 in
theorem oQ27_31 : stepQ27 bx pb pn ps Q 31 := by
  intro c w hb hW hF
  have ho : RQ27[31]? = some ({ dst := some 203, op := Op.call { callee := Callee.value (Operand.func 16), args := #[], argTypes := #[] }, type := 4, pos := "law.go:238", after := #[{ on := 30, ground := Ground.chain }, { on := 30, ground := Ground.guard }], guard := some (30, true) } : Oper) := by kernel_rfl
  have hg : val RQ27 c 30 = .bool true := hF 30 (by decide)
  have hw := weQ27 ho rfl hg
  have ec : ∀ v, c.eval (.const v) = v := fun _ => rfl
  have ef : ∀ f, c.eval (.func f) = .func (.func f) #[] #[] := fun _ => rfl
  refine does_call ho hw (f := 16) (args := #[]) ?_ (Calls.mono (hW.k16) fun e w' ⟨h1, h2⟩ => ⟨_, h1, rfl, h2⟩)
  generalize c.eval = ρ at *
  clear hF hb hW hw ho hg
  go_simp
set_option maxRecDepth 10000 in
theorem oQ27_32 : stepQ27 bx pb pn ps Q 32 := by
  intro c w hb hW hF
  have ho : RQ27[32]? = some ({ dst := some 204, op := Op.pick (Operand.tmp 202) (Operand.tmp 203) (Operand.const (Value.bool false)), type := 4, pos := "law.go:238", after := #[{ on := 30, ground := Ground.data }, { on := 31, ground := Ground.data }], guard := none } : Oper) := by kernel_rfl
  have e202 : c.eval (.tmp 202) = .bool true := fact_at (p := eqv (.bool true)) (by kernel_rfl) rfl (hF 30 (by decide))
  have e203 : c.eval (.tmp 203) = .bool true := fact_at (p := eqv (.bool true)) (by kernel_rfl) rfl (hF 31 (by decide))
  have hw := wnQ27 (c := c) ho rfl
  have ec : ∀ v, c.eval (.const v) = v := fun _ => rfl
  have ef : ∀ f, c.eval (.func f) = .func (.func f) #[] #[] := fun _ => rfl
  refine does_value ho hw (v := .bool true) ?_ rfl (Below.refl _ _)
  generalize c.eval = ρ at *
  clear hF hb hW hw ho
  go_simp
set_option maxRecDepth 10000 in
theorem oQ27_33 : stepQ27 bx pb pn ps Q 33 := by
  intro c w hb hW hF
  have ho : RQ27[33]? = some ({ dst := some 2, op := Op.assign (Operand.tmp 204), type := 4, pos := "law.go:238", after := #[{ on := 32, ground := Ground.data }, { on := 31, ground := Ground.chain }, { on := 0, ground := Ground.phase }, { on := 1, ground := Ground.phase }, { on := 2, ground := Ground.phase }, { on := 3, ground := Ground.phase }, { on := 4, ground := Ground.phase }, { on := 5, ground := Ground.phase }, { on := 6, ground := Ground.phase }, { on := 7, ground := Ground.phase }, { on := 8, ground := Ground.phase }, { on := 9, ground := Ground.phase }, { on := 10, ground := Ground.phase }, { on := 11, ground := Ground.phase }, { on := 12, ground := Ground.phase }, { on := 13, ground := Ground.phase }, { on := 14, ground := Ground.phase }, { on := 15, ground := Ground.phase }, { on := 16, ground := Ground.phase }, { on := 17, ground := Ground.phase }, { on := 18, ground := Ground.phase }, { on := 19, ground := Ground.phase }, { on := 20, ground := Ground.phase }, { on := 21, ground := Ground.phase }, { on := 22, ground := Ground.phase }, { on := 23, ground := Ground.phase }, { on := 24, ground := Ground.phase }, { on := 25, ground := Ground.phase }, { on := 26, ground := Ground.phase }, { on := 27, ground := Ground.phase }, { on := 28, ground := Ground.phase }, { on := 29, ground := Ground.phase }, { on := 30, ground := Ground.phase }, { on := 31, ground := Ground.phase }, { on := 32, ground := Ground.phase }], guard := none } : Oper) := by kernel_rfl
  have e204 : c.eval (.tmp 204) = .bool true := fact_at (p := eqv (.bool true)) (by kernel_rfl) rfl (hF 32 (by decide))
  have hw := wnQ27 (c := c) ho rfl
  have ec : ∀ v, c.eval (.const v) = v := fun _ => rfl
  have ef : ∀ f, c.eval (.func f) = .func (.func f) #[] #[] := fun _ => rfl
  refine does_value ho hw (v := .bool true) ?_ rfl (Below.refl _ _)
  generalize c.eval = ρ at *
  clear hF hb hW hw ho
  go_simp
end
theorem stableQ27 (bx : Nat) (pb : Bool) (pn : Int) (ps : ByteArray) : ∀ pr ∈ factsQ27 bx pb pn ps, Stable pr := by
  unfold factsQ27
  refine List.forall_mem_cons.2 ⟨eqv_stable _, ?_⟩
  refine List.forall_mem_cons.2 ⟨eqv_stable _, ?_⟩
  refine List.forall_mem_cons.2 ⟨eqv_stable _, ?_⟩
  refine List.forall_mem_cons.2 ⟨eqv_stable _, ?_⟩
  refine List.forall_mem_cons.2 ⟨eqv_stable _, ?_⟩
  refine List.forall_mem_cons.2 ⟨eqv_stable _, ?_⟩
  refine List.forall_mem_cons.2 ⟨eqv_stable _, ?_⟩
  refine List.forall_mem_cons.2 ⟨eqv_stable _, ?_⟩
  refine List.forall_mem_cons.2 ⟨eqv_stable _, ?_⟩
  refine List.forall_mem_cons.2 ⟨eqv_stable _, ?_⟩
  refine List.forall_mem_cons.2 ⟨eqv_stable _, ?_⟩
  refine List.forall_mem_cons.2 ⟨eqv_stable _, ?_⟩
  refine List.forall_mem_cons.2 ⟨eqv_stable _, ?_⟩
  refine List.forall_mem_cons.2 ⟨eqv_stable _, ?_⟩
  refine List.forall_mem_cons.2 ⟨eqv_stable _, ?_⟩
  refine List.forall_mem_cons.2 ⟨eqv_stable _, ?_⟩
  refine List.forall_mem_cons.2 ⟨eqv_stable _, ?_⟩
  refine List.forall_mem_cons.2 ⟨eqv_stable _, ?_⟩
  refine List.forall_mem_cons.2 ⟨eqv_stable _, ?_⟩
  refine List.forall_mem_cons.2 ⟨eqv_stable _, ?_⟩
  refine List.forall_mem_cons.2 ⟨eqv_stable _, ?_⟩
  refine List.forall_mem_cons.2 ⟨eqv_stable _, ?_⟩
  refine List.forall_mem_cons.2 ⟨eqv_stable _, ?_⟩
  refine List.forall_mem_cons.2 ⟨eqv_stable _, ?_⟩
  refine List.forall_mem_cons.2 ⟨eqv_stable _, ?_⟩
  refine List.forall_mem_cons.2 ⟨eqv_stable _, ?_⟩
  refine List.forall_mem_cons.2 ⟨eqv_stable _, ?_⟩
  refine List.forall_mem_cons.2 ⟨eqv_stable _, ?_⟩
  refine List.forall_mem_cons.2 ⟨eqv_stable _, ?_⟩
  refine List.forall_mem_cons.2 ⟨eqv_stable _, ?_⟩
  refine List.forall_mem_cons.2 ⟨eqv_stable _, ?_⟩
  refine List.forall_mem_cons.2 ⟨eqv_stable _, ?_⟩
  refine List.forall_mem_cons.2 ⟨eqv_stable _, ?_⟩
  refine List.forall_mem_cons.2 ⟨eqv_stable _, ?_⟩
  exact List.forall_mem_nil _
set_option maxRecDepth 100000 in
theorem allQ27 (bx : Nat) (pb : Bool) (pn : Int) (ps : ByteArray) (Q : Exit → Act → World → Prop) : ∀ i, i < 34 → (fun i => ∀ c w, BaseQ27 bx pb pn ps c → WorldQ27 bx pb pn ps w → (∀ q0 ∈ ancQ27 i, factsAt (factsQ27 bx pb pn ps) q0 (val RQ27 c q0) w) → Does Tryz.prog RQ27 Q (factsAt (factsQ27 bx pb pn ps)) i c w) i := by
  refine below_succ ?_ (fun c w => oQ27_33 bx pb pn ps Q c w)
  refine below_succ ?_ (fun c w => oQ27_32 bx pb pn ps Q c w)
  refine below_succ ?_ (fun c w => oQ27_31 bx pb pn ps Q c w)
  refine below_succ ?_ (fun c w => oQ27_30 bx pb pn ps Q c w)
  refine below_succ ?_ (fun c w => oQ27_29 bx pb pn ps Q c w)
  refine below_succ ?_ (fun c w => oQ27_28 bx pb pn ps Q c w)
  refine below_succ ?_ (fun c w => oQ27_27 bx pb pn ps Q c w)
  refine below_succ ?_ (fun c w => oQ27_26 bx pb pn ps Q c w)
  refine below_succ ?_ (fun c w => oQ27_25 bx pb pn ps Q c w)
  refine below_succ ?_ (fun c w => oQ27_24 bx pb pn ps Q c w)
  refine below_succ ?_ (fun c w => oQ27_23 bx pb pn ps Q c w)
  refine below_succ ?_ (fun c w => oQ27_22 bx pb pn ps Q c w)
  refine below_succ ?_ (fun c w => oQ27_21 bx pb pn ps Q c w)
  refine below_succ ?_ (fun c w => oQ27_20 bx pb pn ps Q c w)
  refine below_succ ?_ (fun c w => oQ27_19 bx pb pn ps Q c w)
  refine below_succ ?_ (fun c w => oQ27_18 bx pb pn ps Q c w)
  refine below_succ ?_ (fun c w => oQ27_17 bx pb pn ps Q c w)
  refine below_succ ?_ (fun c w => oQ27_16 bx pb pn ps Q c w)
  refine below_succ ?_ (fun c w => oQ27_15 bx pb pn ps Q c w)
  refine below_succ ?_ (fun c w => oQ27_14 bx pb pn ps Q c w)
  refine below_succ ?_ (fun c w => oQ27_13 bx pb pn ps Q c w)
  refine below_succ ?_ (fun c w => oQ27_12 bx pb pn ps Q c w)
  refine below_succ ?_ (fun c w => oQ27_11 bx pb pn ps Q c w)
  refine below_succ ?_ (fun c w => oQ27_10 bx pb pn ps Q c w)
  refine below_succ ?_ (fun c w => oQ27_9 bx pb pn ps Q c w)
  refine below_succ ?_ (fun c w => oQ27_8 bx pb pn ps Q c w)
  refine below_succ ?_ (fun c w => oQ27_7 bx pb pn ps Q c w)
  refine below_succ ?_ (fun c w => oQ27_6 bx pb pn ps Q c w)
  refine below_succ ?_ (fun c w => oQ27_5 bx pb pn ps Q c w)
  refine below_succ ?_ (fun c w => oQ27_4 bx pb pn ps Q c w)
  refine below_succ ?_ (fun c w => oQ27_3 bx pb pn ps Q c w)
  refine below_succ ?_ (fun c w => oQ27_2 bx pb pn ps Q c w)
  refine below_succ ?_ (fun c w => oQ27_1 bx pb pn ps Q c w)
  refine below_succ ?_ (fun c w => oQ27_0 bx pb pn ps Q c w)
  exact below_zero
theorem regionQ27 (bx : Nat) (pb : Bool) (pn : Int) (ps : ByteArray) (Q : Exit → Act → World → Prop) (base : Act) (w0 : World) (hsz : base.tmps.size = 205) (hb : BaseQ27 bx pb pn ps base)
    (hW : ∀ w, Below w0.heap.size w0 w → WorldQ27 bx pb pn ps w) (hQ : ∀ c w, Same RQ27 base c → Below w0.heap.size w0 w → c.eval (.tmp 2) = .bool true → Q .normal c w) : (Code.region 27 RQ27 true).wp Tryz.prog Q base w0 := by
  refine facts_rule (A := ancQ27) (F := factsAt (factsQ27 bx pb pn ps)) (by kernel_rfl) (by rw [hsz]; kernel_rfl) (fun i v w w' => factsAt_stable (stableQ27 bx pb pn ps) i v w w') ?_ ?_
  · intro i hi c w hS hB hF
    exact allQ27 bx pb pn ps Q i (by rwa [show RQ27.size = 34 by kernel_rfl] at hi) c w ⟨(same_eval hS (by kernel_rfl)).trans hb.t1⟩ (hW w hB) hF
  · intro c w hS hB hF
    exact hQ c w hS hB (fact_at (p := eqv (.bool true)) (by kernel_rfl) rfl (hF 33 (by rw [show RQ27.size = 34 by kernel_rfl]; omega)))
end Go.Proofs.YtbpmhgcjefpigaaGreatDoor
