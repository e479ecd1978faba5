/- A statement that only reads and calls: operation by operation, in whatever order. -/
import Derived.Test.YtbpmhgcjefpigaaGreatDoorJoin9
import Derived.Test.YtbpmhgcjefpigaaGreatDoorJoin16
namespace Go.Proofs.YtbpmhgcjefpigaaGreatDoor
open Go.RowKit Go.WideShapes Go.Shelf
set_option linter.unusedVariables false
set_option linter.unusedSimpArgs false
noncomputable def RP1 : Array Oper := regionAt Tryz.f29 1
def ancP1 (i : Nat) : List Nat := ([[], [], [0, 1], [2], [3], [4], [4, 5], [4], [4, 7], [4, 8], [4, 9], [4, 6, 10], [4], [4, 12], [4, 13], [4, 11, 14], [4, 15], [4, 16], [4, 17], [18], [19], [19, 20], [19], [19, 22], [19, 23], [19, 24], [19, 21, 25], [19], [19, 27], [19, 28], [19, 26, 29], [19, 30], [19, 31], [19, 32], [19, 33]] : List (List Nat)).getD i []
def factsP1 (p1 p2 bk kc bl lc kn tn kc2 lc2 : Nat) (ka2 la2 : Option Addr) (a0 a1 a2 a3 b0 b1 b2 b3 : Value) : List (Value → World → Prop) :=
  [eqv (.agg #[a0, a1, a2, a3, .slice (some ⟨bk, 0, none⟩) kn kc, .slice (some ⟨bl, 0, none⟩) tn lc]), eqv (.agg #[b0, b1, b2, b3, .slice ka2 kn kc2, .slice la2 tn lc2]), eqv (.bool true), eqv (.bool false), eqv (.bool false), eqv (.pointer (some ⟨p1, 4, none⟩)), eqv (.slice (some ⟨bk, 0, none⟩) kn kc), eqv (.pointer (some ⟨p2, 4, none⟩)), eqv (.slice ka2 kn kc2), eqv (.int .i64 (kn : Int)), eqv (.int .i64 ((kn : Int) + 1)), eqv (.slice (some ⟨bk, 0, none⟩) (kn + 1) kc), eqv (.pointer (some ⟨p2, 4, none⟩)), eqv (.slice ka2 kn kc2), eqv (.int .i64 (kn : Int)), eqv (.pointer (some ⟨bk, kn, none⟩)), eqv (.string spareB), eqv (.bool false), eqv (.bool false), eqv (.bool false), eqv (.pointer (some ⟨p1, 5, none⟩)), eqv (.slice (some ⟨bl, 0, none⟩) tn lc), eqv (.pointer (some ⟨p2, 5, none⟩)), eqv (.slice la2 tn lc2), eqv (.int .i64 (tn : Int)), eqv (.int .i64 ((tn : Int) + 1)), eqv (.slice (some ⟨bl, 0, none⟩) (tn + 1) lc), eqv (.pointer (some ⟨p2, 5, none⟩)), eqv (.slice la2 tn lc2), eqv (.int .i64 (tn : Int)), eqv (.pointer (some ⟨bl, tn * 6, none⟩)), eqv (.pointer (some ⟨bl, tn * 6, none⟩)), eqv (.int .i64 77), eqv (.bool false), eqv (.bool false)]
structure BaseP1 (p1 p2 bk kc bl lc kn tn kc2 lc2 : Nat) (ka2 la2 : Option Addr) (a0 a1 a2 a3 b0 b1 b2 b3 : Value) (c : Act) : Prop where
  t2 : c.eval (.tmp 2) = .pointer (some ⟨p1, 0, none⟩)
  t3 : c.eval (.tmp 3) = .pointer (some ⟨p2, 0, none⟩)
structure WorldP1 (p1 p2 bk kc bl lc kn tn kc2 lc2 : Nat) (ka2 la2 : Option Addr) (a0 a1 a2 a3 b0 b1 b2 b3 : Value) (w : World) : Prop where
  ca0 : w.cell? ⟨p1, 0, none⟩ = some a0
  ca1 : w.cell? ⟨p1, 1, none⟩ = some a1
  ca2 : w.cell? ⟨p1, 2, none⟩ = some a2
  ca3 : w.cell? ⟨p1, 3, none⟩ = some a3
  ca4 : w.cell? ⟨p1, 4, none⟩ = some (.slice (some ⟨bk, 0, none⟩) kn kc)
  ca5 : w.cell? ⟨p1, 5, none⟩ = some (.slice (some ⟨bl, 0, none⟩) tn lc)
  cb0 : w.cell? ⟨p2, 0, none⟩ = some b0
  cb1 : w.cell? ⟨p2, 1, none⟩ = some b1
  cb2 : w.cell? ⟨p2, 2, none⟩ = some b2
  cb3 : w.cell? ⟨p2, 3, none⟩ = some b3
  cb4 : w.cell? ⟨p2, 4, none⟩ = some (.slice ka2 kn kc2)
  cb5 : w.cell? ⟨p2, 5, none⟩ = some (.slice la2 tn lc2)
  sp : w.cell? ⟨bk, kn, none⟩ = some (.string spareB)
  ot : w.cell? ⟨bl, tn * 6, none⟩ = some (.int .i64 77)
  lk : kn + 1 ≤ kc
  lk2 : kc ≤ 9223372036854775807
  ll : tn + 1 ≤ lc
  ll2 : lc ≤ 9223372036854775807
  call : Calls Tryz.prog 27 #[.agg #[a0, a1, a2, a3, .slice (some ⟨bk, 0, none⟩) kn kc, .slice (some ⟨bl, 0, none⟩) tn lc], .agg #[b0, b1, b2, b3, .slice ka2 kn kc2, .slice la2 tn lc2]] w fun e w' => e = .returned (.bool true) ∧ Below w.heap.size w w'
def stepP1 (p1 p2 bk kc bl lc kn tn kc2 lc2 : Nat) (ka2 la2 : Option Addr) (a0 a1 a2 a3 b0 b1 b2 b3 : Value) (Q : Exit → Act → World → Prop) (i : Nat) : Prop := ∀ (c : Act) (w : World), BaseP1 p1 p2 bk kc bl lc kn tn kc2 lc2 ka2 la2 a0 a1 a2 a3 b0 b1 b2 b3 c → WorldP1 p1 p2 bk kc bl lc kn tn kc2 lc2 ka2 la2 a0 a1 a2 a3 b0 b1 b2 b3 w → (∀ q0 ∈ ancP1 i, factsAt (factsP1 p1 p2 bk kc bl lc kn tn kc2 lc2 ka2 la2 a0 a1 a2 a3 b0 b1 b2 b3) q0 (val RP1 c q0) w) → Does Tryz.prog RP1 Q (factsAt (factsP1 p1 p2 bk kc bl lc kn tn kc2 lc2 ka2 la2 a0 a1 a2 a3 b0 b1 b2 b3)) i c w
theorem wnP1 {i : Nat} {o : Oper} {c : Act} (ho : RP1[i]? = some o) (h : o.guard = none) : Region.wanted o (yielded RP1 c.tmps) = true := want_none h
theorem weP1 {i g : Nat} {b : Bool} {o : Oper} {c : Act} (ho : RP1[i]? = some o) (h : o.guard = some (g, b)) (hg : val RP1 c g = .bool b) : Region.wanted o (yielded RP1 c.tmps) = true := want_eq h hg
section
variable (p1 p2 bk kc bl lc kn tn kc2 lc2 : Nat) (ka2 la2 : Option Addr) (a0 a1 a2 a3 b0 b1 b2 b3 : Value) (Q : Exit → Act → World → Prop)
set_option maxRecDepth 10000 in
theorem oP1_0 : stepP1 p1 p2 bk kc bl lc kn tn kc2 lc2 ka2 la2 a0 a1 a2 a3 b0 b1 b2 b3 Q 0 := by
  intro c w hb hW hF
  have ho : RP1[0]? = some ({ dst := some 6, op := Op.load 26 (Operand.tmp 2), type := 26, pos := "law.go:55", after := #[], guard := none } : Oper) := by kernel_rfl
  have e2 := hb.t2
  have hw := wnP1 (c := c) ho rfl
  have ec : ∀ v, c.eval (.const v) = v := fun _ => rfl
  have ef : ∀ f, c.eval (.func f) = .func (.func f) #[] #[] := fun _ => rfl
  have ca0 := hW.ca0
  have ca1 := hW.ca1
  have ca2 := hW.ca2
  have ca3 := hW.ca3
  have ca4 := hW.ca4
  have ca5 := hW.ca5
  refine does_value ho hw (v := .agg #[a0, a1, a2, a3, .slice (some ⟨bk, 0, none⟩) kn kc, .slice (some ⟨bl, 0, none⟩) tn lc]) ?_ rfl (Below.refl _ _)
  generalize c.eval = ρ at *
  clear hF hb hW hw ho
  go_simp
set_option maxRecDepth 10000 in
theorem oP1_1 : stepP1 p1 p2 bk kc bl lc kn tn kc2 lc2 ka2 la2 a0 a1 a2 a3 b0 b1 b2 b3 Q 1 := by
  intro c w hb hW hF
  have ho : RP1[1]? = some ({ dst := some 7, op := Op.load 26 (Operand.tmp 3), type := 26, pos := "law.go:55", after := #[], guard := none } : Oper) := by kernel_rfl
  have e3 := hb.t3
  have hw := wnP1 (c := c) ho rfl
  have ec : ∀ v, c.eval (.const v) = v := fun _ => rfl
  have ef : ∀ f, c.eval (.func f) = .func (.func f) #[] #[] := fun _ => rfl
  have cb0 := hW.cb0
  have cb1 := hW.cb1
  have cb2 := hW.cb2
  have cb3 := hW.cb3
  have cb4 := hW.cb4
  have cb5 := hW.cb5
  refine does_value ho hw (v := .agg #[b0, b1, b2, b3, .slice ka2 kn kc2, .slice la2 tn lc2]) ?_ rfl (Below.refl _ _)
  generalize c.eval = ρ at *
  clear hF hb hW hw ho
  go_simp
set_option maxRecDepth 10000 in
theorem oP1_2 : stepP1 p1 p2 bk kc bl lc kn tn kc2 lc2 ka2 la2 a0 a1 a2 a3 b0 b1 b2 b3 Q 2 := by
  intro c w hb hW hF
  have ho : RP1[2]? = some ({ dst := some 8, op := Op.call { callee := Callee.value (Operand.func 27), args := #[Operand.tmp 6, Operand.tmp 7], argTypes := #[26, 26] }, type := 4, pos := "law.go:55", after := #[{ on := 0, ground := Ground.data }, { on := 1, ground := Ground.data }], guard := none } : Oper) := by kernel_rfl
  have e6 : c.eval (.tmp 6) = .agg #[a0, a1, a2, a3, .slice (some ⟨bk, 0, none⟩) kn kc, .slice (some ⟨bl, 0, none⟩) tn lc] := fact_at (p := eqv (.agg #[a0, a1, a2, a3, .slice (some ⟨bk, 0, none⟩) kn kc, .slice (some ⟨bl, 0, none⟩) tn lc])) (by kernel_rfl) rfl (hF 0 (by decide))
  have e7 : c.eval (.tmp 7) = .agg #[b0, b1, b2, b3, .slice ka2 kn kc2, .slice la2 tn lc2] := fact_at (p := eqv (.agg #[b0, b1, b2, b3, .slice ka2 kn kc2, .slice la2 tn lc2])) (by kernel_rfl) rfl (hF 1 (by decide))
  have hw := wnP1 (c := c) ho rfl
  have ec : ∀ v, c.eval (.const v) = v := fun _ => rfl
  have ef : ∀ f, c.eval (.func f) = .func (.func f) #[] #[] := fun _ => rfl
  refine does_call ho hw (f := 27) (args := #[.agg #[a0, a1, a2, a3, .slice (some ⟨bk, 0, none⟩) kn kc, .slice (some ⟨bl, 0, none⟩) tn lc], .agg #[b0, b1, b2, b3, .slice ka2 kn kc2, .slice la2 tn lc2]]) ?_ (Calls.mono (hW.call) fun e w' ⟨h1, h2⟩ => ⟨_, h1, rfl, h2⟩)
  generalize c.eval = ρ at *
  clear hF hb hW hw ho
  go_simp
set_option maxRecDepth 10000 in
theorem oP1_3 : stepP1 p1 p2 bk kc bl lc kn tn kc2 lc2 ka2 la2 a0 a1 a2 a3 b0 b1 b2 b3 Q 3 := by
  intro c w hb hW hF
  have ho : RP1[3]? = some ({ dst := some 9, op := Op.unOp UnOp.not 4 (Operand.tmp 8), type := 4, pos := "law.go:55", after := #[{ on := 2, ground := Ground.data }], guard := none } : Oper) := by kernel_rfl
  have e8 : c.eval (.tmp 8) = .bool true := fact_at (p := eqv (.bool true)) (by kernel_rfl) rfl (hF 2 (by decide))
  have hw := wnP1 (c := c) ho rfl
  have ec : ∀ v, c.eval (.const v) = v := fun _ => rfl
  have ef : ∀ f, c.eval (.func f) = .func (.func f) #[] #[] := fun _ => rfl
  refine does_value ho hw (v := .bool false) ?_ rfl (Below.refl _ _)
  generalize c.eval = ρ at *
  clear hF hb hW hw ho
  go_simp
set_option maxRecDepth 10000 in
theorem oP1_4 : stepP1 p1 p2 bk kc bl lc kn tn kc2 lc2 ka2 la2 a0 a1 a2 a3 b0 b1 b2 b3 Q 4 := by
  intro c w hb hW hF
  have ho : RP1[4]? = some ({ dst := some 10, op := Op.move (Operand.tmp 9), type := 4, pos := "law.go:55", after := #[{ on := 3, ground := Ground.data }, { on := 2, ground := Ground.chain }], guard := none } : Oper) := by kernel_rfl
  have e9 : c.eval (.tmp 9) = .bool false := fact_at (p := eqv (.bool false)) (by kernel_rfl) rfl (hF 3 (by decide))
  have hw := wnP1 (c := c) ho rfl
  have ec : ∀ v, c.eval (.const v) = v := fun _ => rfl
  have ef : ∀ f, c.eval (.func f) = .func (.func f) #[] #[] := fun _ => rfl
  refine does_value ho hw (v := .bool false) ?_ rfl (Below.refl _ _)
  generalize c.eval = ρ at *
  clear hF hb hW hw ho
  go_simp
set_option maxRecDepth 10000 in
theorem oP1_5 : stepP1 p1 p2 bk kc bl lc kn tn kc2 lc2 ka2 la2 a0 a1 a2 a3 b0 b1 b2 b3 Q 5 := by
  intro c w hb hW hF
  have ho : RP1[5]? = some ({ dst := some 11, op := Op.fieldAddr 26 (Operand.tmp 2) 4, type := 0, pos := "law.go:55", after := #[{ on := 4, ground := Ground.guard }], guard := some (4, false) } : Oper) := by kernel_rfl
  have e2 := hb.t2
  have hg : val RP1 c 4 = .bool false := hF 4 (by decide)
  have hw := weP1 ho rfl hg
  have ec : ∀ v, c.eval (.const v) = v := fun _ => rfl
  have ef : ∀ f, c.eval (.func f) = .func (.func f) #[] #[] := fun _ => rfl
  refine does_value ho hw (v := .pointer (some ⟨p1, 4, none⟩)) ?_ rfl (Below.refl _ _)
  generalize c.eval = ρ at *
  clear hF hb hW hw ho hg
  go_simp
set_option maxRecDepth 10000 in
theorem oP1_6 : stepP1 p1 p2 bk kc bl lc kn tn kc2 lc2 ka2 la2 a0 a1 a2 a3 b0 b1 b2 b3 Q 6 := by
  intro c w hb hW hF
  have ho : RP1[6]? = some ({ dst := some 12, op := Op.load 23 (Operand.tmp 11), type := 23, pos := "law.go:55", after := #[{ on := 5, ground := Ground.data }, { on := 4, ground := Ground.guard }], guard := some (4, false) } : Oper) := by kernel_rfl
  have e11 : c.eval (.tmp 11) = .pointer (some ⟨p1, 4, none⟩) := fact_at (p := eqv (.pointer (some ⟨p1, 4, none⟩))) (by kernel_rfl) rfl (hF 5 (by decide))
  have hg : val RP1 c 4 = .bool false := hF 4 (by decide)
  have hw := weP1 ho rfl hg
  have ec : ∀ v, c.eval (.const v) = v := fun _ => rfl
  have ef : ∀ f, c.eval (.func f) = .func (.func f) #[] #[] := fun _ => rfl
  have ca4 := hW.ca4
  refine does_value ho hw (v := .slice (some ⟨bk, 0, none⟩) kn kc) ?_ rfl (Below.refl _ _)
  generalize c.eval = ρ at *
  clear hF hb hW hw ho hg
  go_simp
set_option maxRecDepth 10000 in
theorem oP1_7 : stepP1 p1 p2 bk kc bl lc kn tn kc2 lc2 ka2 la2 a0 a1 a2 a3 b0 b1 b2 b3 Q 7 := by
  intro c w hb hW hF
  have ho : RP1[7]? = some ({ dst := some 13, op := Op.fieldAddr 26 (Operand.tmp 3) 4, type := 0, pos := "law.go:55", after := #[{ on := 4, ground := Ground.guard }], guard := some (4, false) } : Oper) := by kernel_rfl
  have e3 := hb.t3
  have hg : val RP1 c 4 = .bool false := hF 4 (by decide)
  have hw := weP1 ho rfl hg
  have ec : ∀ v, c.eval (.const v) = v := fun _ => rfl
  have ef : ∀ f, c.eval (.func f) = .func (.func f) #[] #[] := fun _ => rfl
  refine does_value ho hw (v := .pointer (some ⟨p2, 4, none⟩)) ?_ rfl (Below.refl _ _)
  generalize c.eval = ρ at *
  clear hF hb hW hw ho hg
  go_simp
set_option maxRecDepth 10000 in
theorem oP1_8 : stepP1 p1 p2 bk kc bl lc kn tn kc2 lc2 ka2 la2 a0 a1 a2 a3 b0 b1 b2 b3 Q 8 := by
  intro c w hb hW hF
  have ho : RP1[8]? = some ({ dst := some 14, op := Op.load 23 (Operand.tmp 13), type := 23, pos := "law.go:55", after := #[{ on := 7, ground := Ground.data }, { on := 4, ground := Ground.guard }], guard := some (4, false) } : Oper) := by kernel_rfl
  have e13 : c.eval (.tmp 13) = .pointer (some ⟨p2, 4, none⟩) := fact_at (p := eqv (.pointer (some ⟨p2, 4, none⟩))) (by kernel_rfl) rfl (hF 7 (by decide))
  have hg : val RP1 c 4 = .bool false := hF 4 (by decide)
  have hw := weP1 ho rfl hg
  have ec : ∀ v, c.eval (.const v) = v := fun _ => rfl
  have ef : ∀ f, c.eval (.func f) = .func (.func f) #[] #[] := fun _ => rfl
  have cb4 := hW.cb4
  refine does_value ho hw (v := .slice ka2 kn kc2) ?_ rfl (Below.refl _ _)
  generalize c.eval = ρ at *
  clear hF hb hW hw ho hg
  go_simp
set_option maxRecDepth 10000 in
theorem oP1_9 : stepP1 p1 p2 bk kc bl lc kn tn kc2 lc2 ka2 la2 a0 a1 a2 a3 b0 b1 b2 b3 Q 9 := by
  intro c w hb hW hF
  have ho : RP1[9]? = some ({ dst := some 15, op := Op.call { callee := Callee.builtin Builtin.len, args := #[Operand.tmp 14], argTypes := #[23] }, type := 3, pos := "law.go:55", after := #[{ on := 8, ground := Ground.data }, { on := 4, ground := Ground.guard }], guard := some (4, false) } : Oper) := by kernel_rfl
  have e14 : c.eval (.tmp 14) = .slice ka2 kn kc2 := fact_at (p := eqv (.slice ka2 kn kc2)) (by kernel_rfl) rfl (hF 8 (by decide))
  have hg : val RP1 c 4 = .bool false := hF 4 (by decide)
  have hw := weP1 ho rfl hg
  have ec : ∀ v, c.eval (.const v) = v := fun _ => rfl
  have ef : ∀ f, c.eval (.func f) = .func (.func f) #[] #[] := fun _ => rfl
  refine does_value ho hw (v := .int .i64 (kn : Int)) ?_ rfl (Below.refl _ _)
  generalize c.eval = ρ at *
  clear hF hb hW hw ho hg
  go_simp
set_option maxRecDepth 10000 in
theorem oP1_10 : stepP1 p1 p2 bk kc bl lc kn tn kc2 lc2 ka2 la2 a0 a1 a2 a3 b0 b1 b2 b3 Q 10 := by
  intro c w hb hW hF
  have ho : RP1[10]? = some ({ dst := some 16, op := Op.binOp BinOp.add 3 (Operand.tmp 15) (Operand.const (Value.int IntKind.i64 1)) 3, type := 3, pos := "law.go:55", after := #[{ on := 9, ground := Ground.data }, { on := 4, ground := Ground.guard }], guard := some (4, false) } : Oper) := by kernel_rfl
  have e15 : c.eval (.tmp 15) = .int .i64 (kn : Int) := fact_at (p := eqv (.int .i64 (kn : Int))) (by kernel_rfl) rfl (hF 9 (by decide))
  have hg : val RP1 c 4 = .bool false := hF 4 (by decide)
  have hw := weP1 ho rfl hg
  have ec : ∀ v, c.eval (.const v) = v := fun _ => rfl
  have ef : ∀ f, c.eval (.func f) = .func (.func f) #[] #[] := fun _ => rfl
  have lk := hW.lk
  have lk2 := hW.lk2
  refine does_value ho hw (v := .int .i64 ((kn : Int) + 1)) ?_ rfl (Below.refl _ _)
  generalize c.eval = ρ at *
  clear hF hb hW hw ho hg
  go_simp
  rw [IntKind.wrap_i64]; omega
set_option maxRecDepth 10000 in
theorem oP1_11 : stepP1 p1 p2 bk kc bl lc kn tn kc2 lc2 ka2 la2 a0 a1 a2 a3 b0 b1 b2 b3 Q 11 := by
  intro c w hb hW hF
  have ho : RP1[11]? = some ({ dst := some 17, op := Op.slice 23 (Operand.tmp 12) none (some (Operand.tmp 16)) none, type := 23, pos := "law.go:55", after := #[{ on := 6, ground := Ground.data }, { on := 10, ground := Ground.data }, { on := 4, ground := Ground.guard }], guard := some (4, false) } : Oper) := by kernel_rfl
  have e12 : c.eval (.tmp 12) = .slice (some ⟨bk, 0, none⟩) kn kc := fact_at (p := eqv (.slice (some ⟨bk, 0, none⟩) kn kc)) (by kernel_rfl) rfl (hF 6 (by decide))
  have e16 : c.eval (.tmp 16) = .int .i64 ((kn : Int) + 1) := fact_at (p := eqv (.int .i64 ((kn : Int) + 1))) (by kernel_rfl) rfl (hF 10 (by decide))
  have hg : val RP1 c 4 = .bool false := hF 4 (by decide)
  have hw := weP1 ho rfl hg
  have ec : ∀ v, c.eval (.const v) = v := fun _ => rfl
  have ef : ∀ f, c.eval (.func f) = .func (.func f) #[] #[] := fun _ => rfl
  have lk := hW.lk
  have lk2 := hW.lk2
  refine does_value ho hw (v := .slice (some ⟨bk, 0, none⟩) (kn + 1) kc) ?_ rfl (Below.refl _ _)
  generalize c.eval = ρ at *
  clear hF hb hW hw ho hg
  go_simp
  intro h
  exfalso
  omega
set_option maxRecDepth 10000 in
theorem oP1_12 : stepP1 p1 p2 bk kc bl lc kn tn kc2 lc2 ka2 la2 a0 a1 a2 a3 b0 b1 b2 b3 Q 12 := by
  intro c w hb hW hF
  have ho : RP1[12]? = some ({ dst := some 18, op := Op.fieldAddr 26 (Operand.tmp 3) 4, type := 0, pos := "law.go:55", after := #[{ on := 4, ground := Ground.guard }], guard := some (4, false) } : Oper) := by kernel_rfl
  have e3 := hb.t3
  have hg : val RP1 c 4 = .bool false := hF 4 (by decide)
  have hw := weP1 ho rfl hg
  have ec : ∀ v, c.eval (.const v) = v := fun _ => rfl
  have ef : ∀ f, c.eval (.func f) = .func (.func f) #[] #[] := fun _ => rfl
  refine does_value ho hw (v := .pointer (some ⟨p2, 4, none⟩)) ?_ rfl (Below.refl _ _)
  generalize c.eval = ρ at *
  clear hF hb hW hw ho hg
  go_simp
set_option maxRecDepth 10000 in
theorem oP1_13 : stepP1 p1 p2 bk kc bl lc kn tn kc2 lc2 ka2 la2 a0 a1 a2 a3 b0 b1 b2 b3 Q 13 := by
  intro c w hb hW hF
  have ho : RP1[13]? = some ({ dst := some 19, op := Op.load 23 (Operand.tmp 18), type := 23, pos := "law.go:55", after := #[{ on := 12, ground := Ground.data }, { on := 4, ground := Ground.guard }], guard := some (4, false) } : Oper) := by kernel_rfl
  have e18 : c.eval (.tmp 18) = .pointer (some ⟨p2, 4, none⟩) := fact_at (p := eqv (.pointer (some ⟨p2, 4, none⟩))) (by kernel_rfl) rfl (hF 12 (by decide))
  have hg : val RP1 c 4 = .bool false := hF 4 (by decide)
  have hw := weP1 ho rfl hg
  have ec : ∀ v, c.eval (.const v) = v := fun _ => rfl
  have ef : ∀ f, c.eval (.func f) = .func (.func f) #[] #[] := fun _ => rfl
  have cb4 := hW.cb4
  refine does_value ho hw (v := .slice ka2 kn kc2) ?_ rfl (Below.refl _ _)
  generalize c.eval = ρ at *
  clear hF hb hW hw ho hg
  go_simp
set_option maxRecDepth 10000 in
theorem oP1_14 : stepP1 p1 p2 bk kc bl lc kn tn kc2 lc2 ka2 la2 a0 a1 a2 a3 b0 b1 b2 b3 Q 14 := by
  intro c w hb hW hF
  have ho : RP1[14]? = some ({ dst := some 20, op := Op.call { callee := Callee.builtin Builtin.len, args := #[Operand.tmp 19], argTypes := #[23] }, type := 3, pos := "law.go:55", after := #[{ on := 13, ground := Ground.data }, { on := 4, ground := Ground.guard }], guard := some (4, false) } : Oper) := by kernel_rfl
  have e19 : c.eval (.tmp 19) = .slice ka2 kn kc2 := fact_at (p := eqv (.slice ka2 kn kc2)) (by kernel_rfl) rfl (hF 13 (by decide))
  have hg : val RP1 c 4 = .bool false := hF 4 (by decide)
  have hw := weP1 ho rfl hg
  have ec : ∀ v, c.eval (.const v) = v := fun _ => rfl
  have ef : ∀ f, c.eval (.func f) = .func (.func f) #[] #[] := fun _ => rfl
  refine does_value ho hw (v := .int .i64 (kn : Int)) ?_ rfl (Below.refl _ _)
  generalize c.eval = ρ at *
  clear hF hb hW hw ho hg
  go_simp
set_option maxRecDepth 10000 in
theorem oP1_15 : stepP1 p1 p2 bk kc bl lc kn tn kc2 lc2 ka2 la2 a0 a1 a2 a3 b0 b1 b2 b3 Q 15 := by
  intro c w hb hW hF
  have ho : RP1[15]? = some ({ dst := some 21, op := Op.indexAddr 23 (Operand.tmp 17) (Operand.tmp 20), type := 0, pos := "law.go:55", after := #[{ on := 11, ground := Ground.data }, { on := 14, ground := Ground.data }, { on := 4, ground := Ground.guard }], guard := some (4, false) } : Oper) := by kernel_rfl
  have e17 : c.eval (.tmp 17) = .slice (some ⟨bk, 0, none⟩) (kn + 1) kc := fact_at (p := eqv (.slice (some ⟨bk, 0, none⟩) (kn + 1) kc)) (by kernel_rfl) rfl (hF 11 (by decide))
  have e20 : c.eval (.tmp 20) = .int .i64 (kn : Int) := fact_at (p := eqv (.int .i64 (kn : Int))) (by kernel_rfl) rfl (hF 14 (by decide))
  have hg : val RP1 c 4 = .bool false := hF 4 (by decide)
  have hw := weP1 ho rfl hg
  have ec : ∀ v, c.eval (.const v) = v := fun _ => rfl
  have ef : ∀ f, c.eval (.func f) = .func (.func f) #[] #[] := fun _ => rfl
  have lk := hW.lk
  have lk2 := hW.lk2
  refine does_value ho hw (v := .pointer (some ⟨bk, kn, none⟩)) ?_ rfl (Below.refl _ _)
  generalize c.eval = ρ at *
  clear hF hb hW hw ho hg
  go_simp
  intro h
  exfalso
  omega
set_option maxRecDepth 10000 in
theorem oP1_16 : stepP1 p1 p2 bk kc bl lc kn tn kc2 lc2 ka2 la2 a0 a1 a2 a3 b0 b1 b2 b3 Q 16 := by
  intro c w hb hW hF
  have ho : RP1[16]? = some ({ dst := some 22, op := Op.load 9 (Operand.tmp 21), type := 9, pos := "law.go:55", after := #[{ on := 15, ground := Ground.data }, { on := 4, ground := Ground.guard }], guard := some (4, false) } : Oper) := by kernel_rfl
  have e21 : c.eval (.tmp 21) = .pointer (some ⟨bk, kn, none⟩) := fact_at (p := eqv (.pointer (some ⟨bk, kn, none⟩))) (by kernel_rfl) rfl (hF 15 (by decide))
  have hg : val RP1 c 4 = .bool false := hF 4 (by decide)
  have hw := weP1 ho rfl hg
  have ec : ∀ v, c.eval (.const v) = v := fun _ => rfl
  have ef : ∀ f, c.eval (.func f) = .func (.func f) #[] #[] := fun _ => rfl
  have sp := hW.sp
  refine does_value ho hw (v := .string spareB) ?_ rfl (Below.refl _ _)
  generalize c.eval = ρ at *
  clear hF hb hW hw ho hg
  go_simp
set_option maxRecDepth 10000 in
theorem oP1_17 : stepP1 p1 p2 bk kc bl lc kn tn kc2 lc2 ka2 la2 a0 a1 a2 a3 b0 b1 b2 b3 Q 17 := by
  intro c w hb hW hF
  have ho : RP1[17]? = some ({ dst := some 23, op := Op.binOp BinOp.neq 9 (Operand.tmp 22) (Operand.const (Value.string { data := #[115, 112, 97, 114, 101] })) 9, type := 4, pos := "law.go:55", after := #[{ on := 16, ground := Ground.data }, { on := 4, ground := Ground.guard }], guard := some (4, false) } : Oper) := by kernel_rfl
  have e22 : c.eval (.tmp 22) = .string spareB := fact_at (p := eqv (.string spareB)) (by kernel_rfl) rfl (hF 16 (by decide))
  have hg : val RP1 c 4 = .bool false := hF 4 (by decide)
  have hw := weP1 ho rfl hg
  have ec : ∀ v, c.eval (.const v) = v := fun _ => rfl
  have ef : ∀ f, c.eval (.func f) = .func (.func f) #[] #[] := fun _ => rfl
  refine does_value ho hw (v := .bool false) ?_ rfl (Below.refl _ _)
  generalize c.eval = ρ at *
  clear hF hb hW hw ho hg
  go_simp
  rw [ByteArray.toList_eq]; rfl
set_option maxRecDepth 10000 in
theorem oP1_18 : stepP1 p1 p2 bk kc bl lc kn tn kc2 lc2 ka2 la2 a0 a1 a2 a3 b0 b1 b2 b3 Q 18 := by
  intro c w hb hW hF
  have ho : RP1[18]? = some ({ dst := some 24, op := Op.pick (Operand.tmp 10) (Operand.const (Value.bool true)) (Operand.tmp 23), type := 4, pos := "law.go:55", after := #[{ on := 4, ground := Ground.data }, { on := 17, ground := Ground.data }], guard := none } : Oper) := by kernel_rfl
  have e10 : c.eval (.tmp 10) = .bool false := fact_at (p := eqv (.bool false)) (by kernel_rfl) rfl (hF 4 (by decide))
  have e23 : c.eval (.tmp 23) = .bool false := fact_at (p := eqv (.bool false)) (by kernel_rfl) rfl (hF 17 (by decide))
  have hw := wnP1 (c := c) ho rfl
  have ec : ∀ v, c.eval (.const v) = v := fun _ => rfl
  have ef : ∀ f, c.eval (.func f) = .func (.func f) #[] #[] := fun _ => rfl
  refine does_value ho hw (v := .bool false) ?_ rfl (Below.refl _ _)
  generalize c.eval = ρ at *
  clear hF hb hW hw ho
  go_simp
set_option maxRecDepth 10000 in
theorem oP1_19 : stepP1 p1 p2 bk kc bl lc kn tn kc2 lc2 ka2 la2 a0 a1 a2 a3 b0 b1 b2 b3 Q 19 := by
  intro c w hb hW hF
  have ho : RP1[19]? = some ({ dst := some 25, op := Op.move (Operand.tmp 24), type := 4, pos := "law.go:55", after := #[{ on := 18, ground := Ground.data }, { on := 4, ground := Ground.chain }], guard := none } : Oper) := by kernel_rfl
  have e24 : c.eval (.tmp 24) = .bool false := fact_at (p := eqv (.bool false)) (by kernel_rfl) rfl (hF 18 (by decide))
  have hw := wnP1 (c := c) ho rfl
  have ec : ∀ v, c.eval (.const v) = v := fun _ => rfl
  have ef : ∀ f, c.eval (.func f) = .func (.func f) #[] #[] := fun _ => rfl
  refine does_value ho hw (v := .bool false) ?_ rfl (Below.refl _ _)
  generalize c.eval = ρ at *
  clear hF hb hW hw ho
  go_simp
set_option maxRecDepth 10000 in
theorem oP1_20 : stepP1 p1 p2 bk kc bl lc kn tn kc2 lc2 ka2 la2 a0 a1 a2 a3 b0 b1 b2 b3 Q 20 := by
  intro c w hb hW hF
  have ho : RP1[20]? = some ({ dst := some 26, op := Op.fieldAddr 26 (Operand.tmp 2) 5, type := 0, pos := "law.go:55", after := #[{ on := 19, ground := Ground.guard }], guard := some (19, false) } : Oper) := by kernel_rfl
  have e2 := hb.t2
  have hg : val RP1 c 19 = .bool false := hF 19 (by decide)
  have hw := weP1 ho rfl hg
  have ec : ∀ v, c.eval (.const v) = v := fun _ => rfl
  have ef : ∀ f, c.eval (.func f) = .func (.func f) #[] #[] := fun _ => rfl
  refine does_value ho hw (v := .pointer (some ⟨p1, 5, none⟩)) ?_ rfl (Below.refl _ _)
  generalize c.eval = ρ at *
  clear hF hb hW hw ho hg
  go_simp
set_option maxRecDepth 10000 in
theorem oP1_21 : stepP1 p1 p2 bk kc bl lc kn tn kc2 lc2 ka2 la2 a0 a1 a2 a3 b0 b1 b2 b3 Q 21 := by
  intro c w hb hW hF
  have ho : RP1[21]? = some ({ dst := some 27, op := Op.load 24 (Operand.tmp 26), type := 24, pos := "law.go:55", after := #[{ on := 20, ground := Ground.data }, { on := 19, ground := Ground.guard }], guard := some (19, false) } : Oper) := by kernel_rfl
  have e26 : c.eval (.tmp 26) = .pointer (some ⟨p1, 5, none⟩) := fact_at (p := eqv (.pointer (some ⟨p1, 5, none⟩))) (by kernel_rfl) rfl (hF 20 (by decide))
  have hg : val RP1 c 19 = .bool false := hF 19 (by decide)
  have hw := weP1 ho rfl hg
  have ec : ∀ v, c.eval (.const v) = v := fun _ => rfl
  have ef : ∀ f, c.eval (.func f) = .func (.func f) #[] #[] := fun _ => rfl
  have ca5 := hW.ca5
  refine does_value ho hw (v := .slice (some ⟨bl, 0, none⟩) tn lc) ?_ rfl (Below.refl _ _)
  generalize c.eval = ρ at *
  clear hF hb hW hw ho hg
  go_simp
set_option maxRecDepth 10000 in
theorem oP1_22 : stepP1 p1 p2 bk kc bl lc kn tn kc2 lc2 ka2 la2 a0 a1 a2 a3 b0 b1 b2 b3 Q 22 := by
  intro c w hb hW hF
  have ho : RP1[22]? = some ({ dst := some 28, op := Op.fieldAddr 26 (Operand.tmp 3) 5, type := 0, pos := "law.go:55", after := #[{ on := 19, ground := Ground.guard }], guard := some (19, false) } : Oper) := by kernel_rfl
  have e3 := hb.t3
  have hg : val RP1 c 19 = .bool false := hF 19 (by decide)
  have hw := weP1 ho rfl hg
  have ec : ∀ v, c.eval (.const v) = v := fun _ => rfl
  have ef : ∀ f, c.eval (.func f) = .func (.func f) #[] #[] := fun _ => rfl
  refine does_value ho hw (v := .pointer (some ⟨p2, 5, none⟩)) ?_ rfl (Below.refl _ _)
  generalize c.eval = ρ at *
  clear hF hb hW hw ho hg
  go_simp
set_option maxRecDepth 10000 in
theorem oP1_23 : stepP1 p1 p2 bk kc bl lc kn tn kc2 lc2 ka2 la2 a0 a1 a2 a3 b0 b1 b2 b3 Q 23 := by
  intro c w hb hW hF
  have ho : RP1[23]? = some ({ dst := some 29, op := Op.load 24 (Operand.tmp 28), type := 24, pos := "law.go:55", after := #[{ on := 22, ground := Ground.data }, { on := 19, ground := Ground.guard }], guard := some (19, false) } : Oper) := by kernel_rfl
  have e28 : c.eval (.tmp 28) = .pointer (some ⟨p2, 5, none⟩) := fact_at (p := eqv (.pointer (some ⟨p2, 5, none⟩))) (by kernel_rfl) rfl (hF 22 (by decide))
  have hg : val RP1 c 19 = .bool false := hF 19 (by decide)
  have hw := weP1 ho rfl hg
  have ec : ∀ v, c.eval (.const v) = v := fun _ => rfl
  have ef : ∀ f, c.eval (.func f) = .func (.func f) #[] #[] := fun _ => rfl
  have cb5 := hW.cb5
  refine does_value ho hw (v := .slice la2 tn lc2) ?_ rfl (Below.refl _ _)
  generalize c.eval = ρ at *
  clear hF hb hW hw ho hg
  go_simp
set_option maxRecDepth 10000 in
theorem oP1_24 : stepP1 p1 p2 bk kc bl lc kn tn kc2 lc2 ka2 la2 a0 a1 a2 a3 b0 b1 b2 b3 Q 24 := by
  intro c w hb hW hF
  have ho : RP1[24]? = some ({ dst := some 30, op := Op.call { callee := Callee.builtin Builtin.len, args := #[Operand.tmp 29], argTypes := #[24] }, type := 3, pos := "law.go:55", after := #[{ on := 23, ground := Ground.data }, { on := 19, ground := Ground.guard }], guard := some (19, false) } : Oper) := by kernel_rfl
  have e29 : c.eval (.tmp 29) = .slice la2 tn lc2 := fact_at (p := eqv (.slice la2 tn lc2)) (by kernel_rfl) rfl (hF 23 (by decide))
  have hg : val RP1 c 19 = .bool false := hF 19 (by decide)
  have hw := weP1 ho rfl hg
  have ec : ∀ v, c.eval (.const v) = v := fun _ => rfl
  have ef : ∀ f, c.eval (.func f) = .func (.func f) #[] #[] := fun _ => rfl
  refine does_value ho hw (v := .int .i64 (tn : Int)) ?_ rfl (Below.refl _ _)
  generalize c.eval = ρ at *
  clear hF hb hW hw ho hg
  go_simp
set_option maxRecDepth 10000 in
theorem oP1_25 : stepP1 p1 p2 bk kc bl lc kn tn kc2 lc2 ka2 la2 a0 a1 a2 a3 b0 b1 b2 b3 Q 25 := by
  intro c w hb hW hF
  have ho : RP1[25]? = some ({ dst := some 31, op := Op.binOp BinOp.add 3 (Operand.tmp 30) (Operand.const (Value.int IntKind.i64 1)) 3, type := 3, pos := "law.go:55", after := #[{ on := 24, ground := Ground.data }, { on := 19, ground := Ground.guard }], guard := some (19, false) } : Oper) := by kernel_rfl
  have e30 : c.eval (.tmp 30) = .int .i64 (tn : Int) := fact_at (p := eqv (.int .i64 (tn : Int))) (by kernel_rfl) rfl (hF 24 (by decide))
  have hg : val RP1 c 19 = .bool false := hF 19 (by decide)
  have hw := weP1 ho rfl hg
  have ec : ∀ v, c.eval (.const v) = v := fun _ => rfl
  have ef : ∀ f, c.eval (.func f) = .func (.func f) #[] #[] := fun _ => rfl
  have ll := hW.ll
  have ll2 := hW.ll2
  refine does_value ho hw (v := .int .i64 ((tn : Int) + 1)) ?_ rfl (Below.refl _ _)
  generalize c.eval = ρ at *
  clear hF hb hW hw ho hg
  go_simp
  rw [IntKind.wrap_i64]; omega
set_option maxRecDepth 10000 in
theorem oP1_26 : stepP1 p1 p2 bk kc bl lc kn tn kc2 lc2 ka2 la2 a0 a1 a2 a3 b0 b1 b2 b3 Q 26 := by
  intro c w hb hW hF
  have ho : RP1[26]? = some ({ dst := some 32, op := Op.slice 24 (Operand.tmp 27) none (some (Operand.tmp 31)) none, type := 24, pos := "law.go:55", after := #[{ on := 21, ground := Ground.data }, { on := 25, ground := Ground.data }, { on := 19, ground := Ground.guard }], guard := some (19, false) } : Oper) := by kernel_rfl
  have e27 : c.eval (.tmp 27) = .slice (some ⟨bl, 0, none⟩) tn lc := fact_at (p := eqv (.slice (some ⟨bl, 0, none⟩) tn lc)) (by kernel_rfl) rfl (hF 21 (by decide))
  have e31 : c.eval (.tmp 31) = .int .i64 ((tn : Int) + 1) := fact_at (p := eqv (.int .i64 ((tn : Int) + 1))) (by kernel_rfl) rfl (hF 25 (by decide))
  have hg : val RP1 c 19 = .bool false := hF 19 (by decide)
  have hw := weP1 ho rfl hg
  have ec : ∀ v, c.eval (.const v) = v := fun _ => rfl
  have ef : ∀ f, c.eval (.func f) = .func (.func f) #[] #[] := fun _ => rfl
  have ll := hW.ll
  have ll2 := hW.ll2
  refine does_value ho hw (v := .slice (some ⟨bl, 0, none⟩) (tn + 1) lc) ?_ rfl (Below.refl _ _)
  generalize c.eval = ρ at *
  clear hF hb hW hw ho hg
  go_simp
  intro h
  exfalso
  omega
set_option maxRecDepth 10000 in
theorem oP1_27 : stepP1 p1 p2 bk kc bl lc kn tn kc2 lc2 ka2 la2 a0 a1 a2 a3 b0 b1 b2 b3 Q 27 := by
  intro c w hb hW hF
  have ho : RP1[27]? = some ({ dst := some 33, op := Op.fieldAddr 26 (Operand.tmp 3) 5, type := 0, pos := "law.go:55", after := #[{ on := 19, ground := Ground.guard }], guard := some (19, false) } : Oper) := by kernel_rfl
  have e3 := hb.t3
  have hg : val RP1 c 19 = .bool false := hF 19 (by decide)
  have hw := weP1 ho rfl hg
  have ec : ∀ v, c.eval (.const v) = v := fun _ => rfl
  have ef : ∀ f, c.eval (.func f) = .func (.func f) #[] #[] := fun _ => rfl
  refine does_value ho hw (v := .pointer (some ⟨p2, 5, none⟩)) ?_ rfl (Below.refl _ _)
  generalize c.eval = ρ at *
  clear hF hb hW hw ho hg
  go_simp
set_option maxRecDepth 10000 in
theorem oP1_28 : stepP1 p1 p2 bk kc bl lc kn tn kc2 lc2 ka2 la2 a0 a1 a2 a3 b0 b1 b2 b3 Q 28 := by
  intro c w hb hW hF
  have ho : RP1[28]? = some ({ dst := some 34, op := Op.load 24 (Operand.tmp 33), type := 24, pos := "law.go:55", after := #[{ on := 27, ground := Ground.data }, { on := 19, ground := Ground.guard }], guard := some (19, false) } : Oper) := by kernel_rfl
  have e33 : c.eval (.tmp 33) = .pointer (some ⟨p2, 5, none⟩) := fact_at (p := eqv (.pointer (some ⟨p2, 5, none⟩))) (by kernel_rfl) rfl (hF 27 (by decide))
  have hg : val RP1 c 19 = .bool false := hF 19 (by decide)
  have hw := weP1 ho rfl hg
  have ec : ∀ v, c.eval (.const v) = v := fun _ => rfl
  have ef : ∀ f, c.eval (.func f) = .func (.func f) #[] #[] := fun _ => rfl
  have cb5 := hW.cb5
  refine does_value ho hw (v := .slice la2 tn lc2) ?_ rfl (Below.refl _ _)
  generalize c.eval = ρ at *
  clear hF hb hW hw ho hg
  go_simp
set_option maxRecDepth 10000 in
theorem oP1_29 : stepP1 p1 p2 bk kc bl lc kn tn kc2 lc2 ka2 la2 a0 a1 a2 a3 b0 b1 b2 b3 Q 29 := by
  intro c w hb hW hF
  have ho : RP1[29]? = some ({ dst := some 35, op := Op.call { callee := Callee.builtin Builtin.len, args := #[Operand.tmp 34], argTypes := #[24] }, type := 3, pos := "law.go:55", after := #[{ on := 28, ground := Ground.data }, { on := 19, ground := Ground.guard }], guard := some (19, false) } : Oper) := by kernel_rfl
  have e34 : c.eval (.tmp 34) = .slice la2 tn lc2 := fact_at (p := eqv (.slice la2 tn lc2)) (by kernel_rfl) rfl (hF 28 (by decide))
  have hg : val RP1 c 19 = .bool false := hF 19 (by decide)
  have hw := weP1 ho rfl hg
  have ec : ∀ v, c.eval (.const v) = v := fun _ => rfl
  have ef : ∀ f, c.eval (.func f) = .func (.func f) #[] #[] := fun _ => rfl
  refine does_value ho hw (v := .int .i64 (tn : Int)) ?_ rfl (Below.refl _ _)
  generalize c.eval = ρ at *
  clear hF hb hW hw ho hg
  go_simp
set_option maxRecDepth 10000 in
theorem oP1_30 : stepP1 p1 p2 bk kc bl lc kn tn kc2 lc2 ka2 la2 a0 a1 a2 a3 b0 b1 b2 b3 Q 30 := by
  intro c w hb hW hF
  have ho : RP1[30]? = some ({ dst := some 36, op := Op.indexAddr 24 (Operand.tmp 32) (Operand.tmp 35), type := 0, pos := "law.go:55", after := #[{ on := 26, ground := Ground.data }, { on := 29, ground := Ground.data }, { on := 19, ground := Ground.guard }], guard := some (19, false) } : Oper) := by kernel_rfl
  have e32 : c.eval (.tmp 32) = .slice (some ⟨bl, 0, none⟩) (tn + 1) lc := fact_at (p := eqv (.slice (some ⟨bl, 0, none⟩) (tn + 1) lc)) (by kernel_rfl) rfl (hF 26 (by decide))
  have e35 : c.eval (.tmp 35) = .int .i64 (tn : Int) := fact_at (p := eqv (.int .i64 (tn : Int))) (by kernel_rfl) rfl (hF 29 (by decide))
  have hg : val RP1 c 19 = .bool false := hF 19 (by decide)
  have hw := weP1 ho rfl hg
  have ec : ∀ v, c.eval (.const v) = v := fun _ => rfl
  have ef : ∀ f, c.eval (.func f) = .func (.func f) #[] #[] := fun _ => rfl
  have ll := hW.ll
  have ll2 := hW.ll2
  refine does_value ho hw (v := .pointer (some ⟨bl, tn * 6, none⟩)) ?_ rfl (Below.refl _ _)
  generalize c.eval = ρ at *
  clear hF hb hW hw ho hg
  go_simp
  intro h
  exfalso
  omega
set_option maxRecDepth 10000 in
theorem oP1_31 : stepP1 p1 p2 bk kc bl lc kn tn kc2 lc2 ka2 la2 a0 a1 a2 a3 b0 b1 b2 b3 Q 31 := by
  intro c w hb hW hF
  have ho : RP1[31]? = some ({ dst := some 37, op := Op.fieldAddr 26 (Operand.tmp 36) 0, type := 0, pos := "law.go:55", after := #[{ on := 30, ground := Ground.data }, { on := 19, ground := Ground.guard }], guard := some (19, false) } : Oper) := by kernel_rfl
  have e36 : c.eval (.tmp 36) = .pointer (some ⟨bl, tn * 6, none⟩) := fact_at (p := eqv (.pointer (some ⟨bl, tn * 6, none⟩))) (by kernel_rfl) rfl (hF 30 (by decide))
  have hg : val RP1 c 19 = .bool false := hF 19 (by decide)
  have hw := weP1 ho rfl hg
  have ec : ∀ v, c.eval (.const v) = v := fun _ => rfl
  have ef : ∀ f, c.eval (.func f) = .func (.func f) #[] #[] := fun _ => rfl
  refine does_value ho hw (v := .pointer (some ⟨bl, tn * 6, none⟩)) ?_ rfl (Below.refl _ _)
  generalize c.eval = ρ at *
  clear hF hb hW hw ho hg
  go_simp
set_option maxRecDepth 10000 in
theorem oP1_32 : stepP1 p1 p2 bk kc bl lc kn tn kc2 lc2 ka2 la2 a0 a1 a2 a3 b0 b1 b2 b3 Q 32 := by
  intro c w hb hW hF
  have ho : RP1[32]? = some ({ dst := some 38, op := Op.load 22 (Operand.tmp 37), type := 22, pos := "law.go:55", after := #[{ on := 31, ground := Ground.data }, { on := 19, ground := Ground.guard }], guard := some (19, false) } : Oper) := by kernel_rfl
  have e37 : c.eval (.tmp 37) = .pointer (some ⟨bl, tn * 6, none⟩) := fact_at (p := eqv (.pointer (some ⟨bl, tn * 6, none⟩))) (by kernel_rfl) rfl (hF 31 (by decide))
  have hg : val RP1 c 19 = .bool false := hF 19 (by decide)
  have hw := weP1 ho rfl hg
  have ec : ∀ v, c.eval (.const v) = v := fun _ => rfl
  have ef : ∀ f, c.eval (.func f) = .func (.func f) #[] #[] := fun _ => rfl
  have ot := hW.ot
  refine does_value ho hw (v := .int .i64 77) ?_ rfl (Below.refl _ _)
  generalize c.eval = ρ at *
  clear hF hb hW hw ho hg
  go_simp
set_option maxRecDepth 10000 in
theorem oP1_33 : stepP1 p1 p2 bk kc bl lc kn tn kc2 lc2 ka2 la2 a0 a1 a2 a3 b0 b1 b2 b3 Q 33 := by
  intro c w hb hW hF
  have ho : RP1[33]? = some ({ dst := some 39, op := Op.binOp BinOp.neq 22 (Operand.tmp 38) (Operand.const (Value.int IntKind.i64 77)) 22, type := 4, pos := "law.go:55", after := #[{ on := 32, ground := Ground.data }, { on := 19, ground := Ground.guard }], guard := some (19, false) } : Oper) := by kernel_rfl
  have e38 : c.eval (.tmp 38) = .int .i64 77 := fact_at (p := eqv (.int .i64 77)) (by kernel_rfl) rfl (hF 32 (by decide))
  have hg : val RP1 c 19 = .bool false := hF 19 (by decide)
  have hw := weP1 ho rfl hg
  have ec : ∀ v, c.eval (.const v) = v := fun _ => rfl
  have ef : ∀ f, c.eval (.func f) = .func (.func f) #[] #[] := fun _ => rfl
  refine does_value ho hw (v := .bool false) ?_ rfl (Below.refl _ _)
  generalize c.eval = ρ at *
  clear hF hb hW hw ho hg
  go_simp
set_option maxRecDepth 10000 in
theorem oP1_34 : stepP1 p1 p2 bk kc bl lc kn tn kc2 lc2 ka2 la2 a0 a1 a2 a3 b0 b1 b2 b3 Q 34 := by
  intro c w hb hW hF
  have ho : RP1[34]? = some ({ dst := some 40, op := Op.pick (Operand.tmp 25) (Operand.const (Value.bool true)) (Operand.tmp 39), type := 4, pos := "law.go:55", after := #[{ on := 19, ground := Ground.data }, { on := 33, ground := Ground.data }], guard := none } : Oper) := by kernel_rfl
  have e25 : c.eval (.tmp 25) = .bool false := fact_at (p := eqv (.bool false)) (by kernel_rfl) rfl (hF 19 (by decide))
  have e39 : c.eval (.tmp 39) = .bool false := fact_at (p := eqv (.bool false)) (by kernel_rfl) rfl (hF 33 (by decide))
  have hw := wnP1 (c := c) ho rfl
  have ec : ∀ v, c.eval (.const v) = v := fun _ => rfl
  have ef : ∀ f, c.eval (.func f) = .func (.func f) #[] #[] := fun _ => rfl
  refine does_value ho hw (v := .bool false) ?_ rfl (Below.refl _ _)
  generalize c.eval = ρ at *
  clear hF hb hW hw ho
  go_simp
end
theorem stableP1 (p1 p2 bk kc bl lc kn tn kc2 lc2 : Nat) (ka2 la2 : Option Addr) (a0 a1 a2 a3 b0 b1 b2 b3 : Value) : ∀ pr ∈ factsP1 p1 p2 bk kc bl lc kn tn kc2 lc2 ka2 la2 a0 a1 a2 a3 b0 b1 b2 b3, Stable pr := by
  unfold factsP1
  repeat' (first | exact List.forall_mem_nil _ | refine List.forall_mem_cons.2 ⟨eqv_stable _, ?_⟩)
set_option maxRecDepth 100000 in
theorem allP1 (p1 p2 bk kc bl lc kn tn kc2 lc2 : Nat) (ka2 la2 : Option Addr) (a0 a1 a2 a3 b0 b1 b2 b3 : Value) (Q : Exit → Act → World → Prop) : ∀ i, i < 35 → (fun i => ∀ c w, BaseP1 p1 p2 bk kc bl lc kn tn kc2 lc2 ka2 la2 a0 a1 a2 a3 b0 b1 b2 b3 c → WorldP1 p1 p2 bk kc bl lc kn tn kc2 lc2 ka2 la2 a0 a1 a2 a3 b0 b1 b2 b3 w → (∀ q0 ∈ ancP1 i, factsAt (factsP1 p1 p2 bk kc bl lc kn tn kc2 lc2 ka2 la2 a0 a1 a2 a3 b0 b1 b2 b3) q0 (val RP1 c q0) w) → Does Tryz.prog RP1 Q (factsAt (factsP1 p1 p2 bk kc bl lc kn tn kc2 lc2 ka2 la2 a0 a1 a2 a3 b0 b1 b2 b3)) i c w) i := by
  refine below_succ ?_ (fun c w => oP1_34 p1 p2 bk kc bl lc kn tn kc2 lc2 ka2 la2 a0 a1 a2 a3 b0 b1 b2 b3 Q c w)
  refine below_succ ?_ (fun c w => oP1_33 p1 p2 bk kc bl lc kn tn kc2 lc2 ka2 la2 a0 a1 a2 a3 b0 b1 b2 b3 Q c w)
  refine below_succ ?_ (fun c w => oP1_32 p1 p2 bk kc bl lc kn tn kc2 lc2 ka2 la2 a0 a1 a2 a3 b0 b1 b2 b3 Q c w)
  refine below_succ ?_ (fun c w => oP1_31 p1 p2 bk kc bl lc kn tn kc2 lc2 ka2 la2 a0 a1 a2 a3 b0 b1 b2 b3 Q c w)
  refine below_succ ?_ (fun c w => oP1_30 p1 p2 bk kc bl lc kn tn kc2 lc2 ka2 la2 a0 a1 a2 a3 b0 b1 b2 b3 Q c w)
  refine below_succ ?_ (fun c w => oP1_29 p1 p2 bk kc bl lc kn tn kc2 lc2 ka2 la2 a0 a1 a2 a3 b0 b1 b2 b3 Q c w)
  refine below_succ ?_ (fun c w => oP1_28 p1 p2 bk kc bl lc kn tn kc2 lc2 ka2 la2 a0 a1 a2 a3 b0 b1 b2 b3 Q c w)
  refine below_succ ?_ (fun c w => oP1_27 p1 p2 bk kc bl lc kn tn kc2 lc2 ka2 la2 a0 a1 a2 a3 b0 b1 b2 b3 Q c w)
  refine below_succ ?_ (fun c w => oP1_26 p1 p2 bk kc bl lc kn tn kc2 lc2 ka2 la2 a0 a1 a2 a3 b0 b1 b2 b3 Q c w)
  refine below_succ ?_ (fun c w => oP1_25 p1 p2 bk kc bl lc kn tn kc2 lc2 ka2 la2 a0 a1 a2 a3 b0 b1 b2 b3 Q c w)
  refine below_succ ?_ (fun c w => oP1_24 p1 p2 bk kc bl lc kn tn kc2 lc2 ka2 la2 a0 a1 a2 a3 b0 b1 b2 b3 Q c w)
  refine below_succ ?_ (fun c w => oP1_23 p1 p2 bk kc bl lc kn tn kc2 lc2 ka2 la2 a0 a1 a2 a3 b0 b1 b2 b3 Q c w)
  refine below_succ ?_ (fun c w => oP1_22 p1 p2 bk kc bl lc kn tn kc2 lc2 ka2 la2 a0 a1 a2 a3 b0 b1 b2 b3 Q c w)
  refine below_succ ?_ (fun c w => oP1_21 p1 p2 bk kc bl lc kn tn kc2 lc2 ka2 la2 a0 a1 a2 a3 b0 b1 b2 b3 Q c w)
  refine below_succ ?_ (fun c w => oP1_20 p1 p2 bk kc bl lc kn tn kc2 lc2 ka2 la2 a0 a1 a2 a3 b0 b1 b2 b3 Q c w)
  refine below_succ ?_ (fun c w => oP1_19 p1 p2 bk kc bl lc kn tn kc2 lc2 ka2 la2 a0 a1 a2 a3 b0 b1 b2 b3 Q c w)
  refine below_succ ?_ (fun c w => oP1_18 p1 p2 bk kc bl lc kn tn kc2 lc2 ka2 la2 a0 a1 a2 a3 b0 b1 b2 b3 Q c w)
  refine below_succ ?_ (fun c w => oP1_17 p1 p2 bk kc bl lc kn tn kc2 lc2 ka2 la2 a0 a1 a2 a3 b0 b1 b2 b3 Q c w)
  refine below_succ ?_ (fun c w => oP1_16 p1 p2 bk kc bl lc kn tn kc2 lc2 ka2 la2 a0 a1 a2 a3 b0 b1 b2 b3 Q c w)
  refine below_succ ?_ (fun c w => oP1_15 p1 p2 bk kc bl lc kn tn kc2 lc2 ka2 la2 a0 a1 a2 a3 b0 b1 b2 b3 Q c w)
  refine below_succ ?_ (fun c w => oP1_14 p1 p2 bk kc bl lc kn tn kc2 lc2 ka2 la2 a0 a1 a2 a3 b0 b1 b2 b3 Q c w)
  refine below_succ ?_ (fun c w => oP1_13 p1 p2 bk kc bl lc kn tn kc2 lc2 ka2 la2 a0 a1 a2 a3 b0 b1 b2 b3 Q c w)
  refine below_succ ?_ (fun c w => oP1_12 p1 p2 bk kc bl lc kn tn kc2 lc2 ka2 la2 a0 a1 a2 a3 b0 b1 b2 b3 Q c w)
  refine below_succ ?_ (fun c w => oP1_11 p1 p2 bk kc bl lc kn tn kc2 lc2 ka2 la2 a0 a1 a2 a3 b0 b1 b2 b3 Q c w)
  refine below_succ ?_ (fun c w => oP1_10 p1 p2 bk kc bl lc kn tn kc2 lc2 ka2 la2 a0 a1 a2 a3 b0 b1 b2 b3 Q c w)
  refine below_succ ?_ (fun c w => oP1_9 p1 p2 bk kc bl lc kn tn kc2 lc2 ka2 la2 a0 a1 a2 a3 b0 b1 b2 b3 Q c w)
  refine below_succ ?_ (fun c w => oP1_8 p1 p2 bk kc bl lc kn tn kc2 lc2 ka2 la2 a0 a1 a2 a3 b0 b1 b2 b3 Q c w)
  refine below_succ ?_ (fun c w => oP1_7 p1 p2 bk kc bl lc kn tn kc2 lc2 ka2 la2 a0 a1 a2 a3 b0 b1 b2 b3 Q c w)
  refine below_succ ?_ (fun c w => oP1_6 p1 p2 bk kc bl lc kn tn kc2 lc2 ka2 la2 a0 a1 a2 a3 b0 b1 b2 b3 Q c w)
  refine below_succ ?_ (fun c w => oP1_5 p1 p2 bk kc bl lc kn tn kc2 lc2 ka2 la2 a0 a1 a2 a3 b0 b1 b2 b3 Q c w)
  refine below_succ ?_ (fun c w => oP1_4 p1 p2 bk kc bl lc kn tn kc2 lc2 ka2 la2 a0 a1 a2 a3 b0 b1 b2 b3 Q c w)
  refine below_succ ?_ (fun c w => oP1_3 p1 p2 bk kc bl lc kn tn kc2 lc2 ka2 la2 a0 a1 a2 a3 b0 b1 b2 b3 Q c w)
  refine below_succ ?_ (fun c w => oP1_2 p1 p2 bk kc bl lc kn tn kc2 lc2 ka2 la2 a0 a1 a2 a3 b0 b1 b2 b3 Q c w)
  refine below_succ ?_ (fun c w => oP1_1 p1 p2 bk kc bl lc kn tn kc2 lc2 ka2 la2 a0 a1 a2 a3 b0 b1 b2 b3 Q c w)
  refine below_succ ?_ (fun c w => oP1_0 p1 p2 bk kc bl lc kn tn kc2 lc2 ka2 la2 a0 a1 a2 a3 b0 b1 b2 b3 Q c w)
  exact below_zero
theorem regionP1 (p1 p2 bk kc bl lc kn tn kc2 lc2 : Nat) (ka2 la2 : Option Addr) (a0 a1 a2 a3 b0 b1 b2 b3 : Value) (Q : Exit → Act → World → Prop) (base : Act) (w0 : World) (hsz : base.tmps.size = 60) (hb : BaseP1 p1 p2 bk kc bl lc kn tn kc2 lc2 ka2 la2 a0 a1 a2 a3 b0 b1 b2 b3 base)
    (hW : ∀ w, Below w0.heap.size w0 w → WorldP1 p1 p2 bk kc bl lc kn tn kc2 lc2 ka2 la2 a0 a1 a2 a3 b0 b1 b2 b3 w) (hQ : ∀ c w, Same RP1 base c → Below w0.heap.size w0 w → c.eval (.tmp 40) = .bool false → Q .normal c w) : (Code.region 1 RP1 true).wp Tryz.prog Q base w0 := by
  refine facts_rule (A := ancP1) (F := factsAt (factsP1 p1 p2 bk kc bl lc kn tn kc2 lc2 ka2 la2 a0 a1 a2 a3 b0 b1 b2 b3)) (by kernel_rfl) (by rw [hsz]; kernel_rfl) (fun i v w w' => factsAt_stable (stableP1 p1 p2 bk kc bl lc kn tn kc2 lc2 ka2 la2 a0 a1 a2 a3 b0 b1 b2 b3) i v w w') ?_ ?_
  · intro i hi c w hS hB hF
    exact allP1 p1 p2 bk kc bl lc kn tn kc2 lc2 ka2 la2 a0 a1 a2 a3 b0 b1 b2 b3 Q i (by rwa [show RP1.size = 35 by kernel_rfl] at hi) c w ⟨(same_eval hS (by kernel_rfl)).trans hb.t2, (same_eval hS (by kernel_rfl)).trans hb.t3⟩ (hW w hB) hF
  · intro c w hS hB hF
    exact hQ c w hS hB (fact_at (p := eqv (.bool false)) (by kernel_rfl) rfl (hF 34 (by rw [show RP1.size = 35 by kernel_rfl]; omega)))
end Go.Proofs.YtbpmhgcjefpigaaGreatDoor
