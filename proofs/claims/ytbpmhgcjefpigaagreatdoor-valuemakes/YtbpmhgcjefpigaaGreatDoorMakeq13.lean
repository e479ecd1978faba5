/- A statement that reads, calls and lays rows of its own: operation by operation, in whatever order. -/
import Derived.Test.YtbpmhgcjefpigaaGreatDoorCopy7
namespace Go.Proofs.YtbpmhgcjefpigaaGreatDoor
open Go.RowKit Go.WideShapes Go.Shelf
set_option linter.unusedVariables false
set_option linter.unusedSimpArgs false
noncomputable def RQ13 : Array Oper := regionAt Tryz.f9 13
def ancQ13 (i : Nat) : List Nat := ([[], [], [0, 1], [2], [3], [4], [4, 5], [4], [4, 6, 7], [4, 8], [9], [10], [10], [10, 12], [10, 13], [10, 11, 14], [10, 15], [10, 16], [17], [18], [18], [18, 20], [18, 21], [18, 22], [18, 19, 23], [18], [18, 25], [18, 26], [18, 24, 27], [18, 28], [18, 29], [18, 30], [31], [32], [32], [32, 34], [32, 35], [32, 36], [32, 33, 37], [32], [32, 39], [32, 40], [32, 38, 41], [32, 42], [32, 43], [32, 44], [32, 45]] : List (List Nat)).getD i []
def factsQ13 (bx bm bw bl kg kl kcap kc lg ll lcap lc : Nat) (ka la : Option Addr) (en : Int) (m0 m1 m2 m3 m4 m5 v0 v1 v2 v3 v4 v5 x0 x1 x2 x3 x4 x5 : Value) : List (Value → World → Prop) :=
  [eqv (.agg #[m0, m1, m2, m3, m4, m5]), eqv (.agg #[v0, v1, v2, v3, v4, v5]), eqv (.bool true), eqv (.bool false), eqv (.bool false), eqv (.int .i64 en), eqv (.int .i64 en), eqv (.int .i64 en), eqv (.bool false), eqv (.bool false), eqv (.bool false), eqv (.agg #[x0, x1, x2, x3, x4, x5]), eqv (.pointer (some ⟨bx, 4, none⟩)), eqv (.slice la ll lc), eqv (.agg #[.int .i64 4, .bool false, .int .i64 0, .string ⟨#[]⟩, .slice none 0 0, .slice la ll lc]), eqv (.bool true), eqv (.bool false), eqv (.bool false), eqv (.bool false), eqv (.slice (some ⟨kg, 0, none⟩) kl kcap), eqv (.pointer (some ⟨bx, 3, none⟩)), eqv (.slice ka kl kc), eqv (.int .i64 (kl : Int)), eqv (.int .i64 ((kl + 1 : Nat) : Int)), eqv (.slice (some ⟨kg, 0, none⟩) (kl + 1) kcap), eqv (.pointer (some ⟨bx, 3, none⟩)), eqv (.slice ka kl kc), eqv (.int .i64 (kl : Int)), eqv (.pointer (some ⟨kg, kl, none⟩)), eqv (.string spareB), eqv (.bool false), eqv (.bool false), eqv (.bool false), eqv (.slice (some ⟨lg, 0, none⟩) ll lcap), eqv (.pointer (some ⟨bx, 4, none⟩)), eqv (.slice la ll lc), eqv (.int .i64 (ll : Int)), eqv (.int .i64 ((ll + 1 : Nat) : Int)), eqv (.slice (some ⟨lg, 0, none⟩) (ll + 1) lcap), eqv (.pointer (some ⟨bx, 4, none⟩)), eqv (.slice la ll lc), eqv (.int .i64 (ll : Int)), eqv (.pointer (some ⟨lg, ll * 6, none⟩)), eqv (.pointer (some ⟨lg, ll * 6, none⟩)), eqv (.int .i64 77), eqv (.bool false), eqv (.bool false)]
structure BaseQ13 (bx bm bw bl kg kl kcap kc lg ll lcap lc : Nat) (ka la : Option Addr) (en : Int) (m0 m1 m2 m3 m4 m5 v0 v1 v2 v3 v4 v5 x0 x1 x2 x3 x4 x5 : Value) (c : Act) : Prop where
  t1 : c.eval (.tmp 1) = .pointer (some ⟨bx, 0, none⟩)
  t3 : c.eval (.tmp 3) = .slice (some ⟨kg, 0, none⟩) kl kcap
  t4 : c.eval (.tmp 4) = .slice (some ⟨lg, 0, none⟩) ll lcap
  t6 : c.eval (.tmp 6) = .pointer (some ⟨bm, 0, none⟩)
  t7 : c.eval (.tmp 7) = .int .i64 en
  t8 : c.eval (.tmp 8) = .pointer (some ⟨bw, 0, none⟩)
  t9 : c.eval (.tmp 9) = .int .i64 en
  t10 : c.eval (.tmp 10) = .pointer (some ⟨bl, 0, none⟩)
structure WorldQ13 (bx bm bw bl kg kl kcap kc lg ll lcap lc : Nat) (ka la : Option Addr) (en : Int) (m0 m1 m2 m3 m4 m5 v0 v1 v2 v3 v4 v5 x0 x1 x2 x3 x4 x5 : Value) (w : World) : Prop where
  wm0 : w.cell? ⟨bm, 0, none⟩ = some m0
  wm1 : w.cell? ⟨bm, 1, none⟩ = some m1
  wm2 : w.cell? ⟨bm, 2, none⟩ = some m2
  wm3 : w.cell? ⟨bm, 3, none⟩ = some m3
  wm4 : w.cell? ⟨bm, 4, none⟩ = some m4
  wm5 : w.cell? ⟨bm, 5, none⟩ = some m5
  wv0 : w.cell? ⟨bw, 0, none⟩ = some v0
  wv1 : w.cell? ⟨bw, 1, none⟩ = some v1
  wv2 : w.cell? ⟨bw, 2, none⟩ = some v2
  wv3 : w.cell? ⟨bw, 3, none⟩ = some v3
  wv4 : w.cell? ⟨bw, 4, none⟩ = some v4
  wv5 : w.cell? ⟨bw, 5, none⟩ = some v5
  wx0 : w.cell? ⟨bl, 0, none⟩ = some x0
  wx1 : w.cell? ⟨bl, 1, none⟩ = some x1
  wx2 : w.cell? ⟨bl, 2, none⟩ = some x2
  wx3 : w.cell? ⟨bl, 3, none⟩ = some x3
  wx4 : w.cell? ⟨bl, 4, none⟩ = some x4
  wx5 : w.cell? ⟨bl, 5, none⟩ = some x5
  c3 : w.cell? ⟨bx, 3, none⟩ = some (.slice ka kl kc)
  c4 : w.cell? ⟨bx, 4, none⟩ = some (.slice la ll lc)
  csp : w.cell? ⟨kg, kl, none⟩ = some (.string spareB)
  c77 : w.cell? ⟨lg, ll * 6, none⟩ = some (.int .i64 77)
  k1 : Calls Tryz.prog 27 #[.agg #[m0, m1, m2, m3, m4, m5], .agg #[v0, v1, v2, v3, v4, v5]] w fun e w' => e = .returned (.bool true) ∧ Below w.heap.size w w'
  k2 : Calls Tryz.prog 22 #[.int .i64 en] w fun e w' => e = .returned (.int .i64 en) ∧ Below w.heap.size w w'
  k3 : Calls Tryz.prog 27 #[.agg #[x0, x1, x2, x3, x4, x5], .agg #[.int .i64 4, .bool false, .int .i64 0, .string ⟨#[]⟩, .slice none 0 0, .slice la ll lc]] w fun e w' => e = .returned (.bool true) ∧ Below w.heap.size w w'
  hk : kl < kcap
  hk2 : kl ≤ 1000
  hl : ll < lcap
  hl2 : ll ≤ 1000
def stepQ13 (bx bm bw bl kg kl kcap kc lg ll lcap lc : Nat) (ka la : Option Addr) (en : Int) (m0 m1 m2 m3 m4 m5 v0 v1 v2 v3 v4 v5 x0 x1 x2 x3 x4 x5 : Value) (Q : Exit → Act → World → Prop) (i : Nat) : Prop := ∀ (c : Act) (w : World), BaseQ13 bx bm bw bl kg kl kcap kc lg ll lcap lc ka la en m0 m1 m2 m3 m4 m5 v0 v1 v2 v3 v4 v5 x0 x1 x2 x3 x4 x5 c → WorldQ13 bx bm bw bl kg kl kcap kc lg ll lcap lc ka la en m0 m1 m2 m3 m4 m5 v0 v1 v2 v3 v4 v5 x0 x1 x2 x3 x4 x5 w → (∀ q0 ∈ ancQ13 i, factsAt (factsQ13 bx bm bw bl kg kl kcap kc lg ll lcap lc ka la en m0 m1 m2 m3 m4 m5 v0 v1 v2 v3 v4 v5 x0 x1 x2 x3 x4 x5) q0 (val RQ13 c q0) w) → Does Tryz.prog RQ13 Q (factsAt (factsQ13 bx bm bw bl kg kl kcap kc lg ll lcap lc ka la en m0 m1 m2 m3 m4 m5 v0 v1 v2 v3 v4 v5 x0 x1 x2 x3 x4 x5)) i c w
theorem wnQ13 {i : Nat} {o : Oper} {c : Act} (ho : RQ13[i]? = some o) (h : o.guard = none) : Region.wanted o (yielded RQ13 c.tmps) = true := want_none h
theorem weQ13 {i g : Nat} {b : Bool} {o : Oper} {c : Act} (ho : RQ13[i]? = some o) (h : o.guard = some (g, b)) (hg : val RQ13 c g = .bool b) : Region.wanted o (yielded RQ13 c.tmps) = true := want_eq h hg
section
variable (bx bm bw bl kg kl kcap kc lg ll lcap lc : Nat) (ka la : Option Addr) (en : Int) (m0 m1 m2 m3 m4 m5 v0 v1 v2 v3 v4 v5 x0 x1 x2 x3 x4 x5 : Value) (Q : Exit → Act → World → Prop)
set_option maxRecDepth 10000 in
theorem oQ13_0 : stepQ13 bx bm bw bl kg kl kcap kc lg ll lcap lc ka la en m0 m1 m2 m3 m4 m5 v0 v1 v2 v3 v4 v5 x0 x1 x2 x3 x4 x5 Q 0 := by
  intro c w hb hW hF
  have ho : RQ13[0]? = some ({ dst := some 86, op := Op.load 26 (Operand.tmp 6), type := 26, pos := "law.go:223", after := #[], guard := none } : Oper) := by kernel_rfl
  have e6 := hb.t6
  have hw := wnQ13 (c := c) ho rfl
  have ec : ∀ v, c.eval (.const v) = v := fun _ => rfl
  have ef : ∀ f, c.eval (.func f) = .func (.func f) #[] #[] := fun _ => rfl
  have wm0 := hW.wm0
  have wm1 := hW.wm1
  have wm2 := hW.wm2
  have wm3 := hW.wm3
  have wm4 := hW.wm4
  have wm5 := hW.wm5
  refine does_value ho hw (v := .agg #[m0, m1, m2, m3, m4, m5]) ?_ rfl (Below.refl _ _)
  generalize c.eval = ρ at *
  clear hF hb hW hw ho
  go_simp
set_option maxRecDepth 10000 in
theorem oQ13_1 : stepQ13 bx bm bw bl kg kl kcap kc lg ll lcap lc ka la en m0 m1 m2 m3 m4 m5 v0 v1 v2 v3 v4 v5 x0 x1 x2 x3 x4 x5 Q 1 := by
  intro c w hb hW hF
  have ho : RQ13[1]? = some ({ dst := some 87, op := Op.load 26 (Operand.tmp 8), type := 26, pos := "law.go:223", after := #[], guard := none } : Oper) := by kernel_rfl
  have e8 := hb.t8
  have hw := wnQ13 (c := c) ho rfl
  have ec : ∀ v, c.eval (.const v) = v := fun _ => rfl
  have ef : ∀ f, c.eval (.func f) = .func (.func f) #[] #[] := fun _ => rfl
  have wv0 := hW.wv0
  have wv1 := hW.wv1
  have wv2 := hW.wv2
  have wv3 := hW.wv3
  have wv4 := hW.wv4
  have wv5 := hW.wv5
  refine does_value ho hw (v := .agg #[v0, v1, v2, v3, v4, v5]) ?_ rfl (Below.refl _ _)
  generalize c.eval = ρ at *
  clear hF hb hW hw ho
  go_simp
set_option maxRecDepth 10000 in
theorem oQ13_2 : stepQ13 bx bm bw bl kg kl kcap kc lg ll lcap lc ka la en m0 m1 m2 m3 m4 m5 v0 v1 v2 v3 v4 v5 x0 x1 x2 x3 x4 x5 Q 2 := by
  intro c w hb hW hF
  have ho : RQ13[2]? = some ({ dst := some 88, op := Op.call { callee := Callee.value (Operand.func 27), args := #[Operand.tmp 86, Operand.tmp 87], argTypes := #[26, 26] }, type := 4, pos := "law.go:223", after := #[{ on := 0, ground := Ground.data }, { on := 1, ground := Ground.data }], guard := none } : Oper) := by kernel_rfl
  have e86 : c.eval (.tmp 86) = .agg #[m0, m1, m2, m3, m4, m5] := fact_at (p := eqv (.agg #[m0, m1, m2, m3, m4, m5])) (by kernel_rfl) rfl (hF 0 (by decide))
  have e87 : c.eval (.tmp 87) = .agg #[v0, v1, v2, v3, v4, v5] := fact_at (p := eqv (.agg #[v0, v1, v2, v3, v4, v5])) (by kernel_rfl) rfl (hF 1 (by decide))
  have hw := wnQ13 (c := c) ho rfl
  have ec : ∀ v, c.eval (.const v) = v := fun _ => rfl
  have ef : ∀ f, c.eval (.func f) = .func (.func f) #[] #[] := fun _ => rfl
  refine does_call ho hw (f := 27) (args := #[.agg #[m0, m1, m2, m3, m4, m5], .agg #[v0, v1, v2, v3, v4, v5]]) ?_ (Calls.mono (hW.k1) fun e w' ⟨h1, h2⟩ => ⟨_, h1, rfl, h2⟩)
  generalize c.eval = ρ at *
  clear hF hb hW hw ho
  go_simp
set_option maxRecDepth 10000 in
theorem oQ13_3 : stepQ13 bx bm bw bl kg kl kcap kc lg ll lcap lc ka la en m0 m1 m2 m3 m4 m5 v0 v1 v2 v3 v4 v5 x0 x1 x2 x3 x4 x5 Q 3 := by
  intro c w hb hW hF
  have ho : RQ13[3]? = some ({ dst := some 89, op := Op.unOp UnOp.not 4 (Operand.tmp 88), type := 4, pos := "law.go:223", after := #[{ on := 2, ground := Ground.data }], guard := none } : Oper) := by kernel_rfl
  have e88 : c.eval (.tmp 88) = .bool true := fact_at (p := eqv (.bool true)) (by kernel_rfl) rfl (hF 2 (by decide))
  have hw := wnQ13 (c := c) ho rfl
  have ec : ∀ v, c.eval (.const v) = v := fun _ => rfl
  have ef : ∀ f, c.eval (.func f) = .func (.func f) #[] #[] := fun _ => rfl
  refine does_value ho hw (v := .bool false) ?_ rfl (Below.refl _ _)
  generalize c.eval = ρ at *
  clear hF hb hW hw ho
  go_simp
set_option maxRecDepth 10000 in
theorem oQ13_4 : stepQ13 bx bm bw bl kg kl kcap kc lg ll lcap lc ka la en m0 m1 m2 m3 m4 m5 v0 v1 v2 v3 v4 v5 x0 x1 x2 x3 x4 x5 Q 4 := by
  intro c w hb hW hF
  have ho : RQ13[4]? = some ({ dst := some 90, op := Op.move (Operand.tmp 89), type := 4, pos := "law.go:223", after := #[{ on := 3, ground := Ground.data }, { on := 2, ground := Ground.chain }], guard := none } : Oper) := by kernel_rfl
  have e89 : c.eval (.tmp 89) = .bool false := fact_at (p := eqv (.bool false)) (by kernel_rfl) rfl (hF 3 (by decide))
  have hw := wnQ13 (c := c) ho rfl
  have ec : ∀ v, c.eval (.const v) = v := fun _ => rfl
  have ef : ∀ f, c.eval (.func f) = .func (.func f) #[] #[] := fun _ => rfl
  refine does_value ho hw (v := .bool false) ?_ rfl (Below.refl _ _)
  generalize c.eval = ρ at *
  clear hF hb hW hw ho
  go_simp
set_option maxRecDepth 10000 in
theorem oQ13_5 : stepQ13 bx bm bw bl kg kl kcap kc lg ll lcap lc ka la en m0 m1 m2 m3 m4 m5 v0 v1 v2 v3 v4 v5 x0 x1 x2 x3 x4 x5 Q 5 := by
  intro c w hb hW hF
  have ho : RQ13[5]? = some ({ dst := some 91, op := Op.move (Operand.tmp 7), type := 35, pos := "law.go:223", after := #[{ on := 4, ground := Ground.guard }], guard := some (4, false) } : Oper) := by kernel_rfl
  have e7 := hb.t7
  have hg : val RQ13 c 4 = .bool false := hF 4 (by decide)
  have hw := weQ13 ho rfl hg
  have ec : ∀ v, c.eval (.const v) = v := fun _ => rfl
  have ef : ∀ f, c.eval (.func f) = .func (.func f) #[] #[] := fun _ => rfl
  refine does_value ho hw (v := .int .i64 en) ?_ rfl (Below.refl _ _)
  generalize c.eval = ρ at *
  clear hF hb hW hw ho hg
  go_simp
set_option maxRecDepth 10000 in
theorem oQ13_6 : stepQ13 bx bm bw bl kg kl kcap kc lg ll lcap lc ka la en m0 m1 m2 m3 m4 m5 v0 v1 v2 v3 v4 v5 x0 x1 x2 x3 x4 x5 Q 6 := by
  intro c w hb hW hF
  have ho : RQ13[6]? = some ({ dst := some 92, op := Op.call { callee := Callee.value (Operand.func 22), args := #[Operand.tmp 91], argTypes := #[35] }, type := 3, pos := "law.go:223", after := #[{ on := 5, ground := Ground.data }, { on := 4, ground := Ground.chain }, { on := 4, ground := Ground.guard }], guard := some (4, false) } : Oper) := by kernel_rfl
  have e91 : c.eval (.tmp 91) = .int .i64 en := fact_at (p := eqv (.int .i64 en)) (by kernel_rfl) rfl (hF 5 (by decide))
  have hg : val RQ13 c 4 = .bool false := hF 4 (by decide)
  have hw := weQ13 ho rfl hg
  have ec : ∀ v, c.eval (.const v) = v := fun _ => rfl
  have ef : ∀ f, c.eval (.func f) = .func (.func f) #[] #[] := fun _ => rfl
  refine does_call ho hw (f := 22) (args := #[.int .i64 en]) ?_ (Calls.mono (hW.k2) fun e w' ⟨h1, h2⟩ => ⟨_, h1, rfl, h2⟩)
  generalize c.eval = ρ at *
  clear hF hb hW hw ho hg
  go_simp
set_option maxRecDepth 10000 in
theorem oQ13_7 : stepQ13 bx bm bw bl kg kl kcap kc lg ll lcap lc ka la en m0 m1 m2 m3 m4 m5 v0 v1 v2 v3 v4 v5 x0 x1 x2 x3 x4 x5 Q 7 := by
  intro c w hb hW hF
  have ho : RQ13[7]? = some ({ dst := some 93, op := Op.move (Operand.tmp 9), type := 3, pos := "law.go:223", after := #[{ on := 4, ground := Ground.guard }], guard := some (4, false) } : Oper) := by kernel_rfl
  have e9 := hb.t9
  have hg : val RQ13 c 4 = .bool false := hF 4 (by decide)
  have hw := weQ13 ho rfl hg
  have ec : ∀ v, c.eval (.const v) = v := fun _ => rfl
  have ef : ∀ f, c.eval (.func f) = .func (.func f) #[] #[] := fun _ => rfl
  refine does_value ho hw (v := .int .i64 en) ?_ rfl (Below.refl _ _)
  generalize c.eval = ρ at *
  clear hF hb hW hw ho hg
  go_simp
set_option maxRecDepth 10000 in
theorem oQ13_8 : stepQ13 bx bm bw bl kg kl kcap kc lg ll lcap lc ka la en m0 m1 m2 m3 m4 m5 v0 v1 v2 v3 v4 v5 x0 x1 x2 x3 x4 x5 Q 8 := by
  intro c w hb hW hF
  have ho : RQ13[8]? = some ({ dst := some 94, op := Op.binOp BinOp.neq 3 (Operand.tmp 92) (Operand.tmp 93) 3, type := 4, pos := "law.go:223", after := #[{ on := 6, ground := Ground.data }, { on := 7, ground := Ground.data }, { on := 4, ground := Ground.guard }], guard := some (4, false) } : Oper) := by kernel_rfl
  have e92 : c.eval (.tmp 92) = .int .i64 en := fact_at (p := eqv (.int .i64 en)) (by kernel_rfl) rfl (hF 6 (by decide))
  have e93 : c.eval (.tmp 93) = .int .i64 en := fact_at (p := eqv (.int .i64 en)) (by kernel_rfl) rfl (hF 7 (by decide))
  have hg : val RQ13 c 4 = .bool false := hF 4 (by decide)
  have hw := weQ13 ho rfl hg
  have ec : ∀ v, c.eval (.const v) = v := fun _ => rfl
  have ef : ∀ f, c.eval (.func f) = .func (.func f) #[] #[] := fun _ => rfl
  refine does_value ho hw (v := .bool false) ?_ rfl (Below.refl _ _)
  generalize c.eval = ρ at *
  clear hF hb hW hw ho hg
  go_simp
set_option maxRecDepth 10000 in
theorem oQ13_9 : stepQ13 bx bm bw bl kg kl kcap kc lg ll lcap lc ka la en m0 m1 m2 m3 m4 m5 v0 v1 v2 v3 v4 v5 x0 x1 x2 x3 x4 x5 Q 9 := by
  intro c w hb hW hF
  have ho : RQ13[9]? = some ({ dst := some 95, op := Op.pick (Operand.tmp 90) (Operand.const (Value.bool true)) (Operand.tmp 94), type := 4, pos := "law.go:223", after := #[{ on := 4, ground := Ground.data }, { on := 8, ground := Ground.data }], guard := none } : Oper) := by kernel_rfl
  have e90 : c.eval (.tmp 90) = .bool false := fact_at (p := eqv (.bool false)) (by kernel_rfl) rfl (hF 4 (by decide))
  have e94 : c.eval (.tmp 94) = .bool false := fact_at (p := eqv (.bool false)) (by kernel_rfl) rfl (hF 8 (by decide))
  have hw := wnQ13 (c := c) ho rfl
  have ec : ∀ v, c.eval (.const v) = v := fun _ => rfl
  have ef : ∀ f, c.eval (.func f) = .func (.func f) #[] #[] := fun _ => rfl
  refine does_value ho hw (v := .bool false) ?_ rfl (Below.refl _ _)
  generalize c.eval = ρ at *
  clear hF hb hW hw ho
  go_simp
set_option maxRecDepth 10000 in
theorem oQ13_10 : stepQ13 bx bm bw bl kg kl kcap kc lg ll lcap lc ka la en m0 m1 m2 m3 m4 m5 v0 v1 v2 v3 v4 v5 x0 x1 x2 x3 x4 x5 Q 10 := by
  intro c w hb hW hF
  have ho : RQ13[10]? = some ({ dst := some 96, op := Op.move (Operand.tmp 95), type := 4, pos := "law.go:223", after := #[{ on := 9, ground := Ground.data }, { on := 6, ground := Ground.chain }], guard := none } : Oper) := by kernel_rfl
  have e95 : c.eval (.tmp 95) = .bool false := fact_at (p := eqv (.bool false)) (by kernel_rfl) rfl (hF 9 (by decide))
  have hw := wnQ13 (c := c) ho rfl
  have ec : ∀ v, c.eval (.const v) = v := fun _ => rfl
  have ef : ∀ f, c.eval (.func f) = .func (.func f) #[] #[] := fun _ => rfl
  refine does_value ho hw (v := .bool false) ?_ rfl (Below.refl _ _)
  generalize c.eval = ρ at *
  clear hF hb hW hw ho
  go_simp
set_option maxRecDepth 10000 in
theorem oQ13_11 : stepQ13 bx bm bw bl kg kl kcap kc lg ll lcap lc ka la en m0 m1 m2 m3 m4 m5 v0 v1 v2 v3 v4 v5 x0 x1 x2 x3 x4 x5 Q 11 := by
  intro c w hb hW hF
  have ho : RQ13[11]? = some ({ dst := some 97, op := Op.load 26 (Operand.tmp 10), type := 26, pos := "law.go:223", after := #[{ on := 10, ground := Ground.guard }], guard := some (10, false) } : Oper) := by kernel_rfl
  have e10 := hb.t10
  have hg : val RQ13 c 10 = .bool false := hF 10 (by decide)
  have hw := weQ13 ho rfl hg
  have ec : ∀ v, c.eval (.const v) = v := fun _ => rfl
  have ef : ∀ f, c.eval (.func f) = .func (.func f) #[] #[] := fun _ => rfl
  have wx0 := hW.wx0
  have wx1 := hW.wx1
  have wx2 := hW.wx2
  have wx3 := hW.wx3
  have wx4 := hW.wx4
  have wx5 := hW.wx5
  refine does_value ho hw (v := .agg #[x0, x1, x2, x3, x4, x5]) ?_ rfl (Below.refl _ _)
  generalize c.eval = ρ at *
  clear hF hb hW hw ho hg
  go_simp
set_option maxRecDepth 10000 in
theorem oQ13_12 : stepQ13 bx bm bw bl kg kl kcap kc lg ll lcap lc ka la en m0 m1 m2 m3 m4 m5 v0 v1 v2 v3 v4 v5 x0 x1 x2 x3 x4 x5 Q 12 := by
  intro c w hb hW hF
  have ho : RQ13[12]? = some ({ dst := some 98, op := Op.fieldAddr 56 (Operand.tmp 1) 4, type := 0, pos := "law.go:223", after := #[{ on := 10, ground := Ground.guard }], guard := some (10, false) } : Oper) := by kernel_rfl
  have e1 := hb.t1
  have hg : val RQ13 c 10 = .bool false := hF 10 (by decide)
  have hw := weQ13 ho rfl hg
  have ec : ∀ v, c.eval (.const v) = v := fun _ => rfl
  have ef : ∀ f, c.eval (.func f) = .func (.func f) #[] #[] := fun _ => rfl
  refine does_value ho hw (v := .pointer (some ⟨bx, 4, none⟩)) ?_ rfl (Below.refl _ _)
  generalize c.eval = ρ at *
  clear hF hb hW hw ho hg
  go_simp
set_option maxRecDepth 10000 in
theorem oQ13_13 : stepQ13 bx bm bw bl kg kl kcap kc lg ll lcap lc ka la en m0 m1 m2 m3 m4 m5 v0 v1 v2 v3 v4 v5 x0 x1 x2 x3 x4 x5 Q 13 := by
  intro c w hb hW hF
  have ho : RQ13[13]? = some ({ dst := some 99, op := Op.load 24 (Operand.tmp 98), type := 24, pos := "law.go:223", after := #[{ on := 12, ground := Ground.data }, { on := 10, ground := Ground.guard }], guard := some (10, false) } : Oper) := by kernel_rfl
  have e98 : c.eval (.tmp 98) = .pointer (some ⟨bx, 4, none⟩) := fact_at (p := eqv (.pointer (some ⟨bx, 4, none⟩))) (by kernel_rfl) rfl (hF 12 (by decide))
  have hg : val RQ13 c 10 = .bool false := hF 10 (by decide)
  have hw := weQ13 ho rfl hg
  have ec : ∀ v, c.eval (.const v) = v := fun _ => rfl
  have ef : ∀ f, c.eval (.func f) = .func (.func f) #[] #[] := fun _ => rfl
  have c4 := hW.c4
  refine does_value ho hw (v := .slice la ll lc) ?_ rfl (Below.refl _ _)
  generalize c.eval = ρ at *
  clear hF hb hW hw ho hg
  go_simp
set_option maxRecDepth 10000 in
theorem oQ13_14 : stepQ13 bx bm bw bl kg kl kcap kc lg ll lcap lc ka la en m0 m1 m2 m3 m4 m5 v0 v1 v2 v3 v4 v5 x0 x1 x2 x3 x4 x5 Q 14 := by
  intro c w hb hW hF
  have ho : RQ13[14]? = some ({ dst := some 100, op := Op.build 26 #[(0, Operand.const (Value.int IntKind.i64 4)), (5, Operand.tmp 99)], type := 26, pos := "law.go:223", after := #[{ on := 13, ground := Ground.data }, { on := 10, ground := Ground.guard }], guard := some (10, false) } : Oper) := by kernel_rfl
  have e99 : c.eval (.tmp 99) = .slice la ll lc := fact_at (p := eqv (.slice la ll lc)) (by kernel_rfl) rfl (hF 13 (by decide))
  have hg : val RQ13 c 10 = .bool false := hF 10 (by decide)
  have hw := weQ13 ho rfl hg
  have ec : ∀ v, c.eval (.const v) = v := fun _ => rfl
  have ef : ∀ f, c.eval (.func f) = .func (.func f) #[] #[] := fun _ => rfl
  refine does_value ho hw (v := .agg #[.int .i64 4, .bool false, .int .i64 0, .string ⟨#[]⟩, .slice none 0 0, .slice la ll lc]) ?_ rfl (Below.refl _ _)
  generalize c.eval = ρ at *
  clear hF hb hW hw ho hg
  go_simp
set_option maxRecDepth 10000 in
theorem oQ13_15 : stepQ13 bx bm bw bl kg kl kcap kc lg ll lcap lc ka la en m0 m1 m2 m3 m4 m5 v0 v1 v2 v3 v4 v5 x0 x1 x2 x3 x4 x5 Q 15 := by
  intro c w hb hW hF
  have ho : RQ13[15]? = some ({ dst := some 101, op := Op.call { callee := Callee.value (Operand.func 27), args := #[Operand.tmp 97, Operand.tmp 100], argTypes := #[26, 26] }, type := 4, pos := "law.go:223", after := #[{ on := 11, ground := Ground.data }, { on := 14, ground := Ground.data }, { on := 10, ground := Ground.chain }, { on := 10, ground := Ground.guard }], guard := some (10, false) } : Oper) := by kernel_rfl
  have e97 : c.eval (.tmp 97) = .agg #[x0, x1, x2, x3, x4, x5] := fact_at (p := eqv (.agg #[x0, x1, x2, x3, x4, x5])) (by kernel_rfl) rfl (hF 11 (by decide))
  have e100 : c.eval (.tmp 100) = .agg #[.int .i64 4, .bool false, .int .i64 0, .string ⟨#[]⟩, .slice none 0 0, .slice la ll lc] := fact_at (p := eqv (.agg #[.int .i64 4, .bool false, .int .i64 0, .string ⟨#[]⟩, .slice none 0 0, .slice la ll lc])) (by kernel_rfl) rfl (hF 14 (by decide))
  have hg : val RQ13 c 10 = .bool false := hF 10 (by decide)
  have hw := weQ13 ho rfl hg
  have ec : ∀ v, c.eval (.const v) = v := fun _ => rfl
  have ef : ∀ f, c.eval (.func f) = .func (.func f) #[] #[] := fun _ => rfl
  refine does_call ho hw (f := 27) (args := #[.agg #[x0, x1, x2, x3, x4, x5], .agg #[.int .i64 4, .bool false, .int .i64 0, .string ⟨#[]⟩, .slice none 0 0, .slice la ll lc]]) ?_ (Calls.mono (hW.k3) fun e w' ⟨h1, h2⟩ => ⟨_, h1, rfl, h2⟩)
  generalize c.eval = ρ at *
  clear hF hb hW hw ho hg
  go_simp
set_option maxRecDepth 10000 in
theorem oQ13_16 : stepQ13 bx bm bw bl kg kl kcap kc lg ll lcap lc ka la en m0 m1 m2 m3 m4 m5 v0 v1 v2 v3 v4 v5 x0 x1 x2 x3 x4 x5 Q 16 := by
  intro c w hb hW hF
  have ho : RQ13[16]? = some ({ dst := some 102, op := Op.unOp UnOp.not 4 (Operand.tmp 101), type := 4, pos := "law.go:223", after := #[{ on := 15, ground := Ground.data }, { on := 10, ground := Ground.guard }], guard := some (10, false) } : Oper) := by kernel_rfl
  have e101 : c.eval (.tmp 101) = .bool true := fact_at (p := eqv (.bool true)) (by kernel_rfl) rfl (hF 15 (by decide))
  have hg : val RQ13 c 10 = .bool false := hF 10 (by decide)
  have hw := weQ13 ho rfl hg
  have ec : ∀ v, c.eval (.const v) = v := fun _ => rfl
  have ef : ∀ f, c.eval (.func f) = .func (.func f) #[] #[] := fun _ => rfl
  refine does_value ho hw (v := .bool false) ?_ rfl (Below.refl _ _)
  generalize c.eval = ρ at *
  clear hF hb hW hw ho hg
  go_simp
set_option maxRecDepth 10000 in
theorem oQ13_17 : stepQ13 bx bm bw bl kg kl kcap kc lg ll lcap lc ka la en m0 m1 m2 m3 m4 m5 v0 v1 v2 v3 v4 v5 x0 x1 x2 x3 x4 x5 Q 17 := by
  intro c w hb hW hF
  have ho : RQ13[17]? = some ({ dst := some 103, op := Op.pick (Operand.tmp 96) (Operand.const (Value.bool true)) (Operand.tmp 102), type := 4, pos := "law.go:223", after := #[{ on := 10, ground := Ground.data }, { on := 16, ground := Ground.data }], guard := none } : Oper) := by kernel_rfl
  have e96 : c.eval (.tmp 96) = .bool false := fact_at (p := eqv (.bool false)) (by kernel_rfl) rfl (hF 10 (by decide))
  have e102 : c.eval (.tmp 102) = .bool false := fact_at (p := eqv (.bool false)) (by kernel_rfl) rfl (hF 16 (by decide))
  have hw := wnQ13 (c := c) ho rfl
  have ec : ∀ v, c.eval (.const v) = v := fun _ => rfl
  have ef : ∀ f, c.eval (.func f) = .func (.func f) #[] #[] := fun _ => rfl
  refine does_value ho hw (v := .bool false) ?_ rfl (Below.refl _ _)
  generalize c.eval = ρ at *
  clear hF hb hW hw ho
  go_simp
set_option maxRecDepth 10000 in
theorem oQ13_18 : stepQ13 bx bm bw bl kg kl kcap kc lg ll lcap lc ka la en m0 m1 m2 m3 m4 m5 v0 v1 v2 v3 v4 v5 x0 x1 x2 x3 x4 x5 Q 18 := by
  intro c w hb hW hF
  have ho : RQ13[18]? = some ({ dst := some 104, op := Op.move (Operand.tmp 103), type := 4, pos := "law.go:223", after := #[{ on := 17, ground := Ground.data }, { on := 15, ground := Ground.chain }], guard := none } : Oper) := by kernel_rfl
  have e103 : c.eval (.tmp 103) = .bool false := fact_at (p := eqv (.bool false)) (by kernel_rfl) rfl (hF 17 (by decide))
  have hw := wnQ13 (c := c) ho rfl
  have ec : ∀ v, c.eval (.const v) = v := fun _ => rfl
  have ef : ∀ f, c.eval (.func f) = .func (.func f) #[] #[] := fun _ => rfl
  refine does_value ho hw (v := .bool false) ?_ rfl (Below.refl _ _)
  generalize c.eval = ρ at *
  clear hF hb hW hw ho
  go_simp
set_option maxRecDepth 10000 in
theorem oQ13_19 : stepQ13 bx bm bw bl kg kl kcap kc lg ll lcap lc ka la en m0 m1 m2 m3 m4 m5 v0 v1 v2 v3 v4 v5 x0 x1 x2 x3 x4 x5 Q 19 := by
  intro c w hb hW hF
  have ho : RQ13[19]? = some ({ dst := some 105, op := Op.move (Operand.tmp 3), type := 23, pos := "law.go:223", after := #[{ on := 18, ground := Ground.guard }], guard := some (18, false) } : Oper) := by kernel_rfl
  have e3 := hb.t3
  have hg : val RQ13 c 18 = .bool false := hF 18 (by decide)
  have hw := weQ13 ho rfl hg
  have ec : ∀ v, c.eval (.const v) = v := fun _ => rfl
  have ef : ∀ f, c.eval (.func f) = .func (.func f) #[] #[] := fun _ => rfl
  refine does_value ho hw (v := .slice (some ⟨kg, 0, none⟩) kl kcap) ?_ rfl (Below.refl _ _)
  generalize c.eval = ρ at *
  clear hF hb hW hw ho hg
  go_simp
set_option maxRecDepth 10000 in
theorem oQ13_20 : stepQ13 bx bm bw bl kg kl kcap kc lg ll lcap lc ka la en m0 m1 m2 m3 m4 m5 v0 v1 v2 v3 v4 v5 x0 x1 x2 x3 x4 x5 Q 20 := by
  intro c w hb hW hF
  have ho : RQ13[20]? = some ({ dst := some 106, op := Op.fieldAddr 56 (Operand.tmp 1) 3, type := 0, pos := "law.go:223", after := #[{ on := 18, ground := Ground.guard }], guard := some (18, false) } : Oper) := by kernel_rfl
  have e1 := hb.t1
  have hg : val RQ13 c 18 = .bool false := hF 18 (by decide)
  have hw := weQ13 ho rfl hg
  have ec : ∀ v, c.eval (.const v) = v := fun _ => rfl
  have ef : ∀ f, c.eval (.func f) = .func (.func f) #[] #[] := fun _ => rfl
  refine does_value ho hw (v := .pointer (some ⟨bx, 3, none⟩)) ?_ rfl (Below.refl _ _)
  generalize c.eval = ρ at *
  clear hF hb hW hw ho hg
  go_simp
set_option maxRecDepth 10000 in
theorem oQ13_21 : stepQ13 bx bm bw bl kg kl kcap kc lg ll lcap lc ka la en m0 m1 m2 m3 m4 m5 v0 v1 v2 v3 v4 v5 x0 x1 x2 x3 x4 x5 Q 21 := by
  intro c w hb hW hF
  have ho : RQ13[21]? = some ({ dst := some 107, op := Op.load 23 (Operand.tmp 106), type := 23, pos := "law.go:223", after := #[{ on := 20, ground := Ground.data }, { on := 18, ground := Ground.guard }], guard := some (18, false) } : Oper) := by kernel_rfl
  have e106 : c.eval (.tmp 106) = .pointer (some ⟨bx, 3, none⟩) := fact_at (p := eqv (.pointer (some ⟨bx, 3, none⟩))) (by kernel_rfl) rfl (hF 20 (by decide))
  have hg : val RQ13 c 18 = .bool false := hF 18 (by decide)
  have hw := weQ13 ho rfl hg
  have ec : ∀ v, c.eval (.const v) = v := fun _ => rfl
  have ef : ∀ f, c.eval (.func f) = .func (.func f) #[] #[] := fun _ => rfl
  have c3 := hW.c3
  refine does_value ho hw (v := .slice ka kl kc) ?_ rfl (Below.refl _ _)
  generalize c.eval = ρ at *
  clear hF hb hW hw ho hg
  go_simp
set_option maxRecDepth 10000 in
theorem oQ13_22 : stepQ13 bx bm bw bl kg kl kcap kc lg ll lcap lc ka la en m0 m1 m2 m3 m4 m5 v0 v1 v2 v3 v4 v5 x0 x1 x2 x3 x4 x5 Q 22 := by
  intro c w hb hW hF
  have ho : RQ13[22]? = some ({ dst := some 108, op := Op.call { callee := Callee.builtin Builtin.len, args := #[Operand.tmp 107], argTypes := #[23] }, type := 3, pos := "law.go:223", after := #[{ on := 21, ground := Ground.data }, { on := 18, ground := Ground.guard }], guard := some (18, false) } : Oper) := by kernel_rfl
  have e107 : c.eval (.tmp 107) = .slice ka kl kc := fact_at (p := eqv (.slice ka kl kc)) (by kernel_rfl) rfl (hF 21 (by decide))
  have hg : val RQ13 c 18 = .bool false := hF 18 (by decide)
  have hw := weQ13 ho rfl hg
  have ec : ∀ v, c.eval (.const v) = v := fun _ => rfl
  have ef : ∀ f, c.eval (.func f) = .func (.func f) #[] #[] := fun _ => rfl
  refine does_value ho hw (v := .int .i64 (kl : Int)) ?_ rfl (Below.refl _ _)
  generalize c.eval = ρ at *
  clear hF hb hW hw ho hg
  go_simp
set_option maxRecDepth 10000 in
theorem oQ13_23 : stepQ13 bx bm bw bl kg kl kcap kc lg ll lcap lc ka la en m0 m1 m2 m3 m4 m5 v0 v1 v2 v3 v4 v5 x0 x1 x2 x3 x4 x5 Q 23 := by
  intro c w hb hW hF
  have ho : RQ13[23]? = some ({ dst := some 109, op := Op.binOp BinOp.add 3 (Operand.tmp 108) (Operand.const (Value.int IntKind.i64 1)) 3, type := 3, pos := "law.go:223", after := #[{ on := 22, ground := Ground.data }, { on := 18, ground := Ground.guard }], guard := some (18, false) } : Oper) := by kernel_rfl
  have e108 : c.eval (.tmp 108) = .int .i64 (kl : Int) := fact_at (p := eqv (.int .i64 (kl : Int))) (by kernel_rfl) rfl (hF 22 (by decide))
  have hg : val RQ13 c 18 = .bool false := hF 18 (by decide)
  have hw := weQ13 ho rfl hg
  have ec : ∀ v, c.eval (.const v) = v := fun _ => rfl
  have ef : ∀ f, c.eval (.func f) = .func (.func f) #[] #[] := fun _ => rfl
  have hk2 := hW.hk2
  refine does_value ho hw (v := .int .i64 ((kl + 1 : Nat) : Int)) ?_ rfl (Below.refl _ _)
  generalize c.eval = ρ at *
  clear hF hb hW hw ho hg
  go_simp
  simp [IntKind.wrap, IntKind.bits, IntKind.signed]
  omega
set_option maxRecDepth 10000 in
theorem oQ13_24 : stepQ13 bx bm bw bl kg kl kcap kc lg ll lcap lc ka la en m0 m1 m2 m3 m4 m5 v0 v1 v2 v3 v4 v5 x0 x1 x2 x3 x4 x5 Q 24 := by
  intro c w hb hW hF
  have ho : RQ13[24]? = some ({ dst := some 110, op := Op.slice 23 (Operand.tmp 105) none (some (Operand.tmp 109)) none, type := 23, pos := "law.go:223", after := #[{ on := 19, ground := Ground.data }, { on := 23, ground := Ground.data }, { on := 18, ground := Ground.guard }], guard := some (18, false) } : Oper) := by kernel_rfl
  have e105 : c.eval (.tmp 105) = .slice (some ⟨kg, 0, none⟩) kl kcap := fact_at (p := eqv (.slice (some ⟨kg, 0, none⟩) kl kcap)) (by kernel_rfl) rfl (hF 19 (by decide))
  have e109 : c.eval (.tmp 109) = .int .i64 ((kl + 1 : Nat) : Int) := fact_at (p := eqv (.int .i64 ((kl + 1 : Nat) : Int))) (by kernel_rfl) rfl (hF 23 (by decide))
  have hg : val RQ13 c 18 = .bool false := hF 18 (by decide)
  have hw := weQ13 ho rfl hg
  have ec : ∀ v, c.eval (.const v) = v := fun _ => rfl
  have ef : ∀ f, c.eval (.func f) = .func (.func f) #[] #[] := fun _ => rfl
  have hk := hW.hk
  refine does_value ho hw (v := .slice (some ⟨kg, 0, none⟩) (kl + 1) kcap) ?_ rfl (Below.refl _ _)
  generalize c.eval = ρ at *
  clear hF hb hW hw ho hg
  go_simp
  intro h; omega
set_option maxRecDepth 10000 in
theorem oQ13_25 : stepQ13 bx bm bw bl kg kl kcap kc lg ll lcap lc ka la en m0 m1 m2 m3 m4 m5 v0 v1 v2 v3 v4 v5 x0 x1 x2 x3 x4 x5 Q 25 := by
  intro c w hb hW hF
  have ho : RQ13[25]? = some ({ dst := some 111, op := Op.fieldAddr 56 (Operand.tmp 1) 3, type := 0, pos := "law.go:223", after := #[{ on := 18, ground := Ground.guard }], guard := some (18, false) } : Oper) := by kernel_rfl
  have e1 := hb.t1
  have hg : val RQ13 c 18 = .bool false := hF 18 (by decide)
  have hw := weQ13 ho rfl hg
  have ec : ∀ v, c.eval (.const v) = v := fun _ => rfl
  have ef : ∀ f, c.eval (.func f) = .func (.func f) #[] #[] := fun _ => rfl
  refine does_value ho hw (v := .pointer (some ⟨bx, 3, none⟩)) ?_ rfl (Below.refl _ _)
  generalize c.eval = ρ at *
  clear hF hb hW hw ho hg
  go_simp
set_option maxRecDepth 10000 in
theorem oQ13_26 : stepQ13 bx bm bw bl kg kl kcap kc lg ll lcap lc ka la en m0 m1 m2 m3 m4 m5 v0 v1 v2 v3 v4 v5 x0 x1 x2 x3 x4 x5 Q 26 := by
  intro c w hb hW hF
  have ho : RQ13[26]? = some ({ dst := some 112, op := Op.load 23 (Operand.tmp 111), type := 23, pos := "law.go:223", after := #[{ on := 25, ground := Ground.data }, { on := 18, ground := Ground.guard }], guard := some (18, false) } : Oper) := by kernel_rfl
  have e111 : c.eval (.tmp 111) = .pointer (some ⟨bx, 3, none⟩) := fact_at (p := eqv (.pointer (some ⟨bx, 3, none⟩))) (by kernel_rfl) rfl (hF 25 (by decide))
  have hg : val RQ13 c 18 = .bool false := hF 18 (by decide)
  have hw := weQ13 ho rfl hg
  have ec : ∀ v, c.eval (.const v) = v := fun _ => rfl
  have ef : ∀ f, c.eval (.func f) = .func (.func f) #[] #[] := fun _ => rfl
  have c3 := hW.c3
  refine does_value ho hw (v := .slice ka kl kc) ?_ rfl (Below.refl _ _)
  generalize c.eval = ρ at *
  clear hF hb hW hw ho hg
  go_simp
set_option maxRecDepth 10000 in
theorem oQ13_27 : stepQ13 bx bm bw bl kg kl kcap kc lg ll lcap lc ka la en m0 m1 m2 m3 m4 m5 v0 v1 v2 v3 v4 v5 x0 x1 x2 x3 x4 x5 Q 27 := by
  intro c w hb hW hF
  have ho : RQ13[27]? = some ({ dst := some 113, op := Op.call { callee := Callee.builtin Builtin.len, args := #[Operand.tmp 112], argTypes := #[23] }, type := 3, pos := "law.go:223", after := #[{ on := 26, ground := Ground.data }, { on := 18, ground := Ground.guard }], guard := some (18, false) } : Oper) := by kernel_rfl
  have e112 : c.eval (.tmp 112) = .slice ka kl kc := fact_at (p := eqv (.slice ka kl kc)) (by kernel_rfl) rfl (hF 26 (by decide))
  have hg : val RQ13 c 18 = .bool false := hF 18 (by decide)
  have hw := weQ13 ho rfl hg
  have ec : ∀ v, c.eval (.const v) = v := fun _ => rfl
  have ef : ∀ f, c.eval (.func f) = .func (.func f) #[] #[] := fun _ => rfl
  refine does_value ho hw (v := .int .i64 (kl : Int)) ?_ rfl (Below.refl _ _)
  generalize c.eval = ρ at *
  clear hF hb hW hw ho hg
  go_simp
set_option maxRecDepth 10000 in
theorem oQ13_28 : stepQ13 bx bm bw bl kg kl kcap kc lg ll lcap lc ka la en m0 m1 m2 m3 m4 m5 v0 v1 v2 v3 v4 v5 x0 x1 x2 x3 x4 x5 Q 28 := by
  intro c w hb hW hF
  have ho : RQ13[28]? = some ({ dst := some 114, op := Op.indexAddr 23 (Operand.tmp 110) (Operand.tmp 113), type := 0, pos := "law.go:223", after := #[{ on := 24, ground := Ground.data }, { on := 27, ground := Ground.data }, { on := 18, ground := Ground.guard }], guard := some (18, false) } : Oper) := by kernel_rfl
  have e110 : c.eval (.tmp 110) = .slice (some ⟨kg, 0, none⟩) (kl + 1) kcap := fact_at (p := eqv (.slice (some ⟨kg, 0, none⟩) (kl + 1) kcap)) (by kernel_rfl) rfl (hF 24 (by decide))
  have e113 : c.eval (.tmp 113) = .int .i64 (kl : Int) := fact_at (p := eqv (.int .i64 (kl : Int))) (by kernel_rfl) rfl (hF 27 (by decide))
  have hg : val RQ13 c 18 = .bool false := hF 18 (by decide)
  have hw := weQ13 ho rfl hg
  have ec : ∀ v, c.eval (.const v) = v := fun _ => rfl
  have ef : ∀ f, c.eval (.func f) = .func (.func f) #[] #[] := fun _ => rfl
  refine does_value ho hw (v := .pointer (some ⟨kg, kl, none⟩)) ?_ rfl (Below.refl _ _)
  generalize c.eval = ρ at *
  clear hF hb hW hw ho hg
  go_simp
  intro h; omega
set_option maxRecDepth 10000 in
theorem oQ13_29 : stepQ13 bx bm bw bl kg kl kcap kc lg ll lcap lc ka la en m0 m1 m2 m3 m4 m5 v0 v1 v2 v3 v4 v5 x0 x1 x2 x3 x4 x5 Q 29 := by
  intro c w hb hW hF
  have ho : RQ13[29]? = some ({ dst := some 115, op := Op.load 9 (Operand.tmp 114), type := 9, pos := "law.go:223", after := #[{ on := 28, ground := Ground.data }, { on := 18, ground := Ground.guard }], guard := some (18, false) } : Oper) := by kernel_rfl
  have e114 : c.eval (.tmp 114) = .pointer (some ⟨kg, kl, none⟩) := fact_at (p := eqv (.pointer (some ⟨kg, kl, none⟩))) (by kernel_rfl) rfl (hF 28 (by decide))
  have hg : val RQ13 c 18 = .bool false := hF 18 (by decide)
  have hw := weQ13 ho rfl hg
  have ec : ∀ v, c.eval (.const v) = v := fun _ => rfl
  have ef : ∀ f, c.eval (.func f) = .func (.func f) #[] #[] := fun _ => rfl
  have csp := hW.csp
  refine does_value ho hw (v := .string spareB) ?_ rfl (Below.refl _ _)
  generalize c.eval = ρ at *
  clear hF hb hW hw ho hg
  go_simp
set_option maxRecDepth 10000 in
theorem oQ13_30 : stepQ13 bx bm bw bl kg kl kcap kc lg ll lcap lc ka la en m0 m1 m2 m3 m4 m5 v0 v1 v2 v3 v4 v5 x0 x1 x2 x3 x4 x5 Q 30 := by
  intro c w hb hW hF
  have ho : RQ13[30]? = some ({ dst := some 116, op := Op.binOp BinOp.neq 9 (Operand.tmp 115) (Operand.const (Value.string { data := #[115, 112, 97, 114, 101] })) 9, type := 4, pos := "law.go:223", after := #[{ on := 29, ground := Ground.data }, { on := 18, ground := Ground.guard }], guard := some (18, false) } : Oper) := by kernel_rfl
  have e115 : c.eval (.tmp 115) = .string spareB := fact_at (p := eqv (.string spareB)) (by kernel_rfl) rfl (hF 29 (by decide))
  have hg : val RQ13 c 18 = .bool false := hF 18 (by decide)
  have hw := weQ13 ho rfl hg
  have ec : ∀ v, c.eval (.const v) = v := fun _ => rfl
  have ef : ∀ f, c.eval (.func f) = .func (.func f) #[] #[] := fun _ => rfl
  unfold spareB at *
  refine does_value ho hw (v := .bool false) ?_ rfl (Below.refl _ _)
  generalize c.eval = ρ at *
  clear hF hb hW hw ho hg
  go_simp
set_option maxRecDepth 10000 in
theorem oQ13_31 : stepQ13 bx bm bw bl kg kl kcap kc lg ll lcap lc ka la en m0 m1 m2 m3 m4 m5 v0 v1 v2 v3 v4 v5 x0 x1 x2 x3 x4 x5 Q 31 := by
  intro c w hb hW hF
  have ho : RQ13[31]? = some ({ dst := some 117, op := Op.pick (Operand.tmp 104) (Operand.const (Value.bool true)) (Operand.tmp 116), type := 4, pos := "law.go:223", after := #[{ on := 18, ground := Ground.data }, { on := 30, ground := Ground.data }], guard := none } : Oper) := by kernel_rfl
  have e104 : c.eval (.tmp 104) = .bool false := fact_at (p := eqv (.bool false)) (by kernel_rfl) rfl (hF 18 (by decide))
  have e116 : c.eval (.tmp 116) = .bool false := fact_at (p := eqv (.bool false)) (by kernel_rfl) rfl (hF 30 (by decide))
  have hw := wnQ13 (c := c) ho rfl
  have ec : ∀ v, c.eval (.const v) = v := fun _ => rfl
  have ef : ∀ f, c.eval (.func f) = .func (.func f) #[] #[] := fun _ => rfl
  refine does_value ho hw (v := .bool false) ?_ rfl (Below.refl _ _)
  generalize c.eval = ρ at *
  clear hF hb hW hw ho
  go_simp
set_option maxRecDepth 10000 in
theorem oQ13_32 : stepQ13 bx bm bw bl kg kl kcap kc lg ll lcap lc ka la en m0 m1 m2 m3 m4 m5 v0 v1 v2 v3 v4 v5 x0 x1 x2 x3 x4 x5 Q 32 := by
  intro c w hb hW hF
  have ho : RQ13[32]? = some ({ dst := some 118, op := Op.move (Operand.tmp 117), type := 4, pos := "law.go:223", after := #[{ on := 31, ground := Ground.data }, { on := 18, ground := Ground.chain }], guard := none } : Oper) := by kernel_rfl
  have e117 : c.eval (.tmp 117) = .bool false := fact_at (p := eqv (.bool false)) (by kernel_rfl) rfl (hF 31 (by decide))
  have hw := wnQ13 (c := c) ho rfl
  have ec : ∀ v, c.eval (.const v) = v := fun _ => rfl
  have ef : ∀ f, c.eval (.func f) = .func (.func f) #[] #[] := fun _ => rfl
  refine does_value ho hw (v := .bool false) ?_ rfl (Below.refl _ _)
  generalize c.eval = ρ at *
  clear hF hb hW hw ho
  go_simp
set_option maxRecDepth 10000 in
theorem oQ13_33 : stepQ13 bx bm bw bl kg kl kcap kc lg ll lcap lc ka la en m0 m1 m2 m3 m4 m5 v0 v1 v2 v3 v4 v5 x0 x1 x2 x3 x4 x5 Q 33 := by
  intro c w hb hW hF
  have ho : RQ13[33]? = some ({ dst := some 119, op := Op.move (Operand.tmp 4), type := 24, pos := "law.go:223", after := #[{ on := 32, ground := Ground.guard }], guard := some (32, false) } : Oper) := by kernel_rfl
  have e4 := hb.t4
  have hg : val RQ13 c 32 = .bool false := hF 32 (by decide)
  have hw := weQ13 ho rfl hg
  have ec : ∀ v, c.eval (.const v) = v := fun _ => rfl
  have ef : ∀ f, c.eval (.func f) = .func (.func f) #[] #[] := fun _ => rfl
  refine does_value ho hw (v := .slice (some ⟨lg, 0, none⟩) ll lcap) ?_ rfl (Below.refl _ _)
  generalize c.eval = ρ at *
  clear hF hb hW hw ho hg
  go_simp
set_option maxRecDepth 10000 in
theorem oQ13_34 : stepQ13 bx bm bw bl kg kl kcap kc lg ll lcap lc ka la en m0 m1 m2 m3 m4 m5 v0 v1 v2 v3 v4 v5 x0 x1 x2 x3 x4 x5 Q 34 := by
  intro c w hb hW hF
  have ho : RQ13[34]? = some ({ dst := some 120, op := Op.fieldAddr 56 (Operand.tmp 1) 4, type := 0, pos := "law.go:223", after := #[{ on := 32, ground := Ground.guard }], guard := some (32, false) } : Oper) := by kernel_rfl
  have e1 := hb.t1
  have hg : val RQ13 c 32 = .bool false := hF 32 (by decide)
  have hw := weQ13 ho rfl hg
  have ec : ∀ v, c.eval (.const v) = v := fun _ => rfl
  have ef : ∀ f, c.eval (.func f) = .func (.func f) #[] #[] := fun _ => rfl
  refine does_value ho hw (v := .pointer (some ⟨bx, 4, none⟩)) ?_ rfl (Below.refl _ _)
  generalize c.eval = ρ at *
  clear hF hb hW hw ho hg
  go_simp
set_option maxRecDepth 10000 in
theorem oQ13_35 : stepQ13 bx bm bw bl kg kl kcap kc lg ll lcap lc ka la en m0 m1 m2 m3 m4 m5 v0 v1 v2 v3 v4 v5 x0 x1 x2 x3 x4 x5 Q 35 := by
  intro c w hb hW hF
  have ho : RQ13[35]? = some ({ dst := some 121, op := Op.load 24 (Operand.tmp 120), type := 24, pos := "law.go:223", after := #[{ on := 34, ground := Ground.data }, { on := 32, ground := Ground.guard }], guard := some (32, false) } : Oper) := by kernel_rfl
  have e120 : c.eval (.tmp 120) = .pointer (some ⟨bx, 4, none⟩) := fact_at (p := eqv (.pointer (some ⟨bx, 4, none⟩))) (by kernel_rfl) rfl (hF 34 (by decide))
  have hg : val RQ13 c 32 = .bool false := hF 32 (by decide)
  have hw := weQ13 ho rfl hg
  have ec : ∀ v, c.eval (.const v) = v := fun _ => rfl
  have ef : ∀ f, c.eval (.func f) = .func (.func f) #[] #[] := fun _ => rfl
  have c4 := hW.c4
  refine does_value ho hw (v := .slice la ll lc) ?_ rfl (Below.refl _ _)
  generalize c.eval = ρ at *
  clear hF hb hW hw ho hg
  go_simp
set_option maxRecDepth 10000 in
theorem oQ13_36 : stepQ13 bx bm bw bl kg kl kcap kc lg ll lcap lc ka la en m0 m1 m2 m3 m4 m5 v0 v1 v2 v3 v4 v5 x0 x1 x2 x3 x4 x5 Q 36 := by
  intro c w hb hW hF
  have ho : RQ13[36]? = some ({ dst := some 122, op := Op.call { callee := Callee.builtin Builtin.len, args := #[Operand.tmp 121], argTypes := #[24] }, type := 3, pos := "law.go:223", after := #[{ on := 35, ground := Ground.data }, { on := 32, ground := Ground.guard }], guard := some (32, false) } : Oper) := by kernel_rfl
  have e121 : c.eval (.tmp 121) = .slice la ll lc := fact_at (p := eqv (.slice la ll lc)) (by kernel_rfl) rfl (hF 35 (by decide))
  have hg : val RQ13 c 32 = .bool false := hF 32 (by decide)
  have hw := weQ13 ho rfl hg
  have ec : ∀ v, c.eval (.const v) = v := fun _ => rfl
  have ef : ∀ f, c.eval (.func f) = .func (.func f) #[] #[] := fun _ => rfl
  refine does_value ho hw (v := .int .i64 (ll : Int)) ?_ rfl (Below.refl _ _)
  generalize c.eval = ρ at *
  clear hF hb hW hw ho hg
  go_simp
set_option maxRecDepth 10000 in
theorem oQ13_37 : stepQ13 bx bm bw bl kg kl kcap kc lg ll lcap lc ka la en m0 m1 m2 m3 m4 m5 v0 v1 v2 v3 v4 v5 x0 x1 x2 x3 x4 x5 Q 37 := by
  intro c w hb hW hF
  have ho : RQ13[37]? = some ({ dst := some 123, op := Op.binOp BinOp.add 3 (Operand.tmp 122) (Operand.const (Value.int IntKind.i64 1)) 3, type := 3, pos := "law.go:223", after := #[{ on := 36, ground := Ground.data }, { on := 32, ground := Ground.guard }], guard := some (32, false) } : Oper) := by kernel_rfl
  have e122 : c.eval (.tmp 122) = .int .i64 (ll : Int) := fact_at (p := eqv (.int .i64 (ll : Int))) (by kernel_rfl) rfl (hF 36 (by decide))
  have hg : val RQ13 c 32 = .bool false := hF 32 (by decide)
  have hw := weQ13 ho rfl hg
  have ec : ∀ v, c.eval (.const v) = v := fun _ => rfl
  have ef : ∀ f, c.eval (.func f) = .func (.func f) #[] #[] := fun _ => rfl
  have hl2 := hW.hl2
  refine does_value ho hw (v := .int .i64 ((ll + 1 : Nat) : Int)) ?_ rfl (Below.refl _ _)
  generalize c.eval = ρ at *
  clear hF hb hW hw ho hg
  go_simp
  simp [IntKind.wrap, IntKind.bits, IntKind.signed]
  omega
set_option maxRecDepth 10000 in
theorem oQ13_38 : stepQ13 bx bm bw bl kg kl kcap kc lg ll lcap lc ka la en m0 m1 m2 m3 m4 m5 v0 v1 v2 v3 v4 v5 x0 x1 x2 x3 x4 x5 Q 38 := by
  intro c w hb hW hF
  have ho : RQ13[38]? = some ({ dst := some 124, op := Op.slice 24 (Operand.tmp 119) none (some (Operand.tmp 123)) none, type := 24, pos := "law.go:223", after := #[{ on := 33, ground := Ground.data }, { on := 37, ground := Ground.data }, { on := 32, ground := Ground.guard }], guard := some (32, false) } : Oper) := by kernel_rfl
  have e119 : c.eval (.tmp 119) = .slice (some ⟨lg, 0, none⟩) ll lcap := fact_at (p := eqv (.slice (some ⟨lg, 0, none⟩) ll lcap)) (by kernel_rfl) rfl (hF 33 (by decide))
  have e123 : c.eval (.tmp 123) = .int .i64 ((ll + 1 : Nat) : Int) := fact_at (p := eqv (.int .i64 ((ll + 1 : Nat) : Int))) (by kernel_rfl) rfl (hF 37 (by decide))
  have hg : val RQ13 c 32 = .bool false := hF 32 (by decide)
  have hw := weQ13 ho rfl hg
  have ec : ∀ v, c.eval (.const v) = v := fun _ => rfl
  have ef : ∀ f, c.eval (.func f) = .func (.func f) #[] #[] := fun _ => rfl
  have hl := hW.hl
  refine does_value ho hw (v := .slice (some ⟨lg, 0, none⟩) (ll + 1) lcap) ?_ rfl (Below.refl _ _)
  generalize c.eval = ρ at *
  clear hF hb hW hw ho hg
  go_simp
  intro h; omega
set_option maxRecDepth 10000 in
theorem oQ13_39 : stepQ13 bx bm bw bl kg kl kcap kc lg ll lcap lc ka la en m0 m1 m2 m3 m4 m5 v0 v1 v2 v3 v4 v5 x0 x1 x2 x3 x4 x5 Q 39 := by
  intro c w hb hW hF
  have ho : RQ13[39]? = some ({ dst := some 125, op := Op.fieldAddr 56 (Operand.tmp 1) 4, type := 0, pos := "law.go:223", after := #[{ on := 32, ground := Ground.guard }], guard := some (32, false) } : Oper) := by kernel_rfl
  have e1 := hb.t1
  have hg : val RQ13 c 32 = .bool false := hF 32 (by decide)
  have hw := weQ13 ho rfl hg
  have ec : ∀ v, c.eval (.const v) = v := fun _ => rfl
  have ef : ∀ f, c.eval (.func f) = .func (.func f) #[] #[] := fun _ => rfl
  refine does_value ho hw (v := .pointer (some ⟨bx, 4, none⟩)) ?_ rfl (Below.refl _ _)
  generalize c.eval = ρ at *
  clear hF hb hW hw ho hg
  go_simp
set_option maxRecDepth 10000 in
theorem oQ13_40 : stepQ13 bx bm bw bl kg kl kcap kc lg ll lcap lc ka la en m0 m1 m2 m3 m4 m5 v0 v1 v2 v3 v4 v5 x0 x1 x2 x3 x4 x5 Q 40 := by
  intro c w hb hW hF
  have ho : RQ13[40]? = some ({ dst := some 126, op := Op.load 24 (Operand.tmp 125), type := 24, pos := "law.go:223", after := #[{ on := 39, ground := Ground.data }, { on := 32, ground := Ground.guard }], guard := some (32, false) } : Oper) := by kernel_rfl
  have e125 : c.eval (.tmp 125) = .pointer (some ⟨bx, 4, none⟩) := fact_at (p := eqv (.pointer (some ⟨bx, 4, none⟩))) (by kernel_rfl) rfl (hF 39 (by decide))
  have hg : val RQ13 c 32 = .bool false := hF 32 (by decide)
  have hw := weQ13 ho rfl hg
  have ec : ∀ v, c.eval (.const v) = v := fun _ => rfl
  have ef : ∀ f, c.eval (.func f) = .func (.func f) #[] #[] := fun _ => rfl
  have c4 := hW.c4
  refine does_value ho hw (v := .slice la ll lc) ?_ rfl (Below.refl _ _)
  generalize c.eval = ρ at *
  clear hF hb hW hw ho hg
  go_simp
set_option maxRecDepth 10000 in
theorem oQ13_41 : stepQ13 bx bm bw bl kg kl kcap kc lg ll lcap lc ka la en m0 m1 m2 m3 m4 m5 v0 v1 v2 v3 v4 v5 x0 x1 x2 x3 x4 x5 Q 41 := by
  intro c w hb hW hF
  have ho : RQ13[41]? = some ({ dst := some 127, op := Op.call { callee := Callee.builtin Builtin.len, args := #[Operand.tmp 126], argTypes := #[24] }, type := 3, pos := "law.go:223", after := #[{ on := 40, ground := Ground.data }, { on := 32, ground := Ground.guard }], guard := some (32, false) } : Oper) := by kernel_rfl
  have e126 : c.eval (.tmp 126) = .slice la ll lc := fact_at (p := eqv (.slice la ll lc)) (by kernel_rfl) rfl (hF 40 (by decide))
  have hg : val RQ13 c 32 = .bool false := hF 32 (by decide)
  have hw := weQ13 ho rfl hg
  have ec : ∀ v, c.eval (.const v) = v := fun _ => rfl
  have ef : ∀ f, c.eval (.func f) = .func (.func f) #[] #[] := fun _ => rfl
  refine does_value ho hw (v := .int .i64 (ll : Int)) ?_ rfl (Below.refl _ _)
  generalize c.eval = ρ at *
  clear hF hb hW hw ho hg
  go_simp
set_option maxRecDepth 10000 in
theorem oQ13_42 : stepQ13 bx bm bw bl kg kl kcap kc lg ll lcap lc ka la en m0 m1 m2 m3 m4 m5 v0 v1 v2 v3 v4 v5 x0 x1 x2 x3 x4 x5 Q 42 := by
  intro c w hb hW hF
  have ho : RQ13[42]? = some ({ dst := some 128, op := Op.indexAddr 24 (Operand.tmp 124) (Operand.tmp 127), type := 0, pos := "law.go:223", after := #[{ on := 38, ground := Ground.data }, { on := 41, ground := Ground.data }, { on := 32, ground := Ground.guard }], guard := some (32, false) } : Oper) := by kernel_rfl
  have e124 : c.eval (.tmp 124) = .slice (some ⟨lg, 0, none⟩) (ll + 1) lcap := fact_at (p := eqv (.slice (some ⟨lg, 0, none⟩) (ll + 1) lcap)) (by kernel_rfl) rfl (hF 38 (by decide))
  have e127 : c.eval (.tmp 127) = .int .i64 (ll : Int) := fact_at (p := eqv (.int .i64 (ll : Int))) (by kernel_rfl) rfl (hF 41 (by decide))
  have hg : val RQ13 c 32 = .bool false := hF 32 (by decide)
  have hw := weQ13 ho rfl hg
  have ec : ∀ v, c.eval (.const v) = v := fun _ => rfl
  have ef : ∀ f, c.eval (.func f) = .func (.func f) #[] #[] := fun _ => rfl
  refine does_value ho hw (v := .pointer (some ⟨lg, ll * 6, none⟩)) ?_ rfl (Below.refl _ _)
  generalize c.eval = ρ at *
  clear hF hb hW hw ho hg
  go_simp
  intro h; omega
set_option maxRecDepth 10000 in
theorem oQ13_43 : stepQ13 bx bm bw bl kg kl kcap kc lg ll lcap lc ka la en m0 m1 m2 m3 m4 m5 v0 v1 v2 v3 v4 v5 x0 x1 x2 x3 x4 x5 Q 43 := by
  intro c w hb hW hF
  have ho : RQ13[43]? = some ({ dst := some 129, op := Op.fieldAddr 26 (Operand.tmp 128) 0, type := 0, pos := "law.go:223", after := #[{ on := 42, ground := Ground.data }, { on := 32, ground := Ground.guard }], guard := some (32, false) } : Oper) := by kernel_rfl
  have e128 : c.eval (.tmp 128) = .pointer (some ⟨lg, ll * 6, none⟩) := fact_at (p := eqv (.pointer (some ⟨lg, ll * 6, none⟩))) (by kernel_rfl) rfl (hF 42 (by decide))
  have hg : val RQ13 c 32 = .bool false := hF 32 (by decide)
  have hw := weQ13 ho rfl hg
  have ec : ∀ v, c.eval (.const v) = v := fun _ => rfl
  have ef : ∀ f, c.eval (.func f) = .func (.func f) #[] #[] := fun _ => rfl
  refine does_value ho hw (v := .pointer (some ⟨lg, ll * 6, none⟩)) ?_ rfl (Below.refl _ _)
  generalize c.eval = ρ at *
  clear hF hb hW hw ho hg
  go_simp
set_option maxRecDepth 10000 in
theorem oQ13_44 : stepQ13 bx bm bw bl kg kl kcap kc lg ll lcap lc ka la en m0 m1 m2 m3 m4 m5 v0 v1 v2 v3 v4 v5 x0 x1 x2 x3 x4 x5 Q 44 := by
  intro c w hb hW hF
  have ho : RQ13[44]? = some ({ dst := some 130, op := Op.load 22 (Operand.tmp 129), type := 22, pos := "law.go:223", after := #[{ on := 43, ground := Ground.data }, { on := 32, ground := Ground.guard }], guard := some (32, false) } : Oper) := by kernel_rfl
  have e129 : c.eval (.tmp 129) = .pointer (some ⟨lg, ll * 6, none⟩) := fact_at (p := eqv (.pointer (some ⟨lg, ll * 6, none⟩))) (by kernel_rfl) rfl (hF 43 (by decide))
  have hg : val RQ13 c 32 = .bool false := hF 32 (by decide)
  have hw := weQ13 ho rfl hg
  have ec : ∀ v, c.eval (.const v) = v := fun _ => rfl
  have ef : ∀ f, c.eval (.func f) = .func (.func f) #[] #[] := fun _ => rfl
  have c77 := hW.c77
  refine does_value ho hw (v := .int .i64 77) ?_ rfl (Below.refl _ _)
  generalize c.eval = ρ at *
  clear hF hb hW hw ho hg
  go_simp
set_option maxRecDepth 10000 in
theorem oQ13_45 : stepQ13 bx bm bw bl kg kl kcap kc lg ll lcap lc ka la en m0 m1 m2 m3 m4 m5 v0 v1 v2 v3 v4 v5 x0 x1 x2 x3 x4 x5 Q 45 := by
  intro c w hb hW hF
  have ho : RQ13[45]? = some ({ dst := some 131, op := Op.binOp BinOp.neq 22 (Operand.tmp 130) (Operand.const (Value.int IntKind.i64 77)) 22, type := 4, pos := "law.go:223", after := #[{ on := 44, ground := Ground.data }, { on := 32, ground := Ground.guard }], guard := some (32, false) } : Oper) := by kernel_rfl
  have e130 : c.eval (.tmp 130) = .int .i64 77 := fact_at (p := eqv (.int .i64 77)) (by kernel_rfl) rfl (hF 44 (by decide))
  have hg : val RQ13 c 32 = .bool false := hF 32 (by decide)
  have hw := weQ13 ho rfl hg
  have ec : ∀ v, c.eval (.const v) = v := fun _ => rfl
  have ef : ∀ f, c.eval (.func f) = .func (.func f) #[] #[] := fun _ => rfl
  refine does_value ho hw (v := .bool false) ?_ rfl (Below.refl _ _)
  generalize c.eval = ρ at *
  clear hF hb hW hw ho hg
  go_simp
set_option maxRecDepth 10000 in
theorem oQ13_46 : stepQ13 bx bm bw bl kg kl kcap kc lg ll lcap lc ka la en m0 m1 m2 m3 m4 m5 v0 v1 v2 v3 v4 v5 x0 x1 x2 x3 x4 x5 Q 46 := by
  intro c w hb hW hF
  have ho : RQ13[46]? = some ({ dst := some 132, op := Op.pick (Operand.tmp 118) (Operand.const (Value.bool true)) (Operand.tmp 131), type := 4, pos := "law.go:223", after := #[{ on := 32, ground := Ground.data }, { on := 45, ground := Ground.data }], guard := none } : Oper) := by kernel_rfl
  have e118 : c.eval (.tmp 118) = .bool false := fact_at (p := eqv (.bool false)) (by kernel_rfl) rfl (hF 32 (by decide))
  have e131 : c.eval (.tmp 131) = .bool false := fact_at (p := eqv (.bool false)) (by kernel_rfl) rfl (hF 45 (by decide))
  have hw := wnQ13 (c := c) ho rfl
  have ec : ∀ v, c.eval (.const v) = v := fun _ => rfl
  have ef : ∀ f, c.eval (.func f) = .func (.func f) #[] #[] := fun _ => rfl
  refine does_value ho hw (v := .bool false) ?_ rfl (Below.refl _ _)
  generalize c.eval = ρ at *
  clear hF hb hW hw ho
  go_simp
end
theorem stableQ13 (bx bm bw bl kg kl kcap kc lg ll lcap lc : Nat) (ka la : Option Addr) (en : Int) (m0 m1 m2 m3 m4 m5 v0 v1 v2 v3 v4 v5 x0 x1 x2 x3 x4 x5 : Value) : ∀ pr ∈ factsQ13 bx bm bw bl kg kl kcap kc lg ll lcap lc ka la en m0 m1 m2 m3 m4 m5 v0 v1 v2 v3 v4 v5 x0 x1 x2 x3 x4 x5, Stable pr := by
  unfold factsQ13
  refine List.forall_mem_cons.2 ⟨eqv_stable _, ?_⟩
  refine List.forall_mem_cons.2 ⟨eqv_stable _, ?_⟩
  refine List.forall_mem_cons.2 ⟨eqv_stable _, ?_⟩
  refine List.forall_mem_cons.2 ⟨eqv_stable _, ?_⟩
  refine List.forall_mem_cons.2 ⟨eqv_stable _, ?_⟩
  refine List.forall_mem_cons.2 ⟨eqv_stable _, ?_⟩
  refine List.forall_mem_cons.2 ⟨eqv_stable _, ?_⟩
  refine List.forall_mem_cons.2 ⟨eqv_stable _, ?_⟩
  refine List.forall_mem_cons.2 ⟨eqv_stable _, ?_⟩
  refine List.forall_mem_cons.2 ⟨eqv_stable _, ?_⟩
  refine List.forall_mem_cons.2 ⟨eqv_stable _, ?_⟩
  refine List.forall_mem_cons.2 ⟨eqv_stable _, ?_⟩
  refine List.forall_mem_cons.2 ⟨eqv_stable _, ?_⟩
  refine List.forall_mem_cons.2 ⟨eqv_stable _, ?_⟩
  refine List.forall_mem_cons.2 ⟨eqv_stable _, ?_⟩
  refine List.forall_mem_cons.2 ⟨eqv_stable _, ?_⟩
  refine List.forall_mem_cons.2 ⟨eqv_stable _, ?_⟩
  refine List.forall_mem_cons.2 ⟨eqv_stable _, ?_⟩
  refine List.forall_mem_cons.2 ⟨eqv_stable _, ?_⟩
  refine List.forall_mem_cons.2 ⟨eqv_stable _, ?_⟩
  refine List.forall_mem_cons.2 ⟨eqv_stable _, ?_⟩
  refine List.forall_mem_cons.2 ⟨eqv_stable _, ?_⟩
  refine List.forall_mem_cons.2 ⟨eqv_stable _, ?_⟩
  refine List.forall_mem_cons.2 ⟨eqv_stable _, ?_⟩
  refine List.forall_mem_cons.2 ⟨eqv_stable _, ?_⟩
  refine List.forall_mem_cons.2 ⟨eqv_stable _, ?_⟩
  refine List.forall_mem_cons.2 ⟨eqv_stable _, ?_⟩
  refine List.forall_mem_cons.2 ⟨eqv_stable _, ?_⟩
  refine List.forall_mem_cons.2 ⟨eqv_stable _, ?_⟩
  refine List.forall_mem_cons.2 ⟨eqv_stable _, ?_⟩
  refine List.forall_mem_cons.2 ⟨eqv_stable _, ?_⟩
  refine List.forall_mem_cons.2 ⟨eqv_stable _, ?_⟩
  refine List.forall_mem_cons.2 ⟨eqv_stable _, ?_⟩
  refine List.forall_mem_cons.2 ⟨eqv_stable _, ?_⟩
  refine List.forall_mem_cons.2 ⟨eqv_stable _, ?_⟩
  refine List.forall_mem_cons.2 ⟨eqv_stable _, ?_⟩
  refine List.forall_mem_cons.2 ⟨eqv_stable _, ?_⟩
  refine List.forall_mem_cons.2 ⟨eqv_stable _, ?_⟩
  refine List.forall_mem_cons.2 ⟨eqv_stable _, ?_⟩
  refine List.forall_mem_cons.2 ⟨eqv_stable _, ?_⟩
  refine List.forall_mem_cons.2 ⟨eqv_stable _, ?_⟩
  refine List.forall_mem_cons.2 ⟨eqv_stable _, ?_⟩
  refine List.forall_mem_cons.2 ⟨eqv_stable _, ?_⟩
  refine List.forall_mem_cons.2 ⟨eqv_stable _, ?_⟩
  refine List.forall_mem_cons.2 ⟨eqv_stable _, ?_⟩
  refine List.forall_mem_cons.2 ⟨eqv_stable _, ?_⟩
  refine List.forall_mem_cons.2 ⟨eqv_stable _, ?_⟩
  exact List.forall_mem_nil _
set_option maxRecDepth 100000 in
theorem allQ13 (bx bm bw bl kg kl kcap kc lg ll lcap lc : Nat) (ka la : Option Addr) (en : Int) (m0 m1 m2 m3 m4 m5 v0 v1 v2 v3 v4 v5 x0 x1 x2 x3 x4 x5 : Value) (Q : Exit → Act → World → Prop) : ∀ i, i < 47 → (fun i => ∀ c w, BaseQ13 bx bm bw bl kg kl kcap kc lg ll lcap lc ka la en m0 m1 m2 m3 m4 m5 v0 v1 v2 v3 v4 v5 x0 x1 x2 x3 x4 x5 c → WorldQ13 bx bm bw bl kg kl kcap kc lg ll lcap lc ka la en m0 m1 m2 m3 m4 m5 v0 v1 v2 v3 v4 v5 x0 x1 x2 x3 x4 x5 w → (∀ q0 ∈ ancQ13 i, factsAt (factsQ13 bx bm bw bl kg kl kcap kc lg ll lcap lc ka la en m0 m1 m2 m3 m4 m5 v0 v1 v2 v3 v4 v5 x0 x1 x2 x3 x4 x5) q0 (val RQ13 c q0) w) → Does Tryz.prog RQ13 Q (factsAt (factsQ13 bx bm bw bl kg kl kcap kc lg ll lcap lc ka la en m0 m1 m2 m3 m4 m5 v0 v1 v2 v3 v4 v5 x0 x1 x2 x3 x4 x5)) i c w) i := by
  refine below_succ ?_ (fun c w => oQ13_46 bx bm bw bl kg kl kcap kc lg ll lcap lc ka la en m0 m1 m2 m3 m4 m5 v0 v1 v2 v3 v4 v5 x0 x1 x2 x3 x4 x5 Q c w)
  refine below_succ ?_ (fun c w => oQ13_45 bx bm bw bl kg kl kcap kc lg ll lcap lc ka la en m0 m1 m2 m3 m4 m5 v0 v1 v2 v3 v4 v5 x0 x1 x2 x3 x4 x5 Q c w)
  refine below_succ ?_ (fun c w => oQ13_44 bx bm bw bl kg kl kcap kc lg ll lcap lc ka la en m0 m1 m2 m3 m4 m5 v0 v1 v2 v3 v4 v5 x0 x1 x2 x3 x4 x5 Q c w)
  refine below_succ ?_ (fun c w => oQ13_43 bx bm bw bl kg kl kcap kc lg ll lcap lc ka la en m0 m1 m2 m3 m4 m5 v0 v1 v2 v3 v4 v5 x0 x1 x2 x3 x4 x5 Q c w)
  refine below_succ ?_ (fun c w => oQ13_42 bx bm bw bl kg kl kcap kc lg ll lcap lc ka la en m0 m1 m2 m3 m4 m5 v0 v1 v2 v3 v4 v5 x0 x1 x2 x3 x4 x5 Q c w)
  refine below_succ ?_ (fun c w => oQ13_41 bx bm bw bl kg kl kcap kc lg ll lcap lc ka la en m0 m1 m2 m3 m4 m5 v0 v1 v2 v3 v4 v5 x0 x1 x2 x3 x4 x5 Q c w)
  refine below_succ ?_ (fun c w => oQ13_40 bx bm bw bl kg kl kcap kc lg ll lcap lc ka la en m0 m1 m2 m3 m4 m5 v0 v1 v2 v3 v4 v5 x0 x1 x2 x3 x4 x5 Q c w)
  refine below_succ ?_ (fun c w => oQ13_39 bx bm bw bl kg kl kcap kc lg ll lcap lc ka la en m0 m1 m2 m3 m4 m5 v0 v1 v2 v3 v4 v5 x0 x1 x2 x3 x4 x5 Q c w)
  refine below_succ ?_ (fun c w => oQ13_38 bx bm bw bl kg kl kcap kc lg ll lcap lc ka la en m0 m1 m2 m3 m4 m5 v0 v1 v2 v3 v4 v5 x0 x1 x2 x3 x4 x5 Q c w)
  refine below_succ ?_ (fun c w => oQ13_37 bx bm bw bl kg kl kcap kc lg ll lcap lc ka la en m0 m1 m2 m3 m4 m5 v0 v1 v2 v3 v4 v5 x0 x1 x2 x3 x4 x5 Q c w)
  refine below_succ ?_ (fun c w => oQ13_36 bx bm bw bl kg kl kcap kc lg ll lcap lc ka la en m0 m1 m2 m3 m4 m5 v0 v1 v2 v3 v4 v5 x0 x1 x2 x3 x4 x5 Q c w)
  refine below_succ ?_ (fun c w => oQ13_35 bx bm bw bl kg kl kcap kc lg ll lcap lc ka la en m0 m1 m2 m3 m4 m5 v0 v1 v2 v3 v4 v5 x0 x1 x2 x3 x4 x5 Q c w)
  refine below_succ ?_ (fun c w => oQ13_34 bx bm bw bl kg kl kcap kc lg ll lcap lc ka la en m0 m1 m2 m3 m4 m5 v0 v1 v2 v3 v4 v5 x0 x1 x2 x3 x4 x5 Q c w)
  refine below_succ ?_ (fun c w => oQ13_33 bx bm bw bl kg kl kcap kc lg ll lcap lc ka la en m0 m1 m2 m3 m4 m5 v0 v1 v2 v3 v4 v5 x0 x1 x2 x3 x4 x5 Q c w)
  refine below_succ ?_ (fun c w => oQ13_32 bx bm bw bl kg kl kcap kc lg ll lcap lc ka la en m0 m1 m2 m3 m4 m5 v0 v1 v2 v3 v4 v5 x0 x1 x2 x3 x4 x5 Q c w)
  refine below_succ ?_ (fun c w => oQ13_31 bx bm bw bl kg kl kcap kc lg ll lcap lc ka la en m0 m1 m2 m3 m4 m5 v0 v1 v2 v3 v4 v5 x0 x1 x2 x3 x4 x5 Q c w)
  refine below_succ ?_ (fun c w => oQ13_30 bx bm bw bl kg kl kcap kc lg ll lcap lc ka la en m0 m1 m2 m3 m4 m5 v0 v1 v2 v3 v4 v5 x0 x1 x2 x3 x4 x5 Q c w)
  refine below_succ ?_ (fun c w => oQ13_29 bx bm bw bl kg kl kcap kc lg ll lcap lc ka la en m0 m1 m2 m3 m4 m5 v0 v1 v2 v3 v4 v5 x0 x1 x2 x3 x4 x5 Q c w)
  refine below_succ ?_ (fun c w => oQ13_28 bx bm bw bl kg kl kcap kc lg ll lcap lc ka la en m0 m1 m2 m3 m4 m5 v0 v1 v2 v3 v4 v5 x0 x1 x2 x3 x4 x5 Q c w)
  refine below_succ ?_ (fun c w => oQ13_27 bx bm bw bl kg kl kcap kc lg ll lcap lc ka la en m0 m1 m2 m3 m4 m5 v0 v1 v2 v3 v4 v5 x0 x1 x2 x3 x4 x5 Q c w)
  refine below_succ ?_ (fun c w => oQ13_26 bx bm bw bl kg kl kcap kc lg ll lcap lc ka la en m0 m1 m2 m3 m4 m5 v0 v1 v2 v3 v4 v5 x0 x1 x2 x3 x4 x5 Q c w)
  refine below_succ ?_ (fun c w => oQ13_25 bx bm bw bl kg kl kcap kc lg ll lcap lc ka la en m0 m1 m2 m3 m4 m5 v0 v1 v2 v3 v4 v5 x0 x1 x2 x3 x4 x5 Q c w)
  refine below_succ ?_ (fun c w => oQ13_24 bx bm bw bl kg kl kcap kc lg ll lcap lc ka la en m0 m1 m2 m3 m4 m5 v0 v1 v2 v3 v4 v5 x0 x1 x2 x3 x4 x5 Q c w)
  refine below_succ ?_ (fun c w => oQ13_23 bx bm bw bl kg kl kcap kc lg ll lcap lc ka la en m0 m1 m2 m3 m4 m5 v0 v1 v2 v3 v4 v5 x0 x1 x2 x3 x4 x5 Q c w)
  refine below_succ ?_ (fun c w => oQ13_22 bx bm bw bl kg kl kcap kc lg ll lcap lc ka la en m0 m1 m2 m3 m4 m5 v0 v1 v2 v3 v4 v5 x0 x1 x2 x3 x4 x5 Q c w)
  refine below_succ ?_ (fun c w => oQ13_21 bx bm bw bl kg kl kcap kc lg ll lcap lc ka la en m0 m1 m2 m3 m4 m5 v0 v1 v2 v3 v4 v5 x0 x1 x2 x3 x4 x5 Q c w)
  refine below_succ ?_ (fun c w => oQ13_20 bx bm bw bl kg kl kcap kc lg ll lcap lc ka la en m0 m1 m2 m3 m4 m5 v0 v1 v2 v3 v4 v5 x0 x1 x2 x3 x4 x5 Q c w)
  refine below_succ ?_ (fun c w => oQ13_19 bx bm bw bl kg kl kcap kc lg ll lcap lc ka la en m0 m1 m2 m3 m4 m5 v0 v1 v2 v3 v4 v5 x0 x1 x2 x3 x4 x5 Q c w)
  refine below_succ ?_ (fun c w => oQ13_18 bx bm bw bl kg kl kcap kc lg ll lcap lc ka la en m0 m1 m2 m3 m4 m5 v0 v1 v2 v3 v4 v5 x0 x1 x2 x3 x4 x5 Q c w)
  refine below_succ ?_ (fun c w => oQ13_17 bx bm bw bl kg kl kcap kc lg ll lcap lc ka la en m0 m1 m2 m3 m4 m5 v0 v1 v2 v3 v4 v5 x0 x1 x2 x3 x4 x5 Q c w)
  refine below_succ ?_ (fun c w => oQ13_16 bx bm bw bl kg kl kcap kc lg ll lcap lc ka la en m0 m1 m2 m3 m4 m5 v0 v1 v2 v3 v4 v5 x0 x1 x2 x3 x4 x5 Q c w)
  refine below_succ ?_ (fun c w => oQ13_15 bx bm bw bl kg kl kcap kc lg ll lcap lc ka la en m0 m1 m2 m3 m4 m5 v0 v1 v2 v3 v4 v5 x0 x1 x2 x3 x4 x5 Q c w)
  refine below_succ ?_ (fun c w => oQ13_14 bx bm bw bl kg kl kcap kc lg ll lcap lc ka la en m0 m1 m2 m3 m4 m5 v0 v1 v2 v3 v4 v5 x0 x1 x2 x3 x4 x5 Q c w)
  refine below_succ ?_ (fun c w => oQ13_13 bx bm bw bl kg kl kcap kc lg ll lcap lc ka la en m0 m1 m2 m3 m4 m5 v0 v1 v2 v3 v4 v5 x0 x1 x2 x3 x4 x5 Q c w)
  refine below_succ ?_ (fun c w => oQ13_12 bx bm bw bl kg kl kcap kc lg ll lcap lc ka la en m0 m1 m2 m3 m4 m5 v0 v1 v2 v3 v4 v5 x0 x1 x2 x3 x4 x5 Q c w)
  refine below_succ ?_ (fun c w => oQ13_11 bx bm bw bl kg kl kcap kc lg ll lcap lc ka la en m0 m1 m2 m3 m4 m5 v0 v1 v2 v3 v4 v5 x0 x1 x2 x3 x4 x5 Q c w)
  refine below_succ ?_ (fun c w => oQ13_10 bx bm bw bl kg kl kcap kc lg ll lcap lc ka la en m0 m1 m2 m3 m4 m5 v0 v1 v2 v3 v4 v5 x0 x1 x2 x3 x4 x5 Q c w)
  refine below_succ ?_ (fun c w => oQ13_9 bx bm bw bl kg kl kcap kc lg ll lcap lc ka la en m0 m1 m2 m3 m4 m5 v0 v1 v2 v3 v4 v5 x0 x1 x2 x3 x4 x5 Q c w)
  refine below_succ ?_ (fun c w => oQ13_8 bx bm bw bl kg kl kcap kc lg ll lcap lc ka la en m0 m1 m2 m3 m4 m5 v0 v1 v2 v3 v4 v5 x0 x1 x2 x3 x4 x5 Q c w)
  refine below_succ ?_ (fun c w => oQ13_7 bx bm bw bl kg kl kcap kc lg ll lcap lc ka la en m0 m1 m2 m3 m4 m5 v0 v1 v2 v3 v4 v5 x0 x1 x2 x3 x4 x5 Q c w)
  refine below_succ ?_ (fun c w => oQ13_6 bx bm bw bl kg kl kcap kc lg ll lcap lc ka la en m0 m1 m2 m3 m4 m5 v0 v1 v2 v3 v4 v5 x0 x1 x2 x3 x4 x5 Q c w)
  refine below_succ ?_ (fun c w => oQ13_5 bx bm bw bl kg kl kcap kc lg ll lcap lc ka la en m0 m1 m2 m3 m4 m5 v0 v1 v2 v3 v4 v5 x0 x1 x2 x3 x4 x5 Q c w)
  refine below_succ ?_ (fun c w => oQ13_4 bx bm bw bl kg kl kcap kc lg ll lcap lc ka la en m0 m1 m2 m3 m4 m5 v0 v1 v2 v3 v4 v5 x0 x1 x2 x3 x4 x5 Q c w)
  refine below_succ ?_ (fun c w => oQ13_3 bx bm bw bl kg kl kcap kc lg ll lcap lc ka la en m0 m1 m2 m3 m4 m5 v0 v1 v2 v3 v4 v5 x0 x1 x2 x3 x4 x5 Q c w)
  refine below_succ ?_ (fun c w => oQ13_2 bx bm bw bl kg kl kcap kc lg ll lcap lc ka la en m0 m1 m2 m3 m4 m5 v0 v1 v2 v3 v4 v5 x0 x1 x2 x3 x4 x5 Q c w)
  refine below_succ ?_ (fun c w => oQ13_1 bx bm bw bl kg kl kcap kc lg ll lcap lc ka la en m0 m1 m2 m3 m4 m5 v0 v1 v2 v3 v4 v5 x0 x1 x2 x3 x4 x5 Q c w)
  refine below_succ ?_ (fun c w => oQ13_0 bx bm bw bl kg kl kcap kc lg ll lcap lc ka la en m0 m1 m2 m3 m4 m5 v0 v1 v2 v3 v4 v5 x0 x1 x2 x3 x4 x5 Q c w)
  exact below_zero
theorem regionQ13 (bx bm bw bl kg kl kcap kc lg ll lcap lc : Nat) (ka la : Option Addr) (en : Int) (m0 m1 m2 m3 m4 m5 v0 v1 v2 v3 v4 v5 x0 x1 x2 x3 x4 x5 : Value) (Q : Exit → Act → World → Prop) (base : Act) (w0 : World) (hsz : base.tmps.size = 205) (hb : BaseQ13 bx bm bw bl kg kl kcap kc lg ll lcap lc ka la en m0 m1 m2 m3 m4 m5 v0 v1 v2 v3 v4 v5 x0 x1 x2 x3 x4 x5 base)
    (hW : ∀ w, Below w0.heap.size w0 w → WorldQ13 bx bm bw bl kg kl kcap kc lg ll lcap lc ka la en m0 m1 m2 m3 m4 m5 v0 v1 v2 v3 v4 v5 x0 x1 x2 x3 x4 x5 w) (hQ : ∀ c w, Same RQ13 base c → Below w0.heap.size w0 w → c.eval (.tmp 132) = .bool false → Q .normal c w) : (Code.region 13 RQ13 true).wp Tryz.prog Q base w0 := by
  refine facts_rule (A := ancQ13) (F := factsAt (factsQ13 bx bm bw bl kg kl kcap kc lg ll lcap lc ka la en m0 m1 m2 m3 m4 m5 v0 v1 v2 v3 v4 v5 x0 x1 x2 x3 x4 x5)) (by kernel_rfl) (by rw [hsz]; kernel_rfl) (fun i v w w' => factsAt_stable (stableQ13 bx bm bw bl kg kl kcap kc lg ll lcap lc ka la en m0 m1 m2 m3 m4 m5 v0 v1 v2 v3 v4 v5 x0 x1 x2 x3 x4 x5) i v w w') ?_ ?_
  · intro i hi c w hS hB hF
    exact allQ13 bx bm bw bl kg kl kcap kc lg ll lcap lc ka la en m0 m1 m2 m3 m4 m5 v0 v1 v2 v3 v4 v5 x0 x1 x2 x3 x4 x5 Q i (by rwa [show RQ13.size = 47 by kernel_rfl] at hi) c w ⟨(same_eval hS (by kernel_rfl)).trans hb.t1, (same_eval hS (by kernel_rfl)).trans hb.t3, (same_eval hS (by kernel_rfl)).trans hb.t4, (same_eval hS (by kernel_rfl)).trans hb.t6, (same_eval hS (by kernel_rfl)).trans hb.t7, (same_eval hS (by kernel_rfl)).trans hb.t8, (same_eval hS (by kernel_rfl)).trans hb.t9, (same_eval hS (by kernel_rfl)).trans hb.t10⟩ (hW w hB) hF
  · intro c w hS hB hF
    exact hQ c w hS hB (fact_at (p := eqv (.bool false)) (by kernel_rfl) rfl (hF 46 (by rw [show RQ13.size = 47 by kernel_rfl]; omega)))
end Go.Proofs.YtbpmhgcjefpigaaGreatDoor
