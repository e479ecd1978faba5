/- A statement that only reads and calls: operation by operation, in whatever order. -/
import Derived.Test.YtbpmhgcjefpigaaGreatDoorJoin18
namespace Go.Proofs.YtbpmhgcjefpigaaGreatDoor
open Go.RowKit Go.WideShapes Go.Shelf
set_option linter.unusedVariables false
set_option linter.unusedSimpArgs false

noncomputable def RE6 : Array Oper := regionAt Tryz.f6 6
def ancE6 (i : Nat) : List Nat := ([[], [], [0, 1], [], [], [3, 4], [2], [5]] : List (List Nat)).getD i []
def factsE6 (pa pb : Nat) (xv yv : Int) (a0 a1 a2 a3 a4 a5 b0 b1 b2 b3 b4 b5 : Value) : List (Value → World → Prop) :=
  [eqv (.agg #[a0, a1, a2, a3, a4, a5]), eqv (.agg #[b0, b1, b2, b3, b4, b5]), eqv (.int .i64 xv), eqv (.agg #[a0, a1, a2, a3, a4, a5]), eqv (.agg #[b0, b1, b2, b3, b4, b5]), eqv (.int .i64 yv), eqv (.int .i64 xv), eqv (.int .i64 yv)]
structure BaseE6 (pa pb : Nat) (xv yv : Int) (a0 a1 a2 a3 a4 a5 b0 b1 b2 b3 b4 b5 : Value) (c : Act) : Prop where
  t2 : c.eval (.tmp 2) = .pointer (some ⟨pa, 0, none⟩)
  t3 : c.eval (.tmp 3) = .pointer (some ⟨pb, 0, none⟩)
structure WorldE6 (pa pb : Nat) (xv yv : Int) (a0 a1 a2 a3 a4 a5 b0 b1 b2 b3 b4 b5 : Value) (w : World) : Prop where
  ca0 : w.cell? ⟨pa, 0, none⟩ = some a0
  ca1 : w.cell? ⟨pa, 1, none⟩ = some a1
  ca2 : w.cell? ⟨pa, 2, none⟩ = some a2
  ca3 : w.cell? ⟨pa, 3, none⟩ = some a3
  ca4 : w.cell? ⟨pa, 4, none⟩ = some a4
  ca5 : w.cell? ⟨pa, 5, none⟩ = some a5
  cb0 : w.cell? ⟨pb, 0, none⟩ = some b0
  cb1 : w.cell? ⟨pb, 1, none⟩ = some b1
  cb2 : w.cell? ⟨pb, 2, none⟩ = some b2
  cb3 : w.cell? ⟨pb, 3, none⟩ = some b3
  cb4 : w.cell? ⟨pb, 4, none⟩ = some b4
  cb5 : w.cell? ⟨pb, 5, none⟩ = some b5
  k1 : Calls Tryz.prog 35 #[.agg #[a0, a1, a2, a3, a4, a5], .agg #[b0, b1, b2, b3, b4, b5]] w fun e w' => e = .returned (.int .i64 xv) ∧ Below w.heap.size w w'
  k2 : Calls Tryz.prog 36 #[.agg #[a0, a1, a2, a3, a4, a5], .agg #[b0, b1, b2, b3, b4, b5]] w fun e w' => e = .returned (.int .i64 yv) ∧ Below w.heap.size w w'

def stepE6 (pa pb : Nat) (xv yv : Int) (a0 a1 a2 a3 a4 a5 b0 b1 b2 b3 b4 b5 : Value) (Q : Exit → Act → World → Prop) (i : Nat) : Prop := ∀ (c : Act) (w : World), BaseE6 pa pb xv yv a0 a1 a2 a3 a4 a5 b0 b1 b2 b3 b4 b5 c → WorldE6 pa pb xv yv a0 a1 a2 a3 a4 a5 b0 b1 b2 b3 b4 b5 w → (∀ q0 ∈ ancE6 i, factsAt (factsE6 pa pb xv yv a0 a1 a2 a3 a4 a5 b0 b1 b2 b3 b4 b5) q0 (val RE6 c q0) w) → Does Tryz.prog RE6 Q (factsAt (factsE6 pa pb xv yv a0 a1 a2 a3 a4 a5 b0 b1 b2 b3 b4 b5)) i c w
theorem wnE6 {i : Nat} {o : Oper} {c : Act} (ho : RE6[i]? = some o) (h : o.guard = none) : Region.wanted o (yielded RE6 c.tmps) = true := want_none h
theorem weE6 {i g : Nat} {b : Bool} {o : Oper} {c : Act} (ho : RE6[i]? = some o) (h : o.guard = some (g, b)) (hg : val RE6 c g = .bool b) : Region.wanted o (yielded RE6 c.tmps) = true := want_eq h hg
section
variable (pa pb : Nat) (xv yv : Int) (a0 a1 a2 a3 a4 a5 b0 b1 b2 b3 b4 b5 : Value) (Q : Exit → Act → World → Prop)
set_option maxRecDepth 10000 in
theorem oE6_0 : stepE6 pa pb xv yv a0 a1 a2 a3 a4 a5 b0 b1 b2 b3 b4 b5 Q 0 := by
  intro c w hb hW hF
  have ho : RE6[0]? = some ({ dst := some 23, op := Op.load 26 (Operand.tmp 2), type := 26, pos := "law.go:139", after := #[], guard := none } : Oper) := by kernel_rfl
  have e2 := hb.t2
  have hw := wnE6 (c := c) ho rfl
  have ec : ∀ v, c.eval (.const v) = v := fun _ => rfl
  have ef : ∀ f, c.eval (.func f) = .func (.func f) #[] #[] := fun _ => rfl
  have ca0 := hW.ca0
  have ca1 := hW.ca1
  have ca2 := hW.ca2
  have ca3 := hW.ca3
  have ca4 := hW.ca4
  have ca5 := hW.ca5
  refine does_value ho hw (v := .agg #[a0, a1, a2, a3, a4, a5]) ?_ rfl (Below.refl _ _)
  generalize c.eval = ρ at *
  clear hF hb hW hw ho
  go_simp

set_option maxRecDepth 10000 in
theorem oE6_1 : stepE6 pa pb xv yv a0 a1 a2 a3 a4 a5 b0 b1 b2 b3 b4 b5 Q 1 := by
  intro c w hb hW hF
  have ho : RE6[1]? = some ({ dst := some 24, op := Op.load 26 (Operand.tmp 3), type := 26, pos := "law.go:139", after := #[], guard := none } : Oper) := by kernel_rfl
  have e3 := hb.t3
  have hw := wnE6 (c := c) ho rfl
  have ec : ∀ v, c.eval (.const v) = v := fun _ => rfl
  have ef : ∀ f, c.eval (.func f) = .func (.func f) #[] #[] := fun _ => rfl
  have cb0 := hW.cb0
  have cb1 := hW.cb1
  have cb2 := hW.cb2
  have cb3 := hW.cb3
  have cb4 := hW.cb4
  have cb5 := hW.cb5
  refine does_value ho hw (v := .agg #[b0, b1, b2, b3, b4, b5]) ?_ rfl (Below.refl _ _)
  generalize c.eval = ρ at *
  clear hF hb hW hw ho
  go_simp

set_option maxRecDepth 10000 in
theorem oE6_2 : stepE6 pa pb xv yv a0 a1 a2 a3 a4 a5 b0 b1 b2 b3 b4 b5 Q 2 := by
  intro c w hb hW hF
  have ho : RE6[2]? = some ({ dst := some 25, op := Op.call { callee := Callee.value (Operand.func 35), args := #[Operand.tmp 23, Operand.tmp 24], argTypes := #[26, 26] }, type := 44, pos := "law.go:139", after := #[{ on := 0, ground := Ground.data }, { on := 1, ground := Ground.data }], guard := none } : Oper) := by kernel_rfl
  have e23 : c.eval (.tmp 23) = .agg #[a0, a1, a2, a3, a4, a5] := fact_at (p := eqv (.agg #[a0, a1, a2, a3, a4, a5])) (by kernel_rfl) rfl (hF 0 (by decide))
  have e24 : c.eval (.tmp 24) = .agg #[b0, b1, b2, b3, b4, b5] := fact_at (p := eqv (.agg #[b0, b1, b2, b3, b4, b5])) (by kernel_rfl) rfl (hF 1 (by decide))
  have hw := wnE6 (c := c) ho rfl
  have ec : ∀ v, c.eval (.const v) = v := fun _ => rfl
  have ef : ∀ f, c.eval (.func f) = .func (.func f) #[] #[] := fun _ => rfl
  refine does_call ho hw (f := 35) (args := #[.agg #[a0, a1, a2, a3, a4, a5], .agg #[b0, b1, b2, b3, b4, b5]]) ?_ (Calls.mono (hW.k1) fun e w' ⟨h1, h2⟩ => ⟨_, h1, rfl, h2⟩)
  generalize c.eval = ρ at *
  clear hF hb hW hw ho
  go_simp

set_option maxRecDepth 10000 in
theorem oE6_3 : stepE6 pa pb xv yv a0 a1 a2 a3 a4 a5 b0 b1 b2 b3 b4 b5 Q 3 := by
  intro c w hb hW hF
  have ho : RE6[3]? = some ({ dst := some 26, op := Op.load 26 (Operand.tmp 2), type := 26, pos := "law.go:139", after := #[], guard := none } : Oper) := by kernel_rfl
  have e2 := hb.t2
  have hw := wnE6 (c := c) ho rfl
  have ec : ∀ v, c.eval (.const v) = v := fun _ => rfl
  have ef : ∀ f, c.eval (.func f) = .func (.func f) #[] #[] := fun _ => rfl
  have ca0 := hW.ca0
  have ca1 := hW.ca1
  have ca2 := hW.ca2
  have ca3 := hW.ca3
  have ca4 := hW.ca4
  have ca5 := hW.ca5
  refine does_value ho hw (v := .agg #[a0, a1, a2, a3, a4, a5]) ?_ rfl (Below.refl _ _)
  generalize c.eval = ρ at *
  clear hF hb hW hw ho
  go_simp

set_option maxRecDepth 10000 in
theorem oE6_4 : stepE6 pa pb xv yv a0 a1 a2 a3 a4 a5 b0 b1 b2 b3 b4 b5 Q 4 := by
  intro c w hb hW hF
  have ho : RE6[4]? = some ({ dst := some 27, op := Op.load 26 (Operand.tmp 3), type := 26, pos := "law.go:139", after := #[], guard := none } : Oper) := by kernel_rfl
  have e3 := hb.t3
  have hw := wnE6 (c := c) ho rfl
  have ec : ∀ v, c.eval (.const v) = v := fun _ => rfl
  have ef : ∀ f, c.eval (.func f) = .func (.func f) #[] #[] := fun _ => rfl
  have cb0 := hW.cb0
  have cb1 := hW.cb1
  have cb2 := hW.cb2
  have cb3 := hW.cb3
  have cb4 := hW.cb4
  have cb5 := hW.cb5
  refine does_value ho hw (v := .agg #[b0, b1, b2, b3, b4, b5]) ?_ rfl (Below.refl _ _)
  generalize c.eval = ρ at *
  clear hF hb hW hw ho
  go_simp

set_option maxRecDepth 10000 in
theorem oE6_5 : stepE6 pa pb xv yv a0 a1 a2 a3 a4 a5 b0 b1 b2 b3 b4 b5 Q 5 := by
  intro c w hb hW hF
  have ho : RE6[5]? = some ({ dst := some 28, op := Op.call { callee := Callee.value (Operand.func 36), args := #[Operand.tmp 26, Operand.tmp 27], argTypes := #[26, 26] }, type := 44, pos := "law.go:139", after := #[{ on := 3, ground := Ground.data }, { on := 4, ground := Ground.data }, { on := 2, ground := Ground.chain }], guard := none } : Oper) := by kernel_rfl
  have e26 : c.eval (.tmp 26) = .agg #[a0, a1, a2, a3, a4, a5] := fact_at (p := eqv (.agg #[a0, a1, a2, a3, a4, a5])) (by kernel_rfl) rfl (hF 3 (by decide))
  have e27 : c.eval (.tmp 27) = .agg #[b0, b1, b2, b3, b4, b5] := fact_at (p := eqv (.agg #[b0, b1, b2, b3, b4, b5])) (by kernel_rfl) rfl (hF 4 (by decide))
  have hw := wnE6 (c := c) ho rfl
  have ec : ∀ v, c.eval (.const v) = v := fun _ => rfl
  have ef : ∀ f, c.eval (.func f) = .func (.func f) #[] #[] := fun _ => rfl
  refine does_call ho hw (f := 36) (args := #[.agg #[a0, a1, a2, a3, a4, a5], .agg #[b0, b1, b2, b3, b4, b5]]) ?_ (Calls.mono (hW.k2) fun e w' ⟨h1, h2⟩ => ⟨_, h1, rfl, h2⟩)
  generalize c.eval = ρ at *
  clear hF hb hW hw ho
  go_simp

set_option maxRecDepth 10000 in
theorem oE6_6 : stepE6 pa pb xv yv a0 a1 a2 a3 a4 a5 b0 b1 b2 b3 b4 b5 Q 6 := by
  intro c w hb hW hF
  have ho : RE6[6]? = some ({ dst := some 7, op := Op.assign (Operand.tmp 25), type := 44, pos := "law.go:139", after := #[{ on := 2, ground := Ground.data }, { on := 5, ground := Ground.chain }, { on := 0, ground := Ground.phase }, { on := 1, ground := Ground.phase }, { on := 2, ground := Ground.phase }, { on := 3, ground := Ground.textOnly Departure.lateStores }, { on := 4, ground := Ground.textOnly Departure.lateStores }, { on := 5, ground := Ground.textOnly Departure.lateStoresUnsure }], guard := none } : Oper) := by kernel_rfl
  have e25 : c.eval (.tmp 25) = .int .i64 xv := fact_at (p := eqv (.int .i64 xv)) (by kernel_rfl) rfl (hF 2 (by decide))
  have hw := wnE6 (c := c) ho rfl
  have ec : ∀ v, c.eval (.const v) = v := fun _ => rfl
  have ef : ∀ f, c.eval (.func f) = .func (.func f) #[] #[] := fun _ => rfl
  refine does_value ho hw (v := .int .i64 xv) ?_ rfl (Below.refl _ _)
  generalize c.eval = ρ at *
  clear hF hb hW hw ho
  go_simp

set_option maxRecDepth 10000 in
theorem oE6_7 : stepE6 pa pb xv yv a0 a1 a2 a3 a4 a5 b0 b1 b2 b3 b4 b5 Q 7 := by
  intro c w hb hW hF
  have ho : RE6[7]? = some ({ dst := some 8, op := Op.assign (Operand.tmp 28), type := 44, pos := "law.go:139", after := #[{ on := 5, ground := Ground.data }, { on := 6, ground := Ground.chain }, { on := 0, ground := Ground.phase }, { on := 1, ground := Ground.phase }, { on := 2, ground := Ground.phase }, { on := 3, ground := Ground.phase }, { on := 4, ground := Ground.phase }, { on := 5, ground := Ground.phase }, { on := 6, ground := Ground.phase }], guard := none } : Oper) := by kernel_rfl
  have e28 : c.eval (.tmp 28) = .int .i64 yv := fact_at (p := eqv (.int .i64 yv)) (by kernel_rfl) rfl (hF 5 (by decide))
  have hw := wnE6 (c := c) ho rfl
  have ec : ∀ v, c.eval (.const v) = v := fun _ => rfl
  have ef : ∀ f, c.eval (.func f) = .func (.func f) #[] #[] := fun _ => rfl
  refine does_value ho hw (v := .int .i64 yv) ?_ rfl (Below.refl _ _)
  generalize c.eval = ρ at *
  clear hF hb hW hw ho
  go_simp

end

theorem stableE6 (pa pb : Nat) (xv yv : Int) (a0 a1 a2 a3 a4 a5 b0 b1 b2 b3 b4 b5 : Value) : ∀ pr ∈ factsE6 pa pb xv yv a0 a1 a2 a3 a4 a5 b0 b1 b2 b3 b4 b5, Stable pr := by
  unfold factsE6
  repeat' (first | exact List.forall_mem_nil _ | refine List.forall_mem_cons.2 ⟨eqv_stable _, ?_⟩)

set_option maxRecDepth 100000 in
theorem allE6 (pa pb : Nat) (xv yv : Int) (a0 a1 a2 a3 a4 a5 b0 b1 b2 b3 b4 b5 : Value) (Q : Exit → Act → World → Prop) : ∀ i, i < 8 → (fun i => ∀ c w, BaseE6 pa pb xv yv a0 a1 a2 a3 a4 a5 b0 b1 b2 b3 b4 b5 c → WorldE6 pa pb xv yv a0 a1 a2 a3 a4 a5 b0 b1 b2 b3 b4 b5 w → (∀ q0 ∈ ancE6 i, factsAt (factsE6 pa pb xv yv a0 a1 a2 a3 a4 a5 b0 b1 b2 b3 b4 b5) q0 (val RE6 c q0) w) → Does Tryz.prog RE6 Q (factsAt (factsE6 pa pb xv yv a0 a1 a2 a3 a4 a5 b0 b1 b2 b3 b4 b5)) i c w) i := by
  refine below_succ ?_ (fun c w => oE6_7 pa pb xv yv a0 a1 a2 a3 a4 a5 b0 b1 b2 b3 b4 b5 Q c w)
  refine below_succ ?_ (fun c w => oE6_6 pa pb xv yv a0 a1 a2 a3 a4 a5 b0 b1 b2 b3 b4 b5 Q c w)
  refine below_succ ?_ (fun c w => oE6_5 pa pb xv yv a0 a1 a2 a3 a4 a5 b0 b1 b2 b3 b4 b5 Q c w)
  refine below_succ ?_ (fun c w => oE6_4 pa pb xv yv a0 a1 a2 a3 a4 a5 b0 b1 b2 b3 b4 b5 Q c w)
  refine below_succ ?_ (fun c w => oE6_3 pa pb xv yv a0 a1 a2 a3 a4 a5 b0 b1 b2 b3 b4 b5 Q c w)
  refine below_succ ?_ (fun c w => oE6_2 pa pb xv yv a0 a1 a2 a3 a4 a5 b0 b1 b2 b3 b4 b5 Q c w)
  refine below_succ ?_ (fun c w => oE6_1 pa pb xv yv a0 a1 a2 a3 a4 a5 b0 b1 b2 b3 b4 b5 Q c w)
  refine below_succ ?_ (fun c w => oE6_0 pa pb xv yv a0 a1 a2 a3 a4 a5 b0 b1 b2 b3 b4 b5 Q c w)
  exact below_zero

theorem regionE6 (pa pb : Nat) (xv yv : Int) (a0 a1 a2 a3 a4 a5 b0 b1 b2 b3 b4 b5 : Value) (Q : Exit → Act → World → Prop) (base : Act) (w0 : World) (hsz : base.tmps.size = 61) (hb : BaseE6 pa pb xv yv a0 a1 a2 a3 a4 a5 b0 b1 b2 b3 b4 b5 base)
    (hW : ∀ w, Below w0.heap.size w0 w → WorldE6 pa pb xv yv a0 a1 a2 a3 a4 a5 b0 b1 b2 b3 b4 b5 w) (hQ : ∀ c w, Same RE6 base c → Below w0.heap.size w0 w → c.eval (.tmp 7) = .int .i64 xv → c.eval (.tmp 8) = .int .i64 yv → Q .normal c w) : (Code.region 6 RE6 true).wp Tryz.prog Q base w0 := by
  refine facts_rule (A := ancE6) (F := factsAt (factsE6 pa pb xv yv a0 a1 a2 a3 a4 a5 b0 b1 b2 b3 b4 b5)) (by kernel_rfl) (by rw [hsz]; kernel_rfl) (fun i v w w' => factsAt_stable (stableE6 pa pb xv yv a0 a1 a2 a3 a4 a5 b0 b1 b2 b3 b4 b5) i v w w') ?_ ?_
  · intro i hi c w hS hB hF
    exact allE6 pa pb xv yv a0 a1 a2 a3 a4 a5 b0 b1 b2 b3 b4 b5 Q i (by rwa [show RE6.size = 8 by kernel_rfl] at hi) c w ⟨(same_eval hS (by kernel_rfl)).trans hb.t2, (same_eval hS (by kernel_rfl)).trans hb.t3⟩ (hW w hB) hF
  · intro c w hS hB hF
    exact hQ c w hS hB (fact_at (p := eqv (.int .i64 xv)) (by kernel_rfl) rfl (hF 6 (by rw [show RE6.size = 8 by kernel_rfl]; omega))) (fact_at (p := eqv (.int .i64 yv)) (by kernel_rfl) rfl (hF 7 (by rw [show RE6.size = 8 by kernel_rfl]; omega)))
end Go.Proofs.YtbpmhgcjefpigaaGreatDoor
