/- Two statements of AddNode, in whatever order their operations are done. -/
import Derived.Test.YteddjlbfbpecjaaGreatDoorJoin11
namespace Go.Proofs.YteddjlbfbpecjaaGreatDoor
open Go.RowKit Go.Shelf Go.WideShapes
set_option linter.unusedVariables false
set_option linter.unusedSimpArgs false
/-- What holds of a value from some world on, whatever is made later. -/
def KB (K : World → Value → Prop) (w : World) (v : Value) : Prop := ∃ W, K W v ∧ Below W.heap.size W w
theorem KB.grow {K : World → Value → Prop} {w w' : World} {v : Value} (h : KB K w v) (hb : Below w.heap.size w w') : KB K w' v := by
  obtain ⟨W, h1, h2⟩ := h
  exact ⟨W, h1, h2.trans (hb.mono h2.size)⟩
noncomputable def RAN7 : Array Oper := regionAt Tryz.f30 7
def ancAN7 (i : Nat) : List Nat := ([[], [0], [1], [2], [3], [], [5], [4, 6], [], [0, 1, 2, 3, 4, 5, 6, 7, 8]] : List (List Nat)).getD i []
def factsAN7 (p : GP) (nn : Int) (pv : Value) (B0 : Nat) (K : World → Value → Prop) : List (Value → World → Prop) :=
  [eqv (.pointer (some ⟨p.g, 0, none⟩)), eqv (.pointer (some ⟨p.g, 0, none⟩)), eqv (.pointer (some ⟨p.g, 0, none⟩)), eqv (.pointer (some ⟨p.g, 2, none⟩)), eqv (.int .i64 nn), eqv (pv), fun v w => ∃ a n c, v = .slice a n c ∧ KB K w v, fun v w => ∃ a n c, v = .agg #[.int .i64 nn, .slice none 0 0, .slice a n c] ∧ KB K w (.slice a n c), fun v w => ∃ X, v = .pointer (some ⟨X, 0, none⟩) ∧ B0 ≤ X ∧ Rec w X #[.int .i64 0, .slice none 0 0, .slice none 0 0] 47]
structure BaseAN7 (p : GP) (nn : Int) (pv : Value) (B0 : Nat) (K : World → Value → Prop) (c : Act) : Prop where
  t0 : c.eval (.tmp 0) = .pointer (some ⟨p.g, 0, none⟩)
  t2 : c.eval (.tmp 2) = pv
structure WorldAN7 (p : GP) (nn : Int) (pv : Value) (B0 : Nat) (K : World → Value → Prop) (w : World) : Prop where
  c2 : w.cell? ⟨p.g, 2, none⟩ = some (.int .i64 nn)
  b0 : B0 ≤ w.heap.size
  k6 : Calls Tryz.prog 88 #[pv] w fun e w' => ∃ a n c, e = .returned (.slice a n c) ∧ K w' (.slice a n c) ∧ Below w.heap.size w w'
set_option maxRecDepth 10000 in
theorem oAN7_0 (p : GP) (nn : Int) (pv : Value) (B0 : Nat) (K : World → Value → Prop) (Q : Exit → Act → World → Prop) (c : Act) (w : World) (hb : BaseAN7 p nn pv B0 K c) (hW : WorldAN7 p nn pv B0 K w) (hF : ∀ q0 ∈ ancAN7 0, factsAt (factsAN7 p nn pv B0 K) q0 (val RAN7 c q0) w) :
    Does Tryz.prog RAN7 Q (factsAt (factsAN7 p nn pv B0 K)) 0 c w := by
  have ho : RAN7[0]? = some ({ dst := some 33, op := Op.move (Operand.tmp 0), type := 31, pos := "edit.go:22", after := #[], guard := none } : Oper) := by kernel_rfl
  have e0 := hb.t0
  have hw : Region.wanted ({ dst := some 33, op := Op.move (Operand.tmp 0), type := 31, pos := "edit.go:22", after := #[], guard := none } : Oper) (yielded RAN7 c.tmps) = true := want_none rfl
  have ec : ∀ v, c.eval (.const v) = v := fun _ => rfl
  have ef : ∀ f, c.eval (.func f) = .func (.func f) #[] #[] := fun _ => rfl
  refine does_value ho hw (v := .pointer (some ⟨p.g, 0, none⟩)) ?_ rfl (Below.refl _ _)
  generalize c.eval = ρ at *
  clear hF hb hW hw ho
  go_simp
set_option maxRecDepth 10000 in
theorem oAN7_1 (p : GP) (nn : Int) (pv : Value) (B0 : Nat) (K : World → Value → Prop) (Q : Exit → Act → World → Prop) (c : Act) (w : World) (hb : BaseAN7 p nn pv B0 K c) (hW : WorldAN7 p nn pv B0 K w) (hF : ∀ q0 ∈ ancAN7 1, factsAt (factsAN7 p nn pv B0 K) q0 (val RAN7 c q0) w) :
    Does Tryz.prog RAN7 Q (factsAt (factsAN7 p nn pv B0 K)) 1 c w := by
  have ho : RAN7[1]? = some ({ dst := some 34, op := Op.nilCheck (Operand.tmp 33), type := 0, pos := "edit.go:22", after := #[{ on := 0, ground := Ground.data }], guard := none } : Oper) := by kernel_rfl
  have e33 : c.eval (.tmp 33) = .pointer (some ⟨p.g, 0, none⟩) := fact_at (p := eqv (.pointer (some ⟨p.g, 0, none⟩))) (by kernel_rfl) rfl (hF 0 (by decide))
  have hw : Region.wanted ({ dst := some 34, op := Op.nilCheck (Operand.tmp 33), type := 0, pos := "edit.go:22", after := #[{ on := 0, ground := Ground.data }], guard := none } : Oper) (yielded RAN7 c.tmps) = true := want_none rfl
  have ec : ∀ v, c.eval (.const v) = v := fun _ => rfl
  have ef : ∀ f, c.eval (.func f) = .func (.func f) #[] #[] := fun _ => rfl
  refine does_value ho hw (v := .pointer (some ⟨p.g, 0, none⟩)) ?_ rfl (Below.refl _ _)
  generalize c.eval = ρ at *
  clear hF hb hW hw ho
  go_simp
set_option maxRecDepth 10000 in
theorem oAN7_2 (p : GP) (nn : Int) (pv : Value) (B0 : Nat) (K : World → Value → Prop) (Q : Exit → Act → World → Prop) (c : Act) (w : World) (hb : BaseAN7 p nn pv B0 K c) (hW : WorldAN7 p nn pv B0 K w) (hF : ∀ q0 ∈ ancAN7 2, factsAt (factsAN7 p nn pv B0 K) q0 (val RAN7 c q0) w) :
    Does Tryz.prog RAN7 Q (factsAt (factsAN7 p nn pv B0 K)) 2 c w := by
  have ho : RAN7[2]? = some ({ dst := some 35, op := Op.fieldAddr 74 (Operand.tmp 34) 0, type := 0, pos := "edit.go:22", after := #[{ on := 1, ground := Ground.data }], guard := none } : Oper) := by kernel_rfl
  have e34 : c.eval (.tmp 34) = .pointer (some ⟨p.g, 0, none⟩) := fact_at (p := eqv (.pointer (some ⟨p.g, 0, none⟩))) (by kernel_rfl) rfl (hF 1 (by decide))
  have hw : Region.wanted ({ dst := some 35, op := Op.fieldAddr 74 (Operand.tmp 34) 0, type := 0, pos := "edit.go:22", after := #[{ on := 1, ground := Ground.data }], guard := none } : Oper) (yielded RAN7 c.tmps) = true := want_none rfl
  have ec : ∀ v, c.eval (.const v) = v := fun _ => rfl
  have ef : ∀ f, c.eval (.func f) = .func (.func f) #[] #[] := fun _ => rfl
  refine does_value ho hw (v := .pointer (some ⟨p.g, 0, none⟩)) ?_ rfl (Below.refl _ _)
  generalize c.eval = ρ at *
  clear hF hb hW hw ho
  go_simp
set_option maxRecDepth 10000 in
theorem oAN7_3 (p : GP) (nn : Int) (pv : Value) (B0 : Nat) (K : World → Value → Prop) (Q : Exit → Act → World → Prop) (c : Act) (w : World) (hb : BaseAN7 p nn pv B0 K c) (hW : WorldAN7 p nn pv B0 K w) (hF : ∀ q0 ∈ ancAN7 3, factsAt (factsAN7 p nn pv B0 K) q0 (val RAN7 c q0) w) :
    Does Tryz.prog RAN7 Q (factsAt (factsAN7 p nn pv B0 K)) 3 c w := by
  have ho : RAN7[3]? = some ({ dst := some 36, op := Op.fieldAddr 71 (Operand.tmp 35) 2, type := 0, pos := "edit.go:22", after := #[{ on := 2, ground := Ground.data }], guard := none } : Oper) := by kernel_rfl
  have e35 : c.eval (.tmp 35) = .pointer (some ⟨p.g, 0, none⟩) := fact_at (p := eqv (.pointer (some ⟨p.g, 0, none⟩))) (by kernel_rfl) rfl (hF 2 (by decide))
  have hw : Region.wanted ({ dst := some 36, op := Op.fieldAddr 71 (Operand.tmp 35) 2, type := 0, pos := "edit.go:22", after := #[{ on := 2, ground := Ground.data }], guard := none } : Oper) (yielded RAN7 c.tmps) = true := want_none rfl
  have ec : ∀ v, c.eval (.const v) = v := fun _ => rfl
  have ef : ∀ f, c.eval (.func f) = .func (.func f) #[] #[] := fun _ => rfl
  refine does_value ho hw (v := .pointer (some ⟨p.g, 2, none⟩)) ?_ rfl (Below.refl _ _)
  generalize c.eval = ρ at *
  clear hF hb hW hw ho
  go_simp
set_option maxRecDepth 10000 in
theorem oAN7_4 (p : GP) (nn : Int) (pv : Value) (B0 : Nat) (K : World → Value → Prop) (Q : Exit → Act → World → Prop) (c : Act) (w : World) (hb : BaseAN7 p nn pv B0 K c) (hW : WorldAN7 p nn pv B0 K w) (hF : ∀ q0 ∈ ancAN7 4, factsAt (factsAN7 p nn pv B0 K) q0 (val RAN7 c q0) w) :
    Does Tryz.prog RAN7 Q (factsAt (factsAN7 p nn pv B0 K)) 4 c w := by
  have ho : RAN7[4]? = some ({ dst := some 37, op := Op.load 2 (Operand.tmp 36), type := 2, pos := "edit.go:22", after := #[{ on := 3, ground := Ground.data }], guard := none } : Oper) := by kernel_rfl
  have e36 : c.eval (.tmp 36) = .pointer (some ⟨p.g, 2, none⟩) := fact_at (p := eqv (.pointer (some ⟨p.g, 2, none⟩))) (by kernel_rfl) rfl (hF 3 (by decide))
  have hw : Region.wanted ({ dst := some 37, op := Op.load 2 (Operand.tmp 36), type := 2, pos := "edit.go:22", after := #[{ on := 3, ground := Ground.data }], guard := none } : Oper) (yielded RAN7 c.tmps) = true := want_none rfl
  have ec : ∀ v, c.eval (.const v) = v := fun _ => rfl
  have ef : ∀ f, c.eval (.func f) = .func (.func f) #[] #[] := fun _ => rfl
  have c2 := hW.c2
  refine does_value ho hw (v := .int .i64 nn) ?_ rfl (Below.refl _ _)
  generalize c.eval = ρ at *
  clear hF hb hW hw ho
  go_simp
set_option maxRecDepth 10000 in
theorem oAN7_5 (p : GP) (nn : Int) (pv : Value) (B0 : Nat) (K : World → Value → Prop) (Q : Exit → Act → World → Prop) (c : Act) (w : World) (hb : BaseAN7 p nn pv B0 K c) (hW : WorldAN7 p nn pv B0 K w) (hF : ∀ q0 ∈ ancAN7 5, factsAt (factsAN7 p nn pv B0 K) q0 (val RAN7 c q0) w) :
    Does Tryz.prog RAN7 Q (factsAt (factsAN7 p nn pv B0 K)) 5 c w := by
  have ho : RAN7[5]? = some ({ dst := some 38, op := Op.move (Operand.tmp 2), type := 45, pos := "edit.go:22", after := #[], guard := none } : Oper) := by kernel_rfl
  have e2 := hb.t2
  have hw : Region.wanted ({ dst := some 38, op := Op.move (Operand.tmp 2), type := 45, pos := "edit.go:22", after := #[], guard := none } : Oper) (yielded RAN7 c.tmps) = true := want_none rfl
  have ec : ∀ v, c.eval (.const v) = v := fun _ => rfl
  have ef : ∀ f, c.eval (.func f) = .func (.func f) #[] #[] := fun _ => rfl
  refine does_value ho hw (v := pv) ?_ rfl (Below.refl _ _)
  generalize c.eval = ρ at *
  clear hF hb hW hw ho
  go_simp
set_option maxRecDepth 10000 in
theorem oAN7_6 (p : GP) (nn : Int) (pv : Value) (B0 : Nat) (K : World → Value → Prop) (Q : Exit → Act → World → Prop) (c : Act) (w : World) (hb : BaseAN7 p nn pv B0 K c) (hW : WorldAN7 p nn pv B0 K w) (hF : ∀ q0 ∈ ancAN7 6, factsAt (factsAN7 p nn pv B0 K) q0 (val RAN7 c q0) w) :
    Does Tryz.prog RAN7 Q (factsAt (factsAN7 p nn pv B0 K)) 6 c w := by
  have ho : RAN7[6]? = some ({ dst := some 39, op := Op.call { callee := Callee.value (Operand.func 88), args := #[Operand.tmp 38], argTypes := #[45] }, type := 45, pos := "edit.go:22", after := #[{ on := 5, ground := Ground.data }], guard := none } : Oper) := by kernel_rfl
  have e38 : c.eval (.tmp 38) = pv := fact_at (p := eqv (pv)) (by kernel_rfl) rfl (hF 5 (by decide))
  have hw : Region.wanted ({ dst := some 39, op := Op.call { callee := Callee.value (Operand.func 88), args := #[Operand.tmp 38], argTypes := #[45] }, type := 45, pos := "edit.go:22", after := #[{ on := 5, ground := Ground.data }], guard := none } : Oper) (yielded RAN7 c.tmps) = true := want_none rfl
  have ec : ∀ v, c.eval (.const v) = v := fun _ => rfl
  have ef : ∀ f, c.eval (.func f) = .func (.func f) #[] #[] := fun _ => rfl
  refine does_call ho hw (f := 88) (args := #[pv]) ?_ (hW.k6.mono fun e w' ⟨a, n, c, h1, h2, h3⟩ => ⟨_, h1, ⟨a, n, c, rfl, w', h2, Below.refl _ _⟩, h3⟩)
  generalize c.eval = ρ at *
  clear hF hb hW hw ho
  go_simp
set_option maxRecDepth 10000 in
theorem oAN7_7 (p : GP) (nn : Int) (pv : Value) (B0 : Nat) (K : World → Value → Prop) (Q : Exit → Act → World → Prop) (c : Act) (w : World) (hb : BaseAN7 p nn pv B0 K c) (hW : WorldAN7 p nn pv B0 K w) (hF : ∀ q0 ∈ ancAN7 7, factsAt (factsAN7 p nn pv B0 K) q0 (val RAN7 c q0) w) :
    Does Tryz.prog RAN7 Q (factsAt (factsAN7 p nn pv B0 K)) 7 c w := by
  have ho : RAN7[7]? = some ({ dst := some 40, op := Op.build 47 #[(0, Operand.tmp 37), (2, Operand.tmp 39)], type := 47, pos := "edit.go:22", after := #[{ on := 4, ground := Ground.data }, { on := 6, ground := Ground.data }], guard := none } : Oper) := by kernel_rfl
  have e37 : c.eval (.tmp 37) = .int .i64 nn := fact_at (p := eqv (.int .i64 nn)) (by kernel_rfl) rfl (hF 4 (by decide))
  have f39 : (fun v w => ∃ a n c, v = .slice a n c ∧ KB K w v) (c.eval (.tmp 39)) w := fact_at (by kernel_rfl) rfl (hF 6 (by decide))
  have hw : Region.wanted ({ dst := some 40, op := Op.build 47 #[(0, Operand.tmp 37), (2, Operand.tmp 39)], type := 47, pos := "edit.go:22", after := #[{ on := 4, ground := Ground.data }, { on := 6, ground := Ground.data }], guard := none } : Oper) (yielded RAN7 c.tmps) = true := want_none rfl
  have ec : ∀ v, c.eval (.const v) = v := fun _ => rfl
  have ef : ∀ f, c.eval (.func f) = .func (.func f) #[] #[] := fun _ => rfl
  obtain ⟨a, n, cc, e39, hk⟩ := f39
  rw [e39] at hk
  refine does_value ho hw (v := .agg #[.int .i64 nn, .slice none 0 0, .slice a n cc]) ?_ ⟨a, n, cc, rfl, hk⟩ (Below.refl _ _)
  generalize c.eval = ρ at *
  clear hF hb hW hw ho
  go_simp
set_option maxRecDepth 10000 in
theorem oAN7_8 (p : GP) (nn : Int) (pv : Value) (B0 : Nat) (K : World → Value → Prop) (Q : Exit → Act → World → Prop) (c : Act) (w : World) (hb : BaseAN7 p nn pv B0 K c) (hW : WorldAN7 p nn pv B0 K w) (hF : ∀ q0 ∈ ancAN7 8, factsAt (factsAN7 p nn pv B0 K) q0 (val RAN7 c q0) w) :
    Does Tryz.prog RAN7 Q (factsAt (factsAN7 p nn pv B0 K)) 8 c w := by
  have ho : RAN7[8]? = some ({ dst := some 8, op := Op.alloc 47, type := 0, pos := "edit.go:22", after := #[], guard := none } : Oper) := by kernel_rfl
  have hw : Region.wanted ({ dst := some 8, op := Op.alloc 47, type := 0, pos := "edit.go:22", after := #[], guard := none } : Oper) (yielded RAN7 c.tmps) = true := want_none rfl
  have ec : ∀ v, c.eval (.const v) = v := fun _ => rfl
  have ef : ∀ f, c.eval (.func f) = .func (.func f) #[] #[] := fun _ => rfl
  refine does_value ho hw (v := .pointer (some ⟨w.heap.size, 0, none⟩)) (w' := w.alloc (.cells #[.int .i64 0, .slice none 0 0, .slice none 0 0] 47)) ?_ ⟨w.heap.size, rfl, hW.b0, rec_new _ _ _⟩ ((Below.refl _ _).alloc (Nat.le_refl _) _)
  generalize c.eval = ρ at *
  clear hF hb hW hw ho
  go_simp
theorem stableAN7 (p : GP) (nn : Int) (pv : Value) (B0 : Nat) (K : World → Value → Prop) : ∀ pr ∈ factsAN7 p nn pv B0 K, Stable pr := by
  unfold factsAN7
  refine List.forall_mem_cons.2 ⟨eqv_stable _, ?_⟩
  refine List.forall_mem_cons.2 ⟨eqv_stable _, ?_⟩
  refine List.forall_mem_cons.2 ⟨eqv_stable _, ?_⟩
  refine List.forall_mem_cons.2 ⟨eqv_stable _, ?_⟩
  refine List.forall_mem_cons.2 ⟨eqv_stable _, ?_⟩
  refine List.forall_mem_cons.2 ⟨eqv_stable _, ?_⟩
  refine List.forall_mem_cons.2 ⟨fun v w w' ⟨a, n, c, h, hk⟩ hb => ⟨a, n, c, h, hk.grow hb⟩, ?_⟩
  refine List.forall_mem_cons.2 ⟨fun v w w' ⟨a, n, c, h, hk⟩ hb => ⟨a, n, c, h, hk.grow hb⟩, ?_⟩
  refine List.forall_mem_cons.2 ⟨fun v w w' ⟨X, h, hX, hr⟩ hb => ⟨X, h, hX, hr.below hb hr.lt⟩, ?_⟩
  exact List.forall_mem_nil _
set_option maxRecDepth 100000 in
theorem allAN7 (p : GP) (nn : Int) (pv : Value) (B0 : Nat) (K : World → Value → Prop) (Q : Exit → Act → World → Prop) : ∀ i, i < 9 → (fun i => ∀ c w, BaseAN7 p nn pv B0 K c → WorldAN7 p nn pv B0 K w → (∀ q0 ∈ ancAN7 i, factsAt (factsAN7 p nn pv B0 K) q0 (val RAN7 c q0) w) → Does Tryz.prog RAN7 Q (factsAt (factsAN7 p nn pv B0 K)) i c w) i := by
  refine below_succ ?_ (fun c w => oAN7_8 p nn pv B0 K Q c w)
  refine below_succ ?_ (fun c w => oAN7_7 p nn pv B0 K Q c w)
  refine below_succ ?_ (fun c w => oAN7_6 p nn pv B0 K Q c w)
  refine below_succ ?_ (fun c w => oAN7_5 p nn pv B0 K Q c w)
  refine below_succ ?_ (fun c w => oAN7_4 p nn pv B0 K Q c w)
  refine below_succ ?_ (fun c w => oAN7_3 p nn pv B0 K Q c w)
  refine below_succ ?_ (fun c w => oAN7_2 p nn pv B0 K Q c w)
  refine below_succ ?_ (fun c w => oAN7_1 p nn pv B0 K Q c w)
  refine below_succ ?_ (fun c w => oAN7_0 p nn pv B0 K Q c w)
  exact below_zero
theorem regionAN7 (p : GP) (nn : Int) (pv : Value) (B0 : Nat) (K : World → Value → Prop) (Q : Exit → Act → World → Prop) (base : Act) (w0 : World) (hsz : base.tmps.size = 79) (hb : BaseAN7 p nn pv B0 K base)
    (hW : ∀ w, Below w0.heap.size w0 w → WorldAN7 p nn pv B0 K w) (hL : ∀ c w, Same RAN7 base c → Below w0.heap.size w0 w → (fun v w => ∃ a n c, v = .agg #[.int .i64 nn, .slice none 0 0, .slice a n c] ∧ KB K w (.slice a n c)) (c.eval (.tmp 40)) w → (fun v w => ∃ X, v = .pointer (some ⟨X, 0, none⟩) ∧ B0 ≤ X ∧ Rec w X #[.int .i64 0, .slice none 0 0, .slice none 0 0] 47) (c.eval (.tmp 8)) w → ∃ w', (execOp c.eval ({ dst := none, op := Op.store 47 (Operand.tmp 8) (Operand.tmp 40), type := 0, pos := "edit.go:22", after := #[{ on := 8, ground := Ground.data }, { on := 7, ground := Ground.data }, { on := 6, ground := Ground.chain }, { on := 0, ground := Ground.phase }, { on := 1, ground := Ground.phase }, { on := 2, ground := Ground.phase }, { on := 3, ground := Ground.phase }, { on := 4, ground := Ground.phase }, { on := 5, ground := Ground.phase }, { on := 6, ground := Ground.phase }, { on := 7, ground := Ground.phase }, { on := 8, ground := Ground.phase }], guard := none } : Oper)).run Tryz.prog w = .ok .skip w' ∧ Q .normal c w') : (Code.region 7 RAN7 true).wp Tryz.prog Q base w0 := by
  have hall : (List.range 9).all (fun i => (slotOf RAN7 i).isSome) = true := by kernel_rfl
  refine facts_last (A := ancAN7) (F := factsAt (factsAN7 p nn pv B0 K)) 9 (by kernel_rfl) (by kernel_rfl) (by kernel_rfl) (by rw [hsz]; kernel_rfl) ?_ (by decide) (fun i v w w' => factsAt_stable (stableAN7 p nn pv B0 K) i v w w') ?_ ?_
  · exact fun i hi => Option.isSome_iff_exists.1 (List.all_eq_true.1 hall i (List.mem_range.2 hi))
  · intro i hi c w hS hB hF
    exact allAN7 p nn pv B0 K Q i hi c w ⟨(same_eval hS (by kernel_rfl)).trans hb.t0, (same_eval hS (by kernel_rfl)).trans hb.t2⟩ (hW w hB) hF
  · intro c w hS hB hF
    obtain ⟨w', h1, h2⟩ := hL c w hS hB (fact_at (p := fun v w => ∃ a n c, v = .agg #[.int .i64 nn, .slice none 0 0, .slice a n c] ∧ KB K w (.slice a n c)) (by kernel_rfl) rfl (hF 7 (by omega))) (fact_at (p := fun v w => ∃ X, v = .pointer (some ⟨X, 0, none⟩) ∧ B0 ≤ X ∧ Rec w X #[.int .i64 0, .slice none 0 0, .slice none 0 0] 47) (by kernel_rfl) rfl (hF 8 (by omega)))
    exact last_skip (by kernel_rfl) (want_none rfl) h1 h2
noncomputable def RAN13 : Array Oper := regionAt Tryz.f30 13
def ancAN13 (i : Nat) : List Nat := ([[], [0], [1], [2], [3], [], [5], [], [0, 1, 2, 3, 4, 5, 6, 7]] : List (List Nat)).getD i []
def factsAN13 (p : GP) (nn : Int) (X : Nat) (la pa : Option Addr) (ln lc pn pc : Nat) : List (Value → World → Prop) :=
  [eqv (.pointer (some ⟨p.g, 0, none⟩)), eqv (.pointer (some ⟨p.g, 0, none⟩)), eqv (.pointer (some ⟨p.g, 0, none⟩)), eqv (.pointer (some ⟨p.g, 0, none⟩)), eqv (.map (some p.n)), eqv (.pointer (some ⟨X, 0, none⟩)), eqv (.int .i64 nn), eqv (.agg #[.int .i64 nn, .slice la ln lc, .slice pa pn pc])]
structure BaseAN13 (p : GP) (nn : Int) (X : Nat) (la pa : Option Addr) (ln lc pn pc : Nat) (c : Act) : Prop where
  t0 : c.eval (.tmp 0) = .pointer (some ⟨p.g, 0, none⟩)
  t8 : c.eval (.tmp 8) = .pointer (some ⟨X, 0, none⟩)
structure WorldAN13 (p : GP) (nn : Int) (X : Nat) (la pa : Option Addr) (ln lc pn pc : Nat) (w : World) : Prop where
  c0 : w.cell? ⟨p.g, 0, none⟩ = some (.map (some p.n))
  x0 : w.cell? ⟨X, 0, none⟩ = some (.int .i64 nn)
  x1 : w.cell? ⟨X, 1, none⟩ = some (.slice la ln lc)
  x2 : w.cell? ⟨X, 2, none⟩ = some (.slice pa pn pc)
set_option maxRecDepth 10000 in
theorem oAN13_0 (p : GP) (nn : Int) (X : Nat) (la pa : Option Addr) (ln lc pn pc : Nat) (Q : Exit → Act → World → Prop) (c : Act) (w : World) (hb : BaseAN13 p nn X la pa ln lc pn pc c) (hW : WorldAN13 p nn X la pa ln lc pn pc w) (hF : ∀ q0 ∈ ancAN13 0, factsAt (factsAN13 p nn X la pa ln lc pn pc) q0 (val RAN13 c q0) w) :
    Does Tryz.prog RAN13 Q (factsAt (factsAN13 p nn X la pa ln lc pn pc)) 0 c w := by
  have ho : RAN13[0]? = some ({ dst := some 60, op := Op.move (Operand.tmp 0), type := 31, pos := "edit.go:27", after := #[], guard := none } : Oper) := by kernel_rfl
  have e0 := hb.t0
  have hw : Region.wanted ({ dst := some 60, op := Op.move (Operand.tmp 0), type := 31, pos := "edit.go:27", after := #[], guard := none } : Oper) (yielded RAN13 c.tmps) = true := want_none rfl
  have ec : ∀ v, c.eval (.const v) = v := fun _ => rfl
  have ef : ∀ f, c.eval (.func f) = .func (.func f) #[] #[] := fun _ => rfl
  refine does_value ho hw (v := .pointer (some ⟨p.g, 0, none⟩)) ?_ rfl (Below.refl _ _)
  generalize c.eval = ρ at *
  clear hF hb hW hw ho
  go_simp
set_option maxRecDepth 10000 in
theorem oAN13_1 (p : GP) (nn : Int) (X : Nat) (la pa : Option Addr) (ln lc pn pc : Nat) (Q : Exit → Act → World → Prop) (c : Act) (w : World) (hb : BaseAN13 p nn X la pa ln lc pn pc c) (hW : WorldAN13 p nn X la pa ln lc pn pc w) (hF : ∀ q0 ∈ ancAN13 1, factsAt (factsAN13 p nn X la pa ln lc pn pc) q0 (val RAN13 c q0) w) :
    Does Tryz.prog RAN13 Q (factsAt (factsAN13 p nn X la pa ln lc pn pc)) 1 c w := by
  have ho : RAN13[1]? = some ({ dst := some 61, op := Op.nilCheck (Operand.tmp 60), type := 0, pos := "edit.go:27", after := #[{ on := 0, ground := Ground.data }], guard := none } : Oper) := by kernel_rfl
  have e60 : c.eval (.tmp 60) = .pointer (some ⟨p.g, 0, none⟩) := fact_at (p := eqv (.pointer (some ⟨p.g, 0, none⟩))) (by kernel_rfl) rfl (hF 0 (by decide))
  have hw : Region.wanted ({ dst := some 61, op := Op.nilCheck (Operand.tmp 60), type := 0, pos := "edit.go:27", after := #[{ on := 0, ground := Ground.data }], guard := none } : Oper) (yielded RAN13 c.tmps) = true := want_none rfl
  have ec : ∀ v, c.eval (.const v) = v := fun _ => rfl
  have ef : ∀ f, c.eval (.func f) = .func (.func f) #[] #[] := fun _ => rfl
  refine does_value ho hw (v := .pointer (some ⟨p.g, 0, none⟩)) ?_ rfl (Below.refl _ _)
  generalize c.eval = ρ at *
  clear hF hb hW hw ho
  go_simp
set_option maxRecDepth 10000 in
theorem oAN13_2 (p : GP) (nn : Int) (X : Nat) (la pa : Option Addr) (ln lc pn pc : Nat) (Q : Exit → Act → World → Prop) (c : Act) (w : World) (hb : BaseAN13 p nn X la pa ln lc pn pc c) (hW : WorldAN13 p nn X la pa ln lc pn pc w) (hF : ∀ q0 ∈ ancAN13 2, factsAt (factsAN13 p nn X la pa ln lc pn pc) q0 (val RAN13 c q0) w) :
    Does Tryz.prog RAN13 Q (factsAt (factsAN13 p nn X la pa ln lc pn pc)) 2 c w := by
  have ho : RAN13[2]? = some ({ dst := some 62, op := Op.fieldAddr 74 (Operand.tmp 61) 0, type := 0, pos := "edit.go:27", after := #[{ on := 1, ground := Ground.data }], guard := none } : Oper) := by kernel_rfl
  have e61 : c.eval (.tmp 61) = .pointer (some ⟨p.g, 0, none⟩) := fact_at (p := eqv (.pointer (some ⟨p.g, 0, none⟩))) (by kernel_rfl) rfl (hF 1 (by decide))
  have hw : Region.wanted ({ dst := some 62, op := Op.fieldAddr 74 (Operand.tmp 61) 0, type := 0, pos := "edit.go:27", after := #[{ on := 1, ground := Ground.data }], guard := none } : Oper) (yielded RAN13 c.tmps) = true := want_none rfl
  have ec : ∀ v, c.eval (.const v) = v := fun _ => rfl
  have ef : ∀ f, c.eval (.func f) = .func (.func f) #[] #[] := fun _ => rfl
  refine does_value ho hw (v := .pointer (some ⟨p.g, 0, none⟩)) ?_ rfl (Below.refl _ _)
  generalize c.eval = ρ at *
  clear hF hb hW hw ho
  go_simp
set_option maxRecDepth 10000 in
theorem oAN13_3 (p : GP) (nn : Int) (X : Nat) (la pa : Option Addr) (ln lc pn pc : Nat) (Q : Exit → Act → World → Prop) (c : Act) (w : World) (hb : BaseAN13 p nn X la pa ln lc pn pc c) (hW : WorldAN13 p nn X la pa ln lc pn pc w) (hF : ∀ q0 ∈ ancAN13 3, factsAt (factsAN13 p nn X la pa ln lc pn pc) q0 (val RAN13 c q0) w) :
    Does Tryz.prog RAN13 Q (factsAt (factsAN13 p nn X la pa ln lc pn pc)) 3 c w := by
  have ho : RAN13[3]? = some ({ dst := some 63, op := Op.fieldAddr 71 (Operand.tmp 62) 0, type := 0, pos := "edit.go:27", after := #[{ on := 2, ground := Ground.data }], guard := none } : Oper) := by kernel_rfl
  have e62 : c.eval (.tmp 62) = .pointer (some ⟨p.g, 0, none⟩) := fact_at (p := eqv (.pointer (some ⟨p.g, 0, none⟩))) (by kernel_rfl) rfl (hF 2 (by decide))
  have hw : Region.wanted ({ dst := some 63, op := Op.fieldAddr 71 (Operand.tmp 62) 0, type := 0, pos := "edit.go:27", after := #[{ on := 2, ground := Ground.data }], guard := none } : Oper) (yielded RAN13 c.tmps) = true := want_none rfl
  have ec : ∀ v, c.eval (.const v) = v := fun _ => rfl
  have ef : ∀ f, c.eval (.func f) = .func (.func f) #[] #[] := fun _ => rfl
  refine does_value ho hw (v := .pointer (some ⟨p.g, 0, none⟩)) ?_ rfl (Below.refl _ _)
  generalize c.eval = ρ at *
  clear hF hb hW hw ho
  go_simp
set_option maxRecDepth 10000 in
theorem oAN13_4 (p : GP) (nn : Int) (X : Nat) (la pa : Option Addr) (ln lc pn pc : Nat) (Q : Exit → Act → World → Prop) (c : Act) (w : World) (hb : BaseAN13 p nn X la pa ln lc pn pc c) (hW : WorldAN13 p nn X la pa ln lc pn pc w) (hF : ∀ q0 ∈ ancAN13 4, factsAt (factsAN13 p nn X la pa ln lc pn pc) q0 (val RAN13 c q0) w) :
    Does Tryz.prog RAN13 Q (factsAt (factsAN13 p nn X la pa ln lc pn pc)) 4 c w := by
  have ho : RAN13[4]? = some ({ dst := some 64, op := Op.load 68 (Operand.tmp 63), type := 68, pos := "edit.go:27", after := #[{ on := 3, ground := Ground.data }], guard := none } : Oper) := by kernel_rfl
  have e63 : c.eval (.tmp 63) = .pointer (some ⟨p.g, 0, none⟩) := fact_at (p := eqv (.pointer (some ⟨p.g, 0, none⟩))) (by kernel_rfl) rfl (hF 3 (by decide))
  have hw : Region.wanted ({ dst := some 64, op := Op.load 68 (Operand.tmp 63), type := 68, pos := "edit.go:27", after := #[{ on := 3, ground := Ground.data }], guard := none } : Oper) (yielded RAN13 c.tmps) = true := want_none rfl
  have ec : ∀ v, c.eval (.const v) = v := fun _ => rfl
  have ef : ∀ f, c.eval (.func f) = .func (.func f) #[] #[] := fun _ => rfl
  have c0 := hW.c0
  refine does_value ho hw (v := .map (some p.n)) ?_ rfl (Below.refl _ _)
  generalize c.eval = ρ at *
  clear hF hb hW hw ho
  go_simp
set_option maxRecDepth 10000 in
theorem oAN13_5 (p : GP) (nn : Int) (X : Nat) (la pa : Option Addr) (ln lc pn pc : Nat) (Q : Exit → Act → World → Prop) (c : Act) (w : World) (hb : BaseAN13 p nn X la pa ln lc pn pc c) (hW : WorldAN13 p nn X la pa ln lc pn pc w) (hF : ∀ q0 ∈ ancAN13 5, factsAt (factsAN13 p nn X la pa ln lc pn pc) q0 (val RAN13 c q0) w) :
    Does Tryz.prog RAN13 Q (factsAt (factsAN13 p nn X la pa ln lc pn pc)) 5 c w := by
  have ho : RAN13[5]? = some ({ dst := some 65, op := Op.fieldAddr 47 (Operand.tmp 8) 0, type := 0, pos := "edit.go:27", after := #[], guard := none } : Oper) := by kernel_rfl
  have e8 := hb.t8
  have hw : Region.wanted ({ dst := some 65, op := Op.fieldAddr 47 (Operand.tmp 8) 0, type := 0, pos := "edit.go:27", after := #[], guard := none } : Oper) (yielded RAN13 c.tmps) = true := want_none rfl
  have ec : ∀ v, c.eval (.const v) = v := fun _ => rfl
  have ef : ∀ f, c.eval (.func f) = .func (.func f) #[] #[] := fun _ => rfl
  refine does_value ho hw (v := .pointer (some ⟨X, 0, none⟩)) ?_ rfl (Below.refl _ _)
  generalize c.eval = ρ at *
  clear hF hb hW hw ho
  go_simp
set_option maxRecDepth 10000 in
theorem oAN13_6 (p : GP) (nn : Int) (X : Nat) (la pa : Option Addr) (ln lc pn pc : Nat) (Q : Exit → Act → World → Prop) (c : Act) (w : World) (hb : BaseAN13 p nn X la pa ln lc pn pc c) (hW : WorldAN13 p nn X la pa ln lc pn pc w) (hF : ∀ q0 ∈ ancAN13 6, factsAt (factsAN13 p nn X la pa ln lc pn pc) q0 (val RAN13 c q0) w) :
    Does Tryz.prog RAN13 Q (factsAt (factsAN13 p nn X la pa ln lc pn pc)) 6 c w := by
  have ho : RAN13[6]? = some ({ dst := some 66, op := Op.load 2 (Operand.tmp 65), type := 2, pos := "edit.go:27", after := #[{ on := 5, ground := Ground.data }], guard := none } : Oper) := by kernel_rfl
  have e65 : c.eval (.tmp 65) = .pointer (some ⟨X, 0, none⟩) := fact_at (p := eqv (.pointer (some ⟨X, 0, none⟩))) (by kernel_rfl) rfl (hF 5 (by decide))
  have hw : Region.wanted ({ dst := some 66, op := Op.load 2 (Operand.tmp 65), type := 2, pos := "edit.go:27", after := #[{ on := 5, ground := Ground.data }], guard := none } : Oper) (yielded RAN13 c.tmps) = true := want_none rfl
  have ec : ∀ v, c.eval (.const v) = v := fun _ => rfl
  have ef : ∀ f, c.eval (.func f) = .func (.func f) #[] #[] := fun _ => rfl
  have x0 := hW.x0
  refine does_value ho hw (v := .int .i64 nn) ?_ rfl (Below.refl _ _)
  generalize c.eval = ρ at *
  clear hF hb hW hw ho
  go_simp
set_option maxRecDepth 10000 in
theorem oAN13_7 (p : GP) (nn : Int) (X : Nat) (la pa : Option Addr) (ln lc pn pc : Nat) (Q : Exit → Act → World → Prop) (c : Act) (w : World) (hb : BaseAN13 p nn X la pa ln lc pn pc c) (hW : WorldAN13 p nn X la pa ln lc pn pc w) (hF : ∀ q0 ∈ ancAN13 7, factsAt (factsAN13 p nn X la pa ln lc pn pc) q0 (val RAN13 c q0) w) :
    Does Tryz.prog RAN13 Q (factsAt (factsAN13 p nn X la pa ln lc pn pc)) 7 c w := by
  have ho : RAN13[7]? = some ({ dst := some 67, op := Op.load 47 (Operand.tmp 8), type := 47, pos := "edit.go:27", after := #[], guard := none } : Oper) := by kernel_rfl
  have e8 := hb.t8
  have hw : Region.wanted ({ dst := some 67, op := Op.load 47 (Operand.tmp 8), type := 47, pos := "edit.go:27", after := #[], guard := none } : Oper) (yielded RAN13 c.tmps) = true := want_none rfl
  have ec : ∀ v, c.eval (.const v) = v := fun _ => rfl
  have ef : ∀ f, c.eval (.func f) = .func (.func f) #[] #[] := fun _ => rfl
  have x0 := hW.x0
  have x1 := hW.x1
  have x2 := hW.x2
  refine does_value ho hw (v := .agg #[.int .i64 nn, .slice la ln lc, .slice pa pn pc]) ?_ rfl (Below.refl _ _)
  generalize c.eval = ρ at *
  clear hF hb hW hw ho
  go_simp
theorem stableAN13 (p : GP) (nn : Int) (X : Nat) (la pa : Option Addr) (ln lc pn pc : Nat) : ∀ pr ∈ factsAN13 p nn X la pa ln lc pn pc, Stable pr := by
  unfold factsAN13
  refine List.forall_mem_cons.2 ⟨eqv_stable _, ?_⟩
  refine List.forall_mem_cons.2 ⟨eqv_stable _, ?_⟩
  refine List.forall_mem_cons.2 ⟨eqv_stable _, ?_⟩
  refine List.forall_mem_cons.2 ⟨eqv_stable _, ?_⟩
  refine List.forall_mem_cons.2 ⟨eqv_stable _, ?_⟩
  refine List.forall_mem_cons.2 ⟨eqv_stable _, ?_⟩
  refine List.forall_mem_cons.2 ⟨eqv_stable _, ?_⟩
  refine List.forall_mem_cons.2 ⟨eqv_stable _, ?_⟩
  exact List.forall_mem_nil _
set_option maxRecDepth 100000 in
theorem allAN13 (p : GP) (nn : Int) (X : Nat) (la pa : Option Addr) (ln lc pn pc : Nat) (Q : Exit → Act → World → Prop) : ∀ i, i < 8 → (fun i => ∀ c w, BaseAN13 p nn X la pa ln lc pn pc c → WorldAN13 p nn X la pa ln lc pn pc w → (∀ q0 ∈ ancAN13 i, factsAt (factsAN13 p nn X la pa ln lc pn pc) q0 (val RAN13 c q0) w) → Does Tryz.prog RAN13 Q (factsAt (factsAN13 p nn X la pa ln lc pn pc)) i c w) i := by
  refine below_succ ?_ (fun c w => oAN13_7 p nn X la pa ln lc pn pc Q c w)
  refine below_succ ?_ (fun c w => oAN13_6 p nn X la pa ln lc pn pc Q c w)
  refine below_succ ?_ (fun c w => oAN13_5 p nn X la pa ln lc pn pc Q c w)
  refine below_succ ?_ (fun c w => oAN13_4 p nn X la pa ln lc pn pc Q c w)
  refine below_succ ?_ (fun c w => oAN13_3 p nn X la pa ln lc pn pc Q c w)
  refine below_succ ?_ (fun c w => oAN13_2 p nn X la pa ln lc pn pc Q c w)
  refine below_succ ?_ (fun c w => oAN13_1 p nn X la pa ln lc pn pc Q c w)
  refine below_succ ?_ (fun c w => oAN13_0 p nn X la pa ln lc pn pc Q c w)
  exact below_zero
theorem regionAN13 (p : GP) (nn : Int) (X : Nat) (la pa : Option Addr) (ln lc pn pc : Nat) (Q : Exit → Act → World → Prop) (base : Act) (w0 : World) (hsz : base.tmps.size = 79) (hb : BaseAN13 p nn X la pa ln lc pn pc base)
    (hW : ∀ w, Below w0.heap.size w0 w → WorldAN13 p nn X la pa ln lc pn pc w) (hL : ∀ c w, Same RAN13 base c → Below w0.heap.size w0 w → c.eval (.tmp 64) = .map (some p.n) → c.eval (.tmp 66) = .int .i64 nn → c.eval (.tmp 67) = .agg #[.int .i64 nn, .slice la ln lc, .slice pa pn pc] → ∃ w', (execOp c.eval ({ dst := none, op := Op.mapUpdate 68 (Operand.tmp 64) (Operand.tmp 66) (Operand.tmp 67), type := 0, pos := "edit.go:27", after := #[{ on := 4, ground := Ground.data }, { on := 6, ground := Ground.data }, { on := 7, ground := Ground.data }, { on := 0, ground := Ground.phase }, { on := 1, ground := Ground.phase }, { on := 2, ground := Ground.phase }, { on := 3, ground := Ground.phase }, { on := 4, ground := Ground.phase }, { on := 5, ground := Ground.phase }, { on := 6, ground := Ground.phase }, { on := 7, ground := Ground.phase }], guard := none } : Oper)).run Tryz.prog w = .ok .skip w' ∧ Q .normal c w') : (Code.region 13 RAN13 true).wp Tryz.prog Q base w0 := by
  have hall : (List.range 8).all (fun i => (slotOf RAN13 i).isSome) = true := by kernel_rfl
  refine facts_last (A := ancAN13) (F := factsAt (factsAN13 p nn X la pa ln lc pn pc)) 8 (by kernel_rfl) (by kernel_rfl) (by kernel_rfl) (by rw [hsz]; kernel_rfl) ?_ (by decide) (fun i v w w' => factsAt_stable (stableAN13 p nn X la pa ln lc pn pc) i v w w') ?_ ?_
  · exact fun i hi => Option.isSome_iff_exists.1 (List.all_eq_true.1 hall i (List.mem_range.2 hi))
  · intro i hi c w hS hB hF
    exact allAN13 p nn X la pa ln lc pn pc Q i hi c w ⟨(same_eval hS (by kernel_rfl)).trans hb.t0, (same_eval hS (by kernel_rfl)).trans hb.t8⟩ (hW w hB) hF
  · intro c w hS hB hF
    obtain ⟨w', h1, h2⟩ := hL c w hS hB (fact_at (p := eqv (.map (some p.n))) (by kernel_rfl) rfl (hF 4 (by omega))) (fact_at (p := eqv (.int .i64 nn)) (by kernel_rfl) rfl (hF 6 (by omega))) (fact_at (p := eqv (.agg #[.int .i64 nn, .slice la ln lc, .slice pa pn pc])) (by kernel_rfl) rfl (hF 7 (by omega)))
    exact last_skip (by kernel_rfl) (want_none rfl) h1 h2
end Go.Proofs.YteddjlbfbpecjaaGreatDoor
