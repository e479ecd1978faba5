/- Two statements of tell, in whatever order their operations are done. -/
import Derived.Test.YteddjlbfbpecjaaGreatDoorGed20
namespace Go.Proofs.YteddjlbfbpecjaaGreatDoor
open Go.RowKit Go.Shelf Go.WideShapes
set_option linter.unusedVariables false
set_option linter.unusedSimpArgs false
noncomputable def RTL1 : Array Oper := regionAt Tryz.f52 1
def ancTL1 (i : Nat) : List Nat := ([[], [0], [1], [2], [], [4], [5], [6], [3, 7], [], [0, 1, 2, 3, 4, 5, 6, 7, 8, 9]] : List (List Nat)).getD i []
def factsTL1 (p : GP) (nn nr : Int) (B0 : Nat) : List (Value → World → Prop) :=
  [eqv (.pointer (some ⟨p.g, 0, none⟩)), eqv (.pointer (some ⟨p.g, 0, none⟩)), eqv (.pointer (some ⟨p.g, 2, none⟩)), eqv (.int .i64 nn), eqv (.pointer (some ⟨p.g, 0, none⟩)), eqv (.pointer (some ⟨p.g, 0, none⟩)), eqv (.pointer (some ⟨p.g, 3, none⟩)), eqv (.int .i64 nr), eqv (.agg #[.slice none 0 0, .slice none 0 0, .int .i64 nn, .int .i64 nr]), fun v w => ∃ X, v = .pointer (some ⟨X, 0, none⟩) ∧ B0 ≤ X ∧ Rec w X #[.slice none 0 0, .slice none 0 0, .int .i64 0, .int .i64 0] 25]
structure BaseTL1 (p : GP) (nn nr : Int) (B0 : Nat) (c : Act) : Prop where
  t0 : c.eval (.tmp 0) = .pointer (some ⟨p.g, 0, none⟩)
structure WorldTL1 (p : GP) (nn nr : Int) (B0 : Nat) (w : World) : Prop where
  c2 : w.cell? ⟨p.g, 2, none⟩ = some (.int .i64 nn)
  c3 : w.cell? ⟨p.g, 3, none⟩ = some (.int .i64 nr)
  b0 : B0 ≤ w.heap.size
set_option maxRecDepth 10000 in
theorem oTL1_0 (p : GP) (nn nr : Int) (B0 : Nat) (Q : Exit → Act → World → Prop) (c : Act) (w : World) (hb : BaseTL1 p nn nr B0 c) (hW : WorldTL1 p nn nr B0 w) (hF : ∀ q0 ∈ ancTL1 0, factsAt (factsTL1 p nn nr B0) q0 (val RTL1 c q0) w) :
    Does Tryz.prog RTL1 Q (factsAt (factsTL1 p nn nr B0)) 0 c w := by
  have ho : RTL1[0]? = some ({ dst := some 8, op := Op.move (Operand.tmp 0), type := 153, pos := "graph.go:126", after := #[], guard := none } : Oper) := by kernel_rfl
  have e0 := hb.t0
  have hw : Region.wanted ({ dst := some 8, op := Op.move (Operand.tmp 0), type := 153, pos := "graph.go:126", after := #[], guard := none } : Oper) (yielded RTL1 c.tmps) = true := want_none rfl
  have ec : ∀ v, c.eval (.const v) = v := fun _ => rfl
  have ef : ∀ f, c.eval (.func f) = .func (.func f) #[] #[] := fun _ => rfl
  refine does_value ho hw (v := .pointer (some ⟨p.g, 0, none⟩)) ?_ rfl (Below.refl _ _)
  generalize c.eval = ρ at *
  clear hF hb hW hw ho
  go_simp
set_option maxRecDepth 10000 in
theorem oTL1_1 (p : GP) (nn nr : Int) (B0 : Nat) (Q : Exit → Act → World → Prop) (c : Act) (w : World) (hb : BaseTL1 p nn nr B0 c) (hW : WorldTL1 p nn nr B0 w) (hF : ∀ q0 ∈ ancTL1 1, factsAt (factsTL1 p nn nr B0) q0 (val RTL1 c q0) w) :
    Does Tryz.prog RTL1 Q (factsAt (factsTL1 p nn nr B0)) 1 c w := by
  have ho : RTL1[1]? = some ({ dst := some 9, op := Op.nilCheck (Operand.tmp 8), type := 0, pos := "graph.go:126", after := #[{ on := 0, ground := Ground.data }], guard := none } : Oper) := by kernel_rfl
  have e8 : c.eval (.tmp 8) = .pointer (some ⟨p.g, 0, none⟩) := fact_at (p := eqv (.pointer (some ⟨p.g, 0, none⟩))) (by kernel_rfl) rfl (hF 0 (by decide))
  have hw : Region.wanted ({ dst := some 9, op := Op.nilCheck (Operand.tmp 8), type := 0, pos := "graph.go:126", after := #[{ on := 0, ground := Ground.data }], guard := none } : Oper) (yielded RTL1 c.tmps) = true := want_none rfl
  have ec : ∀ v, c.eval (.const v) = v := fun _ => rfl
  have ef : ∀ f, c.eval (.func f) = .func (.func f) #[] #[] := fun _ => rfl
  refine does_value ho hw (v := .pointer (some ⟨p.g, 0, none⟩)) ?_ rfl (Below.refl _ _)
  generalize c.eval = ρ at *
  clear hF hb hW hw ho
  go_simp
set_option maxRecDepth 10000 in
theorem oTL1_2 (p : GP) (nn nr : Int) (B0 : Nat) (Q : Exit → Act → World → Prop) (c : Act) (w : World) (hb : BaseTL1 p nn nr B0 c) (hW : WorldTL1 p nn nr B0 w) (hF : ∀ q0 ∈ ancTL1 2, factsAt (factsTL1 p nn nr B0) q0 (val RTL1 c q0) w) :
    Does Tryz.prog RTL1 Q (factsAt (factsTL1 p nn nr B0)) 2 c w := by
  have ho : RTL1[2]? = some ({ dst := some 10, op := Op.fieldAddr 71 (Operand.tmp 9) 2, type := 0, pos := "graph.go:126", after := #[{ on := 1, ground := Ground.data }], guard := none } : Oper) := by kernel_rfl
  have e9 : c.eval (.tmp 9) = .pointer (some ⟨p.g, 0, none⟩) := fact_at (p := eqv (.pointer (some ⟨p.g, 0, none⟩))) (by kernel_rfl) rfl (hF 1 (by decide))
  have hw : Region.wanted ({ dst := some 10, op := Op.fieldAddr 71 (Operand.tmp 9) 2, type := 0, pos := "graph.go:126", after := #[{ on := 1, ground := Ground.data }], guard := none } : Oper) (yielded RTL1 c.tmps) = true := want_none rfl
  have ec : ∀ v, c.eval (.const v) = v := fun _ => rfl
  have ef : ∀ f, c.eval (.func f) = .func (.func f) #[] #[] := fun _ => rfl
  refine does_value ho hw (v := .pointer (some ⟨p.g, 2, none⟩)) ?_ rfl (Below.refl _ _)
  generalize c.eval = ρ at *
  clear hF hb hW hw ho
  go_simp
set_option maxRecDepth 10000 in
theorem oTL1_3 (p : GP) (nn nr : Int) (B0 : Nat) (Q : Exit → Act → World → Prop) (c : Act) (w : World) (hb : BaseTL1 p nn nr B0 c) (hW : WorldTL1 p nn nr B0 w) (hF : ∀ q0 ∈ ancTL1 3, factsAt (factsTL1 p nn nr B0) q0 (val RTL1 c q0) w) :
    Does Tryz.prog RTL1 Q (factsAt (factsTL1 p nn nr B0)) 3 c w := by
  have ho : RTL1[3]? = some ({ dst := some 11, op := Op.load 2 (Operand.tmp 10), type := 2, pos := "graph.go:126", after := #[{ on := 2, ground := Ground.data }], guard := none } : Oper) := by kernel_rfl
  have e10 : c.eval (.tmp 10) = .pointer (some ⟨p.g, 2, none⟩) := fact_at (p := eqv (.pointer (some ⟨p.g, 2, none⟩))) (by kernel_rfl) rfl (hF 2 (by decide))
  have hw : Region.wanted ({ dst := some 11, op := Op.load 2 (Operand.tmp 10), type := 2, pos := "graph.go:126", after := #[{ on := 2, ground := Ground.data }], guard := none } : Oper) (yielded RTL1 c.tmps) = true := want_none rfl
  have ec : ∀ v, c.eval (.const v) = v := fun _ => rfl
  have ef : ∀ f, c.eval (.func f) = .func (.func f) #[] #[] := fun _ => rfl
  have c2 := hW.c2
  refine does_value ho hw (v := .int .i64 nn) ?_ rfl (Below.refl _ _)
  generalize c.eval = ρ at *
  clear hF hb hW hw ho
  go_simp
set_option maxRecDepth 10000 in
theorem oTL1_4 (p : GP) (nn nr : Int) (B0 : Nat) (Q : Exit → Act → World → Prop) (c : Act) (w : World) (hb : BaseTL1 p nn nr B0 c) (hW : WorldTL1 p nn nr B0 w) (hF : ∀ q0 ∈ ancTL1 4, factsAt (factsTL1 p nn nr B0) q0 (val RTL1 c q0) w) :
    Does Tryz.prog RTL1 Q (factsAt (factsTL1 p nn nr B0)) 4 c w := by
  have ho : RTL1[4]? = some ({ dst := some 12, op := Op.move (Operand.tmp 0), type := 153, pos := "graph.go:126", after := #[], guard := none } : Oper) := by kernel_rfl
  have e0 := hb.t0
  have hw : Region.wanted ({ dst := some 12, op := Op.move (Operand.tmp 0), type := 153, pos := "graph.go:126", after := #[], guard := none } : Oper) (yielded RTL1 c.tmps) = true := want_none rfl
  have ec : ∀ v, c.eval (.const v) = v := fun _ => rfl
  have ef : ∀ f, c.eval (.func f) = .func (.func f) #[] #[] := fun _ => rfl
  refine does_value ho hw (v := .pointer (some ⟨p.g, 0, none⟩)) ?_ rfl (Below.refl _ _)
  generalize c.eval = ρ at *
  clear hF hb hW hw ho
  go_simp
set_option maxRecDepth 10000 in
theorem oTL1_5 (p : GP) (nn nr : Int) (B0 : Nat) (Q : Exit → Act → World → Prop) (c : Act) (w : World) (hb : BaseTL1 p nn nr B0 c) (hW : WorldTL1 p nn nr B0 w) (hF : ∀ q0 ∈ ancTL1 5, factsAt (factsTL1 p nn nr B0) q0 (val RTL1 c q0) w) :
    Does Tryz.prog RTL1 Q (factsAt (factsTL1 p nn nr B0)) 5 c w := by
  have ho : RTL1[5]? = some ({ dst := some 13, op := Op.nilCheck (Operand.tmp 12), type := 0, pos := "graph.go:126", after := #[{ on := 4, ground := Ground.data }], guard := none } : Oper) := by kernel_rfl
  have e12 : c.eval (.tmp 12) = .pointer (some ⟨p.g, 0, none⟩) := fact_at (p := eqv (.pointer (some ⟨p.g, 0, none⟩))) (by kernel_rfl) rfl (hF 4 (by decide))
  have hw : Region.wanted ({ dst := some 13, op := Op.nilCheck (Operand.tmp 12), type := 0, pos := "graph.go:126", after := #[{ on := 4, ground := Ground.data }], guard := none } : Oper) (yielded RTL1 c.tmps) = true := want_none rfl
  have ec : ∀ v, c.eval (.const v) = v := fun _ => rfl
  have ef : ∀ f, c.eval (.func f) = .func (.func f) #[] #[] := fun _ => rfl
  refine does_value ho hw (v := .pointer (some ⟨p.g, 0, none⟩)) ?_ rfl (Below.refl _ _)
  generalize c.eval = ρ at *
  clear hF hb hW hw ho
  go_simp
set_option maxRecDepth 10000 in
theorem oTL1_6 (p : GP) (nn nr : Int) (B0 : Nat) (Q : Exit → Act → World → Prop) (c : Act) (w : World) (hb : BaseTL1 p nn nr B0 c) (hW : WorldTL1 p nn nr B0 w) (hF : ∀ q0 ∈ ancTL1 6, factsAt (factsTL1 p nn nr B0) q0 (val RTL1 c q0) w) :
    Does Tryz.prog RTL1 Q (factsAt (factsTL1 p nn nr B0)) 6 c w := by
  have ho : RTL1[6]? = some ({ dst := some 14, op := Op.fieldAddr 71 (Operand.tmp 13) 3, type := 0, pos := "graph.go:126", after := #[{ on := 5, ground := Ground.data }], guard := none } : Oper) := by kernel_rfl
  have e13 : c.eval (.tmp 13) = .pointer (some ⟨p.g, 0, none⟩) := fact_at (p := eqv (.pointer (some ⟨p.g, 0, none⟩))) (by kernel_rfl) rfl (hF 5 (by decide))
  have hw : Region.wanted ({ dst := some 14, op := Op.fieldAddr 71 (Operand.tmp 13) 3, type := 0, pos := "graph.go:126", after := #[{ on := 5, ground := Ground.data }], guard := none } : Oper) (yielded RTL1 c.tmps) = true := want_none rfl
  have ec : ∀ v, c.eval (.const v) = v := fun _ => rfl
  have ef : ∀ f, c.eval (.func f) = .func (.func f) #[] #[] := fun _ => rfl
  refine does_value ho hw (v := .pointer (some ⟨p.g, 3, none⟩)) ?_ rfl (Below.refl _ _)
  generalize c.eval = ρ at *
  clear hF hb hW hw ho
  go_simp
set_option maxRecDepth 10000 in
theorem oTL1_7 (p : GP) (nn nr : Int) (B0 : Nat) (Q : Exit → Act → World → Prop) (c : Act) (w : World) (hb : BaseTL1 p nn nr B0 c) (hW : WorldTL1 p nn nr B0 w) (hF : ∀ q0 ∈ ancTL1 7, factsAt (factsTL1 p nn nr B0) q0 (val RTL1 c q0) w) :
    Does Tryz.prog RTL1 Q (factsAt (factsTL1 p nn nr B0)) 7 c w := by
  have ho : RTL1[7]? = some ({ dst := some 15, op := Op.load 2 (Operand.tmp 14), type := 2, pos := "graph.go:126", after := #[{ on := 6, ground := Ground.data }], guard := none } : Oper) := by kernel_rfl
  have e14 : c.eval (.tmp 14) = .pointer (some ⟨p.g, 3, none⟩) := fact_at (p := eqv (.pointer (some ⟨p.g, 3, none⟩))) (by kernel_rfl) rfl (hF 6 (by decide))
  have hw : Region.wanted ({ dst := some 15, op := Op.load 2 (Operand.tmp 14), type := 2, pos := "graph.go:126", after := #[{ on := 6, ground := Ground.data }], guard := none } : Oper) (yielded RTL1 c.tmps) = true := want_none rfl
  have ec : ∀ v, c.eval (.const v) = v := fun _ => rfl
  have ef : ∀ f, c.eval (.func f) = .func (.func f) #[] #[] := fun _ => rfl
  have c3 := hW.c3
  refine does_value ho hw (v := .int .i64 nr) ?_ rfl (Below.refl _ _)
  generalize c.eval = ρ at *
  clear hF hb hW hw ho
  go_simp
set_option maxRecDepth 10000 in
theorem oTL1_8 (p : GP) (nn nr : Int) (B0 : Nat) (Q : Exit → Act → World → Prop) (c : Act) (w : World) (hb : BaseTL1 p nn nr B0 c) (hW : WorldTL1 p nn nr B0 w) (hF : ∀ q0 ∈ ancTL1 8, factsAt (factsTL1 p nn nr B0) q0 (val RTL1 c q0) w) :
    Does Tryz.prog RTL1 Q (factsAt (factsTL1 p nn nr B0)) 8 c w := by
  have ho : RTL1[8]? = some ({ dst := some 16, op := Op.build 25 #[(2, Operand.tmp 11), (3, Operand.tmp 15)], type := 25, pos := "graph.go:126", after := #[{ on := 3, ground := Ground.data }, { on := 7, ground := Ground.data }], guard := none } : Oper) := by kernel_rfl
  have e11 : c.eval (.tmp 11) = .int .i64 nn := fact_at (p := eqv (.int .i64 nn)) (by kernel_rfl) rfl (hF 3 (by decide))
  have e15 : c.eval (.tmp 15) = .int .i64 nr := fact_at (p := eqv (.int .i64 nr)) (by kernel_rfl) rfl (hF 7 (by decide))
  have hw : Region.wanted ({ dst := some 16, op := Op.build 25 #[(2, Operand.tmp 11), (3, Operand.tmp 15)], type := 25, pos := "graph.go:126", after := #[{ on := 3, ground := Ground.data }, { on := 7, ground := Ground.data }], guard := none } : Oper) (yielded RTL1 c.tmps) = true := want_none rfl
  have ec : ∀ v, c.eval (.const v) = v := fun _ => rfl
  have ef : ∀ f, c.eval (.func f) = .func (.func f) #[] #[] := fun _ => rfl
  refine does_value ho hw (v := .agg #[.slice none 0 0, .slice none 0 0, .int .i64 nn, .int .i64 nr]) ?_ rfl (Below.refl _ _)
  generalize c.eval = ρ at *
  clear hF hb hW hw ho
  go_simp
set_option maxRecDepth 10000 in
theorem oTL1_9 (p : GP) (nn nr : Int) (B0 : Nat) (Q : Exit → Act → World → Prop) (c : Act) (w : World) (hb : BaseTL1 p nn nr B0 c) (hW : WorldTL1 p nn nr B0 w) (hF : ∀ q0 ∈ ancTL1 9, factsAt (factsTL1 p nn nr B0) q0 (val RTL1 c q0) w) :
    Does Tryz.prog RTL1 Q (factsAt (factsTL1 p nn nr B0)) 9 c w := by
  have ho : RTL1[9]? = some ({ dst := some 3, op := Op.alloc 25, type := 0, pos := "graph.go:126", after := #[], guard := none } : Oper) := by kernel_rfl
  have hw : Region.wanted ({ dst := some 3, op := Op.alloc 25, type := 0, pos := "graph.go:126", after := #[], guard := none } : Oper) (yielded RTL1 c.tmps) = true := want_none rfl
  have ec : ∀ v, c.eval (.const v) = v := fun _ => rfl
  have ef : ∀ f, c.eval (.func f) = .func (.func f) #[] #[] := fun _ => rfl
  refine does_value ho hw (v := .pointer (some ⟨w.heap.size, 0, none⟩)) (w' := w.alloc (.cells #[.slice none 0 0, .slice none 0 0, .int .i64 0, .int .i64 0] 25)) ?_ ⟨w.heap.size, rfl, hW.b0, rec_new _ _ _⟩ ((Below.refl _ _).alloc (Nat.le_refl _) _)
  generalize c.eval = ρ at *
  clear hF hb hW hw ho
  go_simp
theorem stableTL1 (p : GP) (nn nr : Int) (B0 : Nat) : ∀ pr ∈ factsTL1 p nn nr B0, Stable pr := by
  unfold factsTL1
  refine List.forall_mem_cons.2 ⟨eqv_stable _, ?_⟩
  refine List.forall_mem_cons.2 ⟨eqv_stable _, ?_⟩
  refine List.forall_mem_cons.2 ⟨eqv_stable _, ?_⟩
  refine List.forall_mem_cons.2 ⟨eqv_stable _, ?_⟩
  refine List.forall_mem_cons.2 ⟨eqv_stable _, ?_⟩
  refine List.forall_mem_cons.2 ⟨eqv_stable _, ?_⟩
  refine List.forall_mem_cons.2 ⟨eqv_stable _, ?_⟩
  refine List.forall_mem_cons.2 ⟨eqv_stable _, ?_⟩
  refine List.forall_mem_cons.2 ⟨eqv_stable _, ?_⟩
  refine List.forall_mem_cons.2 ⟨fun v w w' ⟨X, h, hX, hr⟩ hb => ⟨X, h, hX, hr.below hb hr.lt⟩, ?_⟩
  exact List.forall_mem_nil _
set_option maxRecDepth 100000 in
theorem allTL1 (p : GP) (nn nr : Int) (B0 : Nat) (Q : Exit → Act → World → Prop) : ∀ i, i < 10 → (fun i => ∀ c w, BaseTL1 p nn nr B0 c → WorldTL1 p nn nr B0 w → (∀ q0 ∈ ancTL1 i, factsAt (factsTL1 p nn nr B0) q0 (val RTL1 c q0) w) → Does Tryz.prog RTL1 Q (factsAt (factsTL1 p nn nr B0)) i c w) i := by
  refine below_succ ?_ (fun c w => oTL1_9 p nn nr B0 Q c w)
  refine below_succ ?_ (fun c w => oTL1_8 p nn nr B0 Q c w)
  refine below_succ ?_ (fun c w => oTL1_7 p nn nr B0 Q c w)
  refine below_succ ?_ (fun c w => oTL1_6 p nn nr B0 Q c w)
  refine below_succ ?_ (fun c w => oTL1_5 p nn nr B0 Q c w)
  refine below_succ ?_ (fun c w => oTL1_4 p nn nr B0 Q c w)
  refine below_succ ?_ (fun c w => oTL1_3 p nn nr B0 Q c w)
  refine below_succ ?_ (fun c w => oTL1_2 p nn nr B0 Q c w)
  refine below_succ ?_ (fun c w => oTL1_1 p nn nr B0 Q c w)
  refine below_succ ?_ (fun c w => oTL1_0 p nn nr B0 Q c w)
  exact below_zero
theorem regionTL1 (p : GP) (nn nr : Int) (B0 : Nat) (Q : Exit → Act → World → Prop) (base : Act) (w0 : World) (hsz : base.tmps.size = 62) (hb : BaseTL1 p nn nr B0 base)
    (hW : ∀ w, Below w0.heap.size w0 w → WorldTL1 p nn nr B0 w) (hL : ∀ c w, Same RTL1 base c → Below w0.heap.size w0 w → c.eval (.tmp 16) = .agg #[.slice none 0 0, .slice none 0 0, .int .i64 nn, .int .i64 nr] → (fun v w => ∃ X, v = .pointer (some ⟨X, 0, none⟩) ∧ B0 ≤ X ∧ Rec w X #[.slice none 0 0, .slice none 0 0, .int .i64 0, .int .i64 0] 25) (c.eval (.tmp 3)) w → ∃ w', (execOp c.eval ({ dst := none, op := Op.store 25 (Operand.tmp 3) (Operand.tmp 16), type := 0, pos := "graph.go:126", after := #[{ on := 9, ground := Ground.data }, { on := 8, ground := Ground.data }, { on := 0, ground := Ground.phase }, { on := 1, ground := Ground.phase }, { on := 2, ground := Ground.phase }, { on := 3, ground := Ground.phase }, { on := 4, ground := Ground.phase }, { on := 5, ground := Ground.phase }, { on := 6, ground := Ground.phase }, { on := 7, ground := Ground.phase }, { on := 8, ground := Ground.phase }, { on := 9, ground := Ground.phase }], guard := none } : Oper)).run Tryz.prog w = .ok .skip w' ∧ Q .normal c w') : (Code.region 1 RTL1 true).wp Tryz.prog Q base w0 := by
  have hall : (List.range 10).all (fun i => (slotOf RTL1 i).isSome) = true := by kernel_rfl
  refine facts_last (A := ancTL1) (F := factsAt (factsTL1 p nn nr B0)) 10 (by kernel_rfl) (by kernel_rfl) (by kernel_rfl) (by rw [hsz]; kernel_rfl) ?_ (by decide) (fun i v w w' => factsAt_stable (stableTL1 p nn nr B0) i v w w') ?_ ?_
  · exact fun i hi => Option.isSome_iff_exists.1 (List.all_eq_true.1 hall i (List.mem_range.2 hi))
  · intro i hi c w hS hB hF
    exact allTL1 p nn nr B0 Q i hi c w ⟨(same_eval hS (by kernel_rfl)).trans hb.t0⟩ (hW w hB) hF
  · intro c w hS hB hF
    obtain ⟨w', h1, h2⟩ := hL c w hS hB (fact_at (p := eqv (.agg #[.slice none 0 0, .slice none 0 0, .int .i64 nn, .int .i64 nr])) (by kernel_rfl) rfl (hF 8 (by omega))) (fact_at (p := fun v w => ∃ X, v = .pointer (some ⟨X, 0, none⟩) ∧ B0 ≤ X ∧ Rec w X #[.slice none 0 0, .slice none 0 0, .int .i64 0, .int .i64 0] 25) (by kernel_rfl) rfl (hF 9 (by omega)))
    exact last_skip (by kernel_rfl) (want_none rfl) h1 h2
noncomputable def RTL5 : Array Oper := regionAt Tryz.f52 5
def ancTL5 (i : Nat) : List Nat := ([[], [0], [], [2], [3], [4], [], [5, 6], [7], [1, 8], [], [0, 1, 2, 3, 4, 5, 6, 7, 8, 9, 10]] : List (List Nat)).getD i []
def factsTL5 (p : GP) (id k : Int) (X B0 : Nat) : List (Value → World → Prop) :=
  [eqv (.pointer (some ⟨X, 0, none⟩)), eqv (.slice none 0 0), eqv (.pointer (some ⟨p.g, 0, none⟩)), eqv (.pointer (some ⟨p.g, 0, none⟩)), eqv (.pointer (some ⟨p.g, 0, none⟩)), eqv (.map (some p.n)), eqv (.int .i64 id), eqv (.agg #[.int .i64 k, .slice none 0 0, .slice none 0 0]), fun v w => ∃ y, v = .slice (some ⟨y, 0, none⟩) 1 1 ∧ Rec w y #[.int .i64 k, .slice none 0 0, .slice none 0 0] 47, fun v w => w.ownsRow B0 47 3 v 1 [.int .i64 k, .slice none 0 0, .slice none 0 0] ∧ ∃ a c, v = .slice a 1 c, eqv (.pointer (some ⟨X, 0, none⟩))]
structure BaseTL5 (p : GP) (id k : Int) (X B0 : Nat) (c : Act) : Prop where
  t0 : c.eval (.tmp 0) = .pointer (some ⟨p.g, 0, none⟩)
  t3 : c.eval (.tmp 3) = .pointer (some ⟨X, 0, none⟩)
  t5 : c.eval (.tmp 5) = .int .i64 id
structure WorldTL5 (p : GP) (id k : Int) (X B0 : Nat) (w : World) : Prop where
  x0 : w.cell? ⟨X, 0, none⟩ = some (.slice none 0 0)
  c0 : w.cell? ⟨p.g, 0, none⟩ = some (.map (some p.n))
  lk : (Instr.lookup 68 (.map (some p.n)) (.int .i64 id) false).run Tryz.prog w = .ok (.agg #[.int .i64 k, .slice none 0 0, .slice none 0 0]) w
  b0 : B0 ≤ w.heap.size
set_option maxRecDepth 10000 in
theorem oTL5_0 (p : GP) (id k : Int) (X B0 : Nat) (Q : Exit → Act → World → Prop) (c : Act) (w : World) (hb : BaseTL5 p id k X B0 c) (hW : WorldTL5 p id k X B0 w) (hF : ∀ q0 ∈ ancTL5 0, factsAt (factsTL5 p id k X B0) q0 (val RTL5 c q0) w) :
    Does Tryz.prog RTL5 Q (factsAt (factsTL5 p id k X B0)) 0 c w := by
  have ho : RTL5[0]? = some ({ dst := some 27, op := Op.fieldAddr 25 (Operand.tmp 3) 0, type := 0, pos := "graph.go:128", after := #[], guard := none } : Oper) := by kernel_rfl
  have e3 := hb.t3
  have hw : Region.wanted ({ dst := some 27, op := Op.fieldAddr 25 (Operand.tmp 3) 0, type := 0, pos := "graph.go:128", after := #[], guard := none } : Oper) (yielded RTL5 c.tmps) = true := want_none rfl
  have ec : ∀ v, c.eval (.const v) = v := fun _ => rfl
  have ef : ∀ f, c.eval (.func f) = .func (.func f) #[] #[] := fun _ => rfl
  refine does_value ho hw (v := .pointer (some ⟨X, 0, none⟩)) ?_ rfl (Below.refl _ _)
  generalize c.eval = ρ at *
  clear hF hb hW hw ho
  go_simp
set_option maxRecDepth 10000 in
theorem oTL5_1 (p : GP) (id k : Int) (X B0 : Nat) (Q : Exit → Act → World → Prop) (c : Act) (w : World) (hb : BaseTL5 p id k X B0 c) (hW : WorldTL5 p id k X B0 w) (hF : ∀ q0 ∈ ancTL5 1, factsAt (factsTL5 p id k X B0) q0 (val RTL5 c q0) w) :
    Does Tryz.prog RTL5 Q (factsAt (factsTL5 p id k X B0)) 1 c w := by
  have ho : RTL5[1]? = some ({ dst := some 28, op := Op.load 22 (Operand.tmp 27), type := 22, pos := "graph.go:128", after := #[{ on := 0, ground := Ground.data }], guard := none } : Oper) := by kernel_rfl
  have e27 : c.eval (.tmp 27) = .pointer (some ⟨X, 0, none⟩) := fact_at (p := eqv (.pointer (some ⟨X, 0, none⟩))) (by kernel_rfl) rfl (hF 0 (by decide))
  have hw : Region.wanted ({ dst := some 28, op := Op.load 22 (Operand.tmp 27), type := 22, pos := "graph.go:128", after := #[{ on := 0, ground := Ground.data }], guard := none } : Oper) (yielded RTL5 c.tmps) = true := want_none rfl
  have ec : ∀ v, c.eval (.const v) = v := fun _ => rfl
  have ef : ∀ f, c.eval (.func f) = .func (.func f) #[] #[] := fun _ => rfl
  have x0 := hW.x0
  refine does_value ho hw (v := .slice none 0 0) ?_ rfl (Below.refl _ _)
  generalize c.eval = ρ at *
  clear hF hb hW hw ho
  go_simp
set_option maxRecDepth 10000 in
theorem oTL5_2 (p : GP) (id k : Int) (X B0 : Nat) (Q : Exit → Act → World → Prop) (c : Act) (w : World) (hb : BaseTL5 p id k X B0 c) (hW : WorldTL5 p id k X B0 w) (hF : ∀ q0 ∈ ancTL5 2, factsAt (factsTL5 p id k X B0) q0 (val RTL5 c q0) w) :
    Does Tryz.prog RTL5 Q (factsAt (factsTL5 p id k X B0)) 2 c w := by
  have ho : RTL5[2]? = some ({ dst := some 29, op := Op.move (Operand.tmp 0), type := 153, pos := "graph.go:128", after := #[], guard := none } : Oper) := by kernel_rfl
  have e0 := hb.t0
  have hw : Region.wanted ({ dst := some 29, op := Op.move (Operand.tmp 0), type := 153, pos := "graph.go:128", after := #[], guard := none } : Oper) (yielded RTL5 c.tmps) = true := want_none rfl
  have ec : ∀ v, c.eval (.const v) = v := fun _ => rfl
  have ef : ∀ f, c.eval (.func f) = .func (.func f) #[] #[] := fun _ => rfl
  refine does_value ho hw (v := .pointer (some ⟨p.g, 0, none⟩)) ?_ rfl (Below.refl _ _)
  generalize c.eval = ρ at *
  clear hF hb hW hw ho
  go_simp
set_option maxRecDepth 10000 in
theorem oTL5_3 (p : GP) (id k : Int) (X B0 : Nat) (Q : Exit → Act → World → Prop) (c : Act) (w : World) (hb : BaseTL5 p id k X B0 c) (hW : WorldTL5 p id k X B0 w) (hF : ∀ q0 ∈ ancTL5 3, factsAt (factsTL5 p id k X B0) q0 (val RTL5 c q0) w) :
    Does Tryz.prog RTL5 Q (factsAt (factsTL5 p id k X B0)) 3 c w := by
  have ho : RTL5[3]? = some ({ dst := some 30, op := Op.nilCheck (Operand.tmp 29), type := 0, pos := "graph.go:128", after := #[{ on := 2, ground := Ground.data }], guard := none } : Oper) := by kernel_rfl
  have e29 : c.eval (.tmp 29) = .pointer (some ⟨p.g, 0, none⟩) := fact_at (p := eqv (.pointer (some ⟨p.g, 0, none⟩))) (by kernel_rfl) rfl (hF 2 (by decide))
  have hw : Region.wanted ({ dst := some 30, op := Op.nilCheck (Operand.tmp 29), type := 0, pos := "graph.go:128", after := #[{ on := 2, ground := Ground.data }], guard := none } : Oper) (yielded RTL5 c.tmps) = true := want_none rfl
  have ec : ∀ v, c.eval (.const v) = v := fun _ => rfl
  have ef : ∀ f, c.eval (.func f) = .func (.func f) #[] #[] := fun _ => rfl
  refine does_value ho hw (v := .pointer (some ⟨p.g, 0, none⟩)) ?_ rfl (Below.refl _ _)
  generalize c.eval = ρ at *
  clear hF hb hW hw ho
  go_simp
set_option maxRecDepth 10000 in
theorem oTL5_4 (p : GP) (id k : Int) (X B0 : Nat) (Q : Exit → Act → World → Prop) (c : Act) (w : World) (hb : BaseTL5 p id k X B0 c) (hW : WorldTL5 p id k X B0 w) (hF : ∀ q0 ∈ ancTL5 4, factsAt (factsTL5 p id k X B0) q0 (val RTL5 c q0) w) :
    Does Tryz.prog RTL5 Q (factsAt (factsTL5 p id k X B0)) 4 c w := by
  have ho : RTL5[4]? = some ({ dst := some 31, op := Op.fieldAddr 71 (Operand.tmp 30) 0, type := 0, pos := "graph.go:128", after := #[{ on := 3, ground := Ground.data }], guard := none } : Oper) := by kernel_rfl
  have e30 : c.eval (.tmp 30) = .pointer (some ⟨p.g, 0, none⟩) := fact_at (p := eqv (.pointer (some ⟨p.g, 0, none⟩))) (by kernel_rfl) rfl (hF 3 (by decide))
  have hw : Region.wanted ({ dst := some 31, op := Op.fieldAddr 71 (Operand.tmp 30) 0, type := 0, pos := "graph.go:128", after := #[{ on := 3, ground := Ground.data }], guard := none } : Oper) (yielded RTL5 c.tmps) = true := want_none rfl
  have ec : ∀ v, c.eval (.const v) = v := fun _ => rfl
  have ef : ∀ f, c.eval (.func f) = .func (.func f) #[] #[] := fun _ => rfl
  refine does_value ho hw (v := .pointer (some ⟨p.g, 0, none⟩)) ?_ rfl (Below.refl _ _)
  generalize c.eval = ρ at *
  clear hF hb hW hw ho
  go_simp
set_option maxRecDepth 10000 in
theorem oTL5_5 (p : GP) (id k : Int) (X B0 : Nat) (Q : Exit → Act → World → Prop) (c : Act) (w : World) (hb : BaseTL5 p id k X B0 c) (hW : WorldTL5 p id k X B0 w) (hF : ∀ q0 ∈ ancTL5 5, factsAt (factsTL5 p id k X B0) q0 (val RTL5 c q0) w) :
    Does Tryz.prog RTL5 Q (factsAt (factsTL5 p id k X B0)) 5 c w := by
  have ho : RTL5[5]? = some ({ dst := some 32, op := Op.load 68 (Operand.tmp 31), type := 68, pos := "graph.go:128", after := #[{ on := 4, ground := Ground.data }], guard := none } : Oper) := by kernel_rfl
  have e31 : c.eval (.tmp 31) = .pointer (some ⟨p.g, 0, none⟩) := fact_at (p := eqv (.pointer (some ⟨p.g, 0, none⟩))) (by kernel_rfl) rfl (hF 4 (by decide))
  have hw : Region.wanted ({ dst := some 32, op := Op.load 68 (Operand.tmp 31), type := 68, pos := "graph.go:128", after := #[{ on := 4, ground := Ground.data }], guard := none } : Oper) (yielded RTL5 c.tmps) = true := want_none rfl
  have ec : ∀ v, c.eval (.const v) = v := fun _ => rfl
  have ef : ∀ f, c.eval (.func f) = .func (.func f) #[] #[] := fun _ => rfl
  have c0 := hW.c0
  refine does_value ho hw (v := .map (some p.n)) ?_ rfl (Below.refl _ _)
  generalize c.eval = ρ at *
  clear hF hb hW hw ho
  go_simp
set_option maxRecDepth 10000 in
theorem oTL5_6 (p : GP) (id k : Int) (X B0 : Nat) (Q : Exit → Act → World → Prop) (c : Act) (w : World) (hb : BaseTL5 p id k X B0 c) (hW : WorldTL5 p id k X B0 w) (hF : ∀ q0 ∈ ancTL5 6, factsAt (factsTL5 p id k X B0) q0 (val RTL5 c q0) w) :
    Does Tryz.prog RTL5 Q (factsAt (factsTL5 p id k X B0)) 6 c w := by
  have ho : RTL5[6]? = some ({ dst := some 33, op := Op.move (Operand.tmp 5), type := 2, pos := "graph.go:128", after := #[], guard := none } : Oper) := by kernel_rfl
  have e5 := hb.t5
  have hw : Region.wanted ({ dst := some 33, op := Op.move (Operand.tmp 5), type := 2, pos := "graph.go:128", after := #[], guard := none } : Oper) (yielded RTL5 c.tmps) = true := want_none rfl
  have ec : ∀ v, c.eval (.const v) = v := fun _ => rfl
  have ef : ∀ f, c.eval (.func f) = .func (.func f) #[] #[] := fun _ => rfl
  refine does_value ho hw (v := .int .i64 id) ?_ rfl (Below.refl _ _)
  generalize c.eval = ρ at *
  clear hF hb hW hw ho
  go_simp
set_option maxRecDepth 10000 in
theorem oTL5_7 (p : GP) (id k : Int) (X B0 : Nat) (Q : Exit → Act → World → Prop) (c : Act) (w : World) (hb : BaseTL5 p id k X B0 c) (hW : WorldTL5 p id k X B0 w) (hF : ∀ q0 ∈ ancTL5 7, factsAt (factsTL5 p id k X B0) q0 (val RTL5 c q0) w) :
    Does Tryz.prog RTL5 Q (factsAt (factsTL5 p id k X B0)) 7 c w := by
  have ho : RTL5[7]? = some ({ dst := some 34, op := Op.lookup 68 (Operand.tmp 32) (Operand.tmp 33) false, type := 47, pos := "graph.go:128", after := #[{ on := 5, ground := Ground.data }, { on := 6, ground := Ground.data }], guard := none } : Oper) := by kernel_rfl
  have e32 : c.eval (.tmp 32) = .map (some p.n) := fact_at (p := eqv (.map (some p.n))) (by kernel_rfl) rfl (hF 5 (by decide))
  have e33 : c.eval (.tmp 33) = .int .i64 id := fact_at (p := eqv (.int .i64 id)) (by kernel_rfl) rfl (hF 6 (by decide))
  have hw : Region.wanted ({ dst := some 34, op := Op.lookup 68 (Operand.tmp 32) (Operand.tmp 33) false, type := 47, pos := "graph.go:128", after := #[{ on := 5, ground := Ground.data }, { on := 6, ground := Ground.data }], guard := none } : Oper) (yielded RTL5 c.tmps) = true := want_none rfl
  have ec : ∀ v, c.eval (.const v) = v := fun _ => rfl
  have ef : ∀ f, c.eval (.func f) = .func (.func f) #[] #[] := fun _ => rfl
  have lk := hW.lk
  refine does_value ho hw (v := .agg #[.int .i64 k, .slice none 0 0, .slice none 0 0]) ?_ rfl (Below.refl _ _)
  generalize c.eval = ρ at *
  clear hF hb hW hw ho
  go_simp
set_option maxRecDepth 10000 in
theorem oTL5_8 (p : GP) (id k : Int) (X B0 : Nat) (Q : Exit → Act → World → Prop) (c : Act) (w : World) (hb : BaseTL5 p id k X B0 c) (hW : WorldTL5 p id k X B0 w) (hF : ∀ q0 ∈ ancTL5 8, factsAt (factsTL5 p id k X B0) q0 (val RTL5 c q0) w) :
    Does Tryz.prog RTL5 Q (factsAt (factsTL5 p id k X B0)) 8 c w := by
  have ho : RTL5[8]? = some ({ dst := some 35, op := Op.buildSlice 22 1 #[(0, Operand.tmp 34)], type := 22, pos := "graph.go:128", after := #[{ on := 7, ground := Ground.data }], guard := none } : Oper) := by kernel_rfl
  have e34 : c.eval (.tmp 34) = .agg #[.int .i64 k, .slice none 0 0, .slice none 0 0] := fact_at (p := eqv (.agg #[.int .i64 k, .slice none 0 0, .slice none 0 0])) (by kernel_rfl) rfl (hF 7 (by decide))
  have hw : Region.wanted ({ dst := some 35, op := Op.buildSlice 22 1 #[(0, Operand.tmp 34)], type := 22, pos := "graph.go:128", after := #[{ on := 7, ground := Ground.data }], guard := none } : Oper) (yielded RTL5 c.tmps) = true := want_none rfl
  have ec : ∀ v, c.eval (.const v) = v := fun _ => rfl
  have ef : ∀ f, c.eval (.func f) = .func (.func f) #[] #[] := fun _ => rfl
  refine does_value ho hw (v := .slice (some ⟨w.heap.size, 0, none⟩) 1 1) (w' := w.alloc (.cells #[.int .i64 k, .slice none 0 0, .slice none 0 0] 47)) ?_ ⟨w.heap.size, rfl, rec_new _ _ _⟩ ((Below.refl _ _).alloc (Nat.le_refl _) _)
  generalize c.eval = ρ at *
  clear hF hb hW hw ho
  go_simp
set_option maxRecDepth 10000 in
theorem oTL5_9 (p : GP) (id k : Int) (X B0 : Nat) (Q : Exit → Act → World → Prop) (c : Act) (w : World) (hb : BaseTL5 p id k X B0 c) (hW : WorldTL5 p id k X B0 w) (hF : ∀ q0 ∈ ancTL5 9, factsAt (factsTL5 p id k X B0) q0 (val RTL5 c q0) w) :
    Does Tryz.prog RTL5 Q (factsAt (factsTL5 p id k X B0)) 9 c w := by
  have ho : RTL5[9]? = some ({ dst := some 36, op := Op.call { callee := Callee.builtin Builtin.append, args := #[Operand.tmp 28, Operand.tmp 35], argTypes := #[22, 22] }, type := 22, pos := "graph.go:128", after := #[{ on := 1, ground := Ground.data }, { on := 8, ground := Ground.data }], guard := none } : Oper) := by kernel_rfl
  have e28 : c.eval (.tmp 28) = .slice none 0 0 := fact_at (p := eqv (.slice none 0 0)) (by kernel_rfl) rfl (hF 1 (by decide))
  have f35 : (fun v w => ∃ y, v = .slice (some ⟨y, 0, none⟩) 1 1 ∧ Rec w y #[.int .i64 k, .slice none 0 0, .slice none 0 0] 47) (c.eval (.tmp 35)) w := fact_at (by kernel_rfl) rfl (hF 8 (by decide))
  have hw : Region.wanted ({ dst := some 36, op := Op.call { callee := Callee.builtin Builtin.append, args := #[Operand.tmp 28, Operand.tmp 35], argTypes := #[22, 22] }, type := 22, pos := "graph.go:128", after := #[{ on := 1, ground := Ground.data }, { on := 8, ground := Ground.data }], guard := none } : Oper) (yielded RTL5 c.tmps) = true := want_none rfl
  have ec : ∀ v, c.eval (.const v) = v := fun _ => rfl
  have ef : ∀ f, c.eval (.func f) = .func (.func f) #[] #[] := fun _ => rfl
  obtain ⟨i0, hi, hz0, hz1, hz2⟩ := info_parts Tryz.info47
  obtain ⟨y, e35, hy⟩ := f35
  obtain ⟨v', w', hrun, hown, hgr, _, _⟩ := run_append_own_at (P := Tryz.prog) w B0 22 22 47 i0 (.agg #[.int .i64 0, .slice none 0 0, .slice none 0 0]) 3 56 Tryz.underlying22 hi hz0 hz1 hz2 rfl (by decide) (.slice none 0 0) 0 [] (World.ownsRow_nil _ _ _ _) ⟨y, 0, none⟩ 1 1 [.int .i64 k, .slice none 0 0, .slice none 0 0] rfl (fun j u hj => by
    have hadd : (⟨y, 0, none⟩ : Addr).add j = ⟨y, j, none⟩ := by unfold Addr.add; split <;> simp_all
    rw [hadd]
    exact hy.cell j (by simpa using hj)) (by intro u hu; simp only [List.mem_cons, List.not_mem_nil, or_false] at hu; rcases hu with rfl | rfl | rfl <;> rfl) (by unfold maxLen; omega) (by omega) hW.b0
  obtain ⟨ua, uc, rfl⟩ := row_slice hown
  refine does_value ho hw (v := .slice ua (0 + 1) uc) (w' := w') ?_ ⟨hown, ua, uc, rfl⟩ ((Below.refl _ w).grown hgr (Nat.le_refl _) (fun q h => by cases h))
  exact exec_append e28 e35 hrun
set_option maxRecDepth 10000 in
theorem oTL5_10 (p : GP) (id k : Int) (X B0 : Nat) (Q : Exit → Act → World → Prop) (c : Act) (w : World) (hb : BaseTL5 p id k X B0 c) (hW : WorldTL5 p id k X B0 w) (hF : ∀ q0 ∈ ancTL5 10, factsAt (factsTL5 p id k X B0) q0 (val RTL5 c q0) w) :
    Does Tryz.prog RTL5 Q (factsAt (factsTL5 p id k X B0)) 10 c w := by
  have ho : RTL5[10]? = some ({ dst := some 37, op := Op.fieldAddr 25 (Operand.tmp 3) 0, type := 0, pos := "graph.go:128", after := #[{ on := 0, ground := Ground.phase }, { on := 1, ground := Ground.phase }, { on := 2, ground := Ground.phase }, { on := 3, ground := Ground.phase }, { on := 4, ground := Ground.phase }, { on := 5, ground := Ground.phase }, { on := 6, ground := Ground.phase }, { on := 7, ground := Ground.phase }, { on := 8, ground := Ground.phase }, { on := 9, ground := Ground.phase }], guard := none } : Oper) := by kernel_rfl
  have e3 := hb.t3
  have hw : Region.wanted ({ dst := some 37, op := Op.fieldAddr 25 (Operand.tmp 3) 0, type := 0, pos := "graph.go:128", after := #[{ on := 0, ground := Ground.phase }, { on := 1, ground := Ground.phase }, { on := 2, ground := Ground.phase }, { on := 3, ground := Ground.phase }, { on := 4, ground := Ground.phase }, { on := 5, ground := Ground.phase }, { on := 6, ground := Ground.phase }, { on := 7, ground := Ground.phase }, { on := 8, ground := Ground.phase }, { on := 9, ground := Ground.phase }], guard := none } : Oper) (yielded RTL5 c.tmps) = true := want_none rfl
  have ec : ∀ v, c.eval (.const v) = v := fun _ => rfl
  have ef : ∀ f, c.eval (.func f) = .func (.func f) #[] #[] := fun _ => rfl
  refine does_value ho hw (v := .pointer (some ⟨X, 0, none⟩)) ?_ rfl (Below.refl _ _)
  generalize c.eval = ρ at *
  clear hF hb hW hw ho
  go_simp
theorem stableTL5 (p : GP) (id k : Int) (X B0 : Nat) : ∀ pr ∈ factsTL5 p id k X B0, Stable pr := by
  unfold factsTL5
  refine List.forall_mem_cons.2 ⟨eqv_stable _, ?_⟩
  refine List.forall_mem_cons.2 ⟨eqv_stable _, ?_⟩
  refine List.forall_mem_cons.2 ⟨eqv_stable _, ?_⟩
  refine List.forall_mem_cons.2 ⟨eqv_stable _, ?_⟩
  refine List.forall_mem_cons.2 ⟨eqv_stable _, ?_⟩
  refine List.forall_mem_cons.2 ⟨eqv_stable _, ?_⟩
  refine List.forall_mem_cons.2 ⟨eqv_stable _, ?_⟩
  refine List.forall_mem_cons.2 ⟨eqv_stable _, ?_⟩
  refine List.forall_mem_cons.2 ⟨fun v w w' ⟨y, h, hr⟩ hb => ⟨y, h, hr.below hb hr.lt⟩, ?_⟩
  refine List.forall_mem_cons.2 ⟨fun v w w' ⟨h, h2⟩ hb => ⟨row_keep h fun g _ hg => hb.block g hg, h2⟩, ?_⟩
  refine List.forall_mem_cons.2 ⟨eqv_stable _, ?_⟩
  exact List.forall_mem_nil _
set_option maxRecDepth 100000 in
theorem allTL5 (p : GP) (id k : Int) (X B0 : Nat) (Q : Exit → Act → World → Prop) : ∀ i, i < 11 → (fun i => ∀ c w, BaseTL5 p id k X B0 c → WorldTL5 p id k X B0 w → (∀ q0 ∈ ancTL5 i, factsAt (factsTL5 p id k X B0) q0 (val RTL5 c q0) w) → Does Tryz.prog RTL5 Q (factsAt (factsTL5 p id k X B0)) i c w) i := by
  refine below_succ ?_ (fun c w => oTL5_10 p id k X B0 Q c w)
  refine below_succ ?_ (fun c w => oTL5_9 p id k X B0 Q c w)
  refine below_succ ?_ (fun c w => oTL5_8 p id k X B0 Q c w)
  refine below_succ ?_ (fun c w => oTL5_7 p id k X B0 Q c w)
  refine below_succ ?_ (fun c w => oTL5_6 p id k X B0 Q c w)
  refine below_succ ?_ (fun c w => oTL5_5 p id k X B0 Q c w)
  refine below_succ ?_ (fun c w => oTL5_4 p id k X B0 Q c w)
  refine below_succ ?_ (fun c w => oTL5_3 p id k X B0 Q c w)
  refine below_succ ?_ (fun c w => oTL5_2 p id k X B0 Q c w)
  refine below_succ ?_ (fun c w => oTL5_1 p id k X B0 Q c w)
  refine below_succ ?_ (fun c w => oTL5_0 p id k X B0 Q c w)
  exact below_zero
theorem regionTL5 (p : GP) (id k : Int) (X B0 : Nat) (Q : Exit → Act → World → Prop) (base : Act) (w0 : World) (hsz : base.tmps.size = 62) (hb : BaseTL5 p id k X B0 base)
    (hW : ∀ w, Below w0.heap.size w0 w → WorldTL5 p id k X B0 w) (hL : ∀ c w, Same RTL5 base c → Below w0.heap.size w0 w → (fun v w => w.ownsRow B0 47 3 v 1 [.int .i64 k, .slice none 0 0, .slice none 0 0] ∧ ∃ a c, v = .slice a 1 c) (c.eval (.tmp 36)) w → c.eval (.tmp 37) = .pointer (some ⟨X, 0, none⟩) → ∃ w', (execOp c.eval ({ dst := none, op := Op.store 22 (Operand.tmp 37) (Operand.tmp 36), type := 0, pos := "graph.go:128", after := #[{ on := 10, ground := Ground.data }, { on := 9, ground := Ground.data }, { on := 9, ground := Ground.chain }, { on := 0, ground := Ground.phase }, { on := 1, ground := Ground.phase }, { on := 2, ground := Ground.phase }, { on := 3, ground := Ground.phase }, { on := 4, ground := Ground.phase }, { on := 5, ground := Ground.phase }, { on := 6, ground := Ground.phase }, { on := 7, ground := Ground.phase }, { on := 8, ground := Ground.phase }, { on := 9, ground := Ground.phase }], guard := none } : Oper)).run Tryz.prog w = .ok .skip w' ∧ Q .normal c w') : (Code.region 5 RTL5 true).wp Tryz.prog Q base w0 := by
  have hall : (List.range 11).all (fun i => (slotOf RTL5 i).isSome) = true := by kernel_rfl
  refine facts_last (A := ancTL5) (F := factsAt (factsTL5 p id k X B0)) 11 (by kernel_rfl) (by kernel_rfl) (by kernel_rfl) (by rw [hsz]; kernel_rfl) ?_ (by decide) (fun i v w w' => factsAt_stable (stableTL5 p id k X B0) i v w w') ?_ ?_
  · exact fun i hi => Option.isSome_iff_exists.1 (List.all_eq_true.1 hall i (List.mem_range.2 hi))
  · intro i hi c w hS hB hF
    exact allTL5 p id k X B0 Q i hi c w ⟨(same_eval hS (by kernel_rfl)).trans hb.t0, (same_eval hS (by kernel_rfl)).trans hb.t3, (same_eval hS (by kernel_rfl)).trans hb.t5⟩ (hW w hB) hF
  · intro c w hS hB hF
    obtain ⟨w', h1, h2⟩ := hL c w hS hB (fact_at (p := fun v w => w.ownsRow B0 47 3 v 1 [.int .i64 k, .slice none 0 0, .slice none 0 0] ∧ ∃ a c, v = .slice a 1 c) (by kernel_rfl) rfl (hF 9 (by omega))) (fact_at (p := eqv (.pointer (some ⟨X, 0, none⟩))) (by kernel_rfl) rfl (hF 10 (by omega)))
    exact last_skip (by kernel_rfl) (want_none rfl) h1 h2
end Go.Proofs.YteddjlbfbpecjaaGreatDoor
