/- Both values are copied: operation by operation, in whatever order. -/
import Derived.Test.YtbpmhgcjefpigaaGreatDoorOrders3
namespace Go.Proofs.YtbpmhgcjefpigaaGreatDoor
open Go.RowKit Go.Shelf Go.WideShapes
set_option linter.unusedVariables false
set_option linter.unusedSimpArgs false

noncomputable def RE3 : Array Oper := regionAt Tryz.f6 3
def ancE3 (i : Nat) : List Nat := ([[], [0], [], [0, 1, 2], [], [], [0, 1, 2, 3, 4, 5], [0, 1, 2, 3, 4, 5, 6]] : List (List Nat)).getD i []
def gE3 (a0 a1 a2 a3 a4 a5 b0 b1 b2 b3 b4 b5 : Value) (i : Nat) (v : Value) : Prop :=
  ([fun v => v = (.agg #[a0, a1, a2, a3, a4, a5]), fun v => ∃ k x n s ka kn kc la ln lc, v = .agg #[.int .i64 k, .bool x, .int .i64 n, .string s, .slice ka kn kc, .slice la ln lc], fun v => v = (.agg #[b0, b1, b2, b3, b4, b5]), fun v => ∃ k x n s ka kn kc la ln lc, v = .agg #[.int .i64 k, .bool x, .int .i64 n, .string s, .slice ka kn kc, .slice la ln lc], fun v => ∃ q, v = .pointer (some ⟨q, 0, none⟩), fun v => ∃ q, v = .pointer (some ⟨q, 0, none⟩), fun _ => True, fun _ => True] : List (Value → Prop)).getD i (fun _ => True) v
/-- Where what was copied lies. -/
def InE3 (w0 : World) (l : Nat → Bool) (vs : Nat → Value) (w : World) (b : Nat) : Prop :=
  w0.heap.size ≤ b ∧ b < w.heap.size ∧ (l 4 = true → vs 4 ≠ .pointer (some ⟨b, 0, none⟩)) ∧ (l 5 = true → vs 5 ≠ .pointer (some ⟨b, 0, none⟩))
def BoxE3 (w0 w : World) (v : Value) : Prop := ∃ q, v = .pointer (some ⟨q, 0, none⟩) ∧ w0.heap.size ≤ q ∧ q < w.heap.size ∧ ∀ i, i < 6 → (w.cell? ⟨q, i, none⟩).isSome = true ∧ w.frozen? ⟨q, i, none⟩ = false
def PutE3 (w : World) (v u : Value) : Prop := ∃ q c0 c1 c2 c3 c4 c5, v = .pointer (some ⟨q, 0, none⟩) ∧ u = .agg #[c0, c1, c2, c3, c4, c5] ∧ w.cell? ⟨q, 0, none⟩ = some c0 ∧ w.cell? ⟨q, 1, none⟩ = some c1 ∧ w.cell? ⟨q, 2, none⟩ = some c2 ∧ w.cell? ⟨q, 3, none⟩ = some c3 ∧ w.cell? ⟨q, 4, none⟩ = some c4 ∧ w.cell? ⟨q, 5, none⟩ = some c5
structure SE3 (D : Nat) (a0 a1 a2 a3 a4 a5 b0 b1 b2 b3 b4 b5 : Value) (A B : Tree) (pa pb : Nat) (w0 : World) (l : Nat → Bool) (vs : Nat → Value) (w : World) : Prop where
  low : Below w0.heap.size w0 w
  ca : l 1 = true → SpareP (InE3 w0 l vs w) w (vs 1) A
  cb : l 3 = true → SpareP (InE3 w0 l vs w) w (vs 3) B
  xa : l 4 = true → BoxE3 w0 w (vs 4)
  xb : l 5 = true → BoxE3 w0 w (vs 5)
  ne : l 4 = true → l 5 = true → vs 4 ≠ vs 5
  sa : l 6 = true → PutE3 w (vs 4) (vs 1)
  sb : l 7 = true → PutE3 w (vs 5) (vs 3)
structure BE3 (D : Nat) (a0 a1 a2 a3 a4 a5 b0 b1 b2 b3 b4 b5 : Value) (A B : Tree) (pa pb : Nat) (w0 : World) (c : Act) : Prop where
  t2 : c.eval (.tmp 2) = .pointer (some ⟨pa, 0, none⟩)
  t3 : c.eval (.tmp 3) = .pointer (some ⟨pb, 0, none⟩)
  size : c.tmps.size = 61
structure WE3 (D : Nat) (a0 a1 a2 a3 a4 a5 b0 b1 b2 b3 b4 b5 : Value) (A B : Tree) (pa pb : Nat) (w0 : World) : Prop where
  ca0 : w0.cell? ⟨pa, 0, none⟩ = some a0
  ca1 : w0.cell? ⟨pa, 1, none⟩ = some a1
  ca2 : w0.cell? ⟨pa, 2, none⟩ = some a2
  ca3 : w0.cell? ⟨pa, 3, none⟩ = some a3
  ca4 : w0.cell? ⟨pa, 4, none⟩ = some a4
  ca5 : w0.cell? ⟨pa, 5, none⟩ = some a5
  cb0 : w0.cell? ⟨pb, 0, none⟩ = some b0
  cb1 : w0.cell? ⟨pb, 1, none⟩ = some b1
  cb2 : w0.cell? ⟨pb, 2, none⟩ = some b2
  cb3 : w0.cell? ⟨pb, 3, none⟩ = some b3
  cb4 : w0.cell? ⟨pb, 4, none⟩ = some b4
  cb5 : w0.cell? ⟨pb, 5, none⟩ = some b5
  la : Lies D w0 (.agg #[a0, a1, a2, a3, a4, a5]) A
  lb : Lies D w0 (.agg #[b0, b1, b2, b3, b4, b5]) B
  lo : D ≤ w0.heap.size
  fa : A.total ≤ 800000
  fb : B.total ≤ 800000
theorem BoxE3.below {w0 w w' : World} {v : Value} (h : BoxE3 w0 w v) (hb : Below w.heap.size w w') : BoxE3 w0 w' v := by
  obtain ⟨q, e, h1, h2, h3⟩ := h
  exact ⟨q, e, h1, Nat.lt_of_lt_of_le h2 hb.size, fun i hi => ⟨by rw [hb.cell (p := ⟨q, i, none⟩) h2]; exact (h3 i hi).1, by rw [World.frozen?_of_block (a := ⟨q, i, none⟩) (hb.block q h2)]; exact (h3 i hi).2⟩⟩
theorem PutE3.keep {w w' : World} {v u : Value} (h : PutE3 w v u) (hk : ∀ q i, v = .pointer (some ⟨q, 0, none⟩) → w'.cell? ⟨q, i, none⟩ = w.cell? ⟨q, i, none⟩) : PutE3 w' v u := by
  obtain ⟨q, c0, c1, c2, c3, c4, c5, e, e2, h0, h1, h2, h3, h4, h5⟩ := h
  exact ⟨q, c0, c1, c2, c3, c4, c5, e, e2, (hk q 0 e).trans h0, (hk q 1 e).trans h1, (hk q 2 e).trans h2, (hk q 3 e).trans h3, (hk q 4 e).trans h4, (hk q 5 e).trans h5⟩

set_option maxRecDepth 10000 in
theorem oE3_0 (D : Nat) (a0 a1 a2 a3 a4 a5 b0 b1 b2 b3 b4 b5 : Value) (A B : Tree) (pa pb : Nat) (w0 : World) (Q : Exit → Act → World → Prop) (l : Nat → Bool) (c : Act) (w : World) (hb : BE3 D a0 a1 a2 a3 a4 a5 b0 b1 b2 b3 b4 b5 A B pa pb w0 c) (hW : WE3 D a0 a1 a2 a3 a4 a5 b0 b1 b2 b3 b4 b5 A B pa pb w0) (hli : l 0 = false) (hcl : ∀ k, l k = true → ∀ j ∈ ancE3 k, l j = true) (hA : ∀ j ∈ ancE3 0, l j = true ∧ gE3 a0 a1 a2 a3 a4 a5 b0 b1 b2 b3 b4 b5 j (val RE3 c j)) (hS : SE3 D a0 a1 a2 a3 a4 a5 b0 b1 b2 b3 b4 b5 A B pa pb w0 l (val RE3 c) w) :
    Steps' Tryz.prog RE3 Q (gE3 a0 a1 a2 a3 a4 a5 b0 b1 b2 b3 b4 b5) (SE3 D a0 a1 a2 a3 a4 a5 b0 b1 b2 b3 b4 b5 A B pa pb w0) 0 l c w := by
  have ho : RE3[0]? = some ({ dst := some 15, op := Op.load 26 (Operand.tmp 2), type := 26, pos := "law.go:136", after := #[], guard := none } : Oper) := by kernel_rfl
  have e2 := hb.t2
  have hw : Region.wanted ({ dst := some 15, op := Op.load 26 (Operand.tmp 2), type := 26, pos := "law.go:136", after := #[], guard := none } : Oper) (yielded RE3 c.tmps) = true := want_none rfl
  have ec : ∀ v, c.eval (.const v) = v := fun _ => rfl
  have ef : ∀ f, c.eval (.func f) = .func (.func f) #[] #[] := fun _ => rfl
  have hlow := hS.low
  have hc0 := (hlow.cell (p := ⟨pa, 0, none⟩) (lt_of_cell hW.ca0)).trans hW.ca0
  have hc1 := (hlow.cell (p := ⟨pa, 1, none⟩) (lt_of_cell hW.ca1)).trans hW.ca1
  have hc2 := (hlow.cell (p := ⟨pa, 2, none⟩) (lt_of_cell hW.ca2)).trans hW.ca2
  have hc3 := (hlow.cell (p := ⟨pa, 3, none⟩) (lt_of_cell hW.ca3)).trans hW.ca3
  have hc4 := (hlow.cell (p := ⟨pa, 4, none⟩) (lt_of_cell hW.ca4)).trans hW.ca4
  have hc5 := (hlow.cell (p := ⟨pa, 5, none⟩) (lt_of_cell hW.ca5)).trans hW.ca5
  refine steps_value (d := 15) ho rfl (by rw [hb.size]; decide) hw (v := .agg #[a0, a1, a2, a3, a4, a5]) (w' := w) ?_ rfl ?_
  · generalize c.eval = ρ at *
    clear hA hb hW hw ho hS hcl hli hlow
    go_simp
  · skip
    have m1 : upd l 0 true 1 = l 1 := upd_other _ _ (by decide)
    have m3 : upd l 0 true 3 = l 3 := upd_other _ _ (by decide)
    have m4 : upd l 0 true 4 = l 4 := upd_other _ _ (by decide)
    have m5 : upd l 0 true 5 = l 5 := upd_other _ _ (by decide)
    have m6 : upd l 0 true 6 = l 6 := upd_other _ _ (by decide)
    have m7 : upd l 0 true 7 = l 7 := upd_other _ _ (by decide)
    have f1 : ∀ v, upd (val RE3 c) 0 v 1 = val RE3 c 1 := fun v => upd_other _ _ (by decide)
    have f3 : ∀ v, upd (val RE3 c) 0 v 3 = val RE3 c 3 := fun v => upd_other _ _ (by decide)
    have f4 : ∀ v, upd (val RE3 c) 0 v 4 = val RE3 c 4 := fun v => upd_other _ _ (by decide)
    have f5 : ∀ v, upd (val RE3 c) 0 v 5 = val RE3 c 5 := fun v => upd_other _ _ (by decide)
    exact ⟨hlow, by rw [m1, f1]; exact fun h => (hS.ca h).mono (fun b h => ⟨h.1, h.2.1, by rw [m4, f4]; exact h.2.2.1, by rw [m5, f5]; exact h.2.2.2⟩), by rw [m3, f3]; exact fun h => (hS.cb h).mono (fun b h => ⟨h.1, h.2.1, by rw [m4, f4]; exact h.2.2.1, by rw [m5, f5]; exact h.2.2.2⟩), by rw [m4, f4]; exact hS.xa, by rw [m5, f5]; exact hS.xb, by rw [m4, m5, f4, f5]; exact hS.ne, by rw [m6, f4, f1]; exact hS.sa, by rw [m7, f5, f3]; exact hS.sb⟩

set_option maxRecDepth 10000 in
theorem oE3_1 (D : Nat) (a0 a1 a2 a3 a4 a5 b0 b1 b2 b3 b4 b5 : Value) (A B : Tree) (pa pb : Nat) (w0 : World) (Q : Exit → Act → World → Prop) (l : Nat → Bool) (c : Act) (w : World) (hb : BE3 D a0 a1 a2 a3 a4 a5 b0 b1 b2 b3 b4 b5 A B pa pb w0 c) (hW : WE3 D a0 a1 a2 a3 a4 a5 b0 b1 b2 b3 b4 b5 A B pa pb w0) (hli : l 1 = false) (hcl : ∀ k, l k = true → ∀ j ∈ ancE3 k, l j = true) (hA : ∀ j ∈ ancE3 1, l j = true ∧ gE3 a0 a1 a2 a3 a4 a5 b0 b1 b2 b3 b4 b5 j (val RE3 c j)) (hS : SE3 D a0 a1 a2 a3 a4 a5 b0 b1 b2 b3 b4 b5 A B pa pb w0 l (val RE3 c) w) :
    Steps' Tryz.prog RE3 Q (gE3 a0 a1 a2 a3 a4 a5 b0 b1 b2 b3 b4 b5) (SE3 D a0 a1 a2 a3 a4 a5 b0 b1 b2 b3 b4 b5 A B pa pb w0) 1 l c w := by
  have ho : RE3[1]? = some ({ dst := some 16, op := Op.call { callee := Callee.value (Operand.func 17), args := #[Operand.tmp 15], argTypes := #[26] }, type := 26, pos := "law.go:136", after := #[{ on := 0, ground := Ground.data }], guard := none } : Oper) := by kernel_rfl
  have e15 : c.eval (.tmp 15) = .agg #[a0, a1, a2, a3, a4, a5] := by have h := (hA 0 (by decide)).2; rw [val_eq (show slotOf RE3 0 = some 15 by kernel_rfl)] at h; exact h
  have hw : Region.wanted ({ dst := some 16, op := Op.call { callee := Callee.value (Operand.func 17), args := #[Operand.tmp 15], argTypes := #[26] }, type := 26, pos := "law.go:136", after := #[{ on := 0, ground := Ground.data }], guard := none } : Oper) (yielded RE3 c.tmps) = true := want_none rfl
  have ec : ∀ v, c.eval (.const v) = v := fun _ => rfl
  have ef : ∀ f, c.eval (.func f) = .func (.func f) #[] #[] := fun _ => rfl
  have hlow := hS.low
  have h6 : l 6 = false := by
    cases h : l 6 with
    | false => rfl
    | true => have := hcl 6 h 1 (by decide); rw [hli] at this; cases this
  have h7 : l 7 = false := by
    cases h : l 7 with
    | false => rfl
    | true => have := hcl 7 h 1 (by decide); rw [hli] at this; cases this
  refine steps_call (d := 16) ho rfl (by rw [hb.size]; decide) hw (f := 17) (args := #[.agg #[a0, a1, a2, a3, a4, a5]]) ?_ ?_
  · generalize c.eval = ρ at *
    clear hA hb hW hw ho hS hcl hli hlow
    go_simp
  · refine (spared_any A D _ w (Nat.le_trans hW.lo hlow.size) (hW.la.below (hlow.mono hW.lo)) hW.fa).mono ?_
    rintro e w' ⟨v', rfl, hsp, hb'⟩
    have hz := hlow.size
    have hz' := hb'.size
    have m3 : upd l 1 true 3 = l 3 := upd_other _ _ (by decide)
    have m4 : upd l 1 true 4 = l 4 := upd_other _ _ (by decide)
    have m5 : upd l 1 true 5 = l 5 := upd_other _ _ (by decide)
    have m6 : upd l 1 true 6 = l 6 := upd_other _ _ (by decide)
    have m7 : upd l 1 true 7 = l 7 := upd_other _ _ (by decide)
    have f3 : ∀ v, upd (val RE3 c) 1 v 3 = val RE3 c 3 := fun v => upd_other _ _ (by decide)
    have f4 : ∀ v, upd (val RE3 c) 1 v 4 = val RE3 c 4 := fun v => upd_other _ _ (by decide)
    have f5 : ∀ v, upd (val RE3 c) 1 v 5 = val RE3 c 5 := fun v => upd_other _ _ (by decide)
    refine ⟨v', rfl, ?_, ?_⟩
    · exact spare_shape hsp
    · have hin : ∀ b, InE3 w0 l (val RE3 c) w b → InE3 w0 (upd l 1 true) (upd (val RE3 c) 1 v') w' b := fun b h => ⟨h.1, by have := h.2.1; omega, by rw [m4, f4]; exact h.2.2.1, by rw [m5, f5]; exact h.2.2.2⟩
      have hst : Stay (InE3 w0 l (val RE3 c) w) w w' := fun b q h => hb'.cell (p := ⟨b, q, none⟩) h.2.1
      have hnew : SpareP (InE3 w0 (upd l 1 true) (upd (val RE3 c) 1 v') w') w' v' A := hsp.mono fun b h => ⟨by omega, h.2, by
          rw [m4, f4]
          intro g e
          obtain ⟨q, e1, _, e2, _⟩ := hS.xa g
          rw [e1] at e
          have : q = b := ptr_inj e
          omega, by
          rw [m5, f5]
          intro g e
          obtain ⟨q, e1, _, e2, _⟩ := hS.xb g
          rw [e1] at e
          have : q = b := ptr_inj e
          omega⟩
      exact ⟨hlow.trans (hb'.mono hz), fun _ => (by rw [upd_same]; exact hnew), by rw [m3, f3]; exact fun h => ((hS.cb h).keep hst).mono hin, by rw [m4, f4]; exact fun h => (hS.xa h).below hb', by rw [m5, f5]; exact fun h => (hS.xb h).below hb', by rw [m4, m5, f4, f5]; exact hS.ne, fun h => (by rw [m6, h6] at h; cases h), fun h => (by rw [m7, h7] at h; cases h)⟩

set_option maxRecDepth 10000 in
theorem oE3_2 (D : Nat) (a0 a1 a2 a3 a4 a5 b0 b1 b2 b3 b4 b5 : Value) (A B : Tree) (pa pb : Nat) (w0 : World) (Q : Exit → Act → World → Prop) (l : Nat → Bool) (c : Act) (w : World) (hb : BE3 D a0 a1 a2 a3 a4 a5 b0 b1 b2 b3 b4 b5 A B pa pb w0 c) (hW : WE3 D a0 a1 a2 a3 a4 a5 b0 b1 b2 b3 b4 b5 A B pa pb w0) (hli : l 2 = false) (hcl : ∀ k, l k = true → ∀ j ∈ ancE3 k, l j = true) (hA : ∀ j ∈ ancE3 2, l j = true ∧ gE3 a0 a1 a2 a3 a4 a5 b0 b1 b2 b3 b4 b5 j (val RE3 c j)) (hS : SE3 D a0 a1 a2 a3 a4 a5 b0 b1 b2 b3 b4 b5 A B pa pb w0 l (val RE3 c) w) :
    Steps' Tryz.prog RE3 Q (gE3 a0 a1 a2 a3 a4 a5 b0 b1 b2 b3 b4 b5) (SE3 D a0 a1 a2 a3 a4 a5 b0 b1 b2 b3 b4 b5 A B pa pb w0) 2 l c w := by
  have ho : RE3[2]? = some ({ dst := some 17, op := Op.load 26 (Operand.tmp 3), type := 26, pos := "law.go:136", after := #[], guard := none } : Oper) := by kernel_rfl
  have e3 := hb.t3
  have hw : Region.wanted ({ dst := some 17, op := Op.load 26 (Operand.tmp 3), type := 26, pos := "law.go:136", after := #[], guard := none } : Oper) (yielded RE3 c.tmps) = true := want_none rfl
  have ec : ∀ v, c.eval (.const v) = v := fun _ => rfl
  have ef : ∀ f, c.eval (.func f) = .func (.func f) #[] #[] := fun _ => rfl
  have hlow := hS.low
  have hc0 := (hlow.cell (p := ⟨pb, 0, none⟩) (lt_of_cell hW.cb0)).trans hW.cb0
  have hc1 := (hlow.cell (p := ⟨pb, 1, none⟩) (lt_of_cell hW.cb1)).trans hW.cb1
  have hc2 := (hlow.cell (p := ⟨pb, 2, none⟩) (lt_of_cell hW.cb2)).trans hW.cb2
  have hc3 := (hlow.cell (p := ⟨pb, 3, none⟩) (lt_of_cell hW.cb3)).trans hW.cb3
  have hc4 := (hlow.cell (p := ⟨pb, 4, none⟩) (lt_of_cell hW.cb4)).trans hW.cb4
  have hc5 := (hlow.cell (p := ⟨pb, 5, none⟩) (lt_of_cell hW.cb5)).trans hW.cb5
  refine steps_value (d := 17) ho rfl (by rw [hb.size]; decide) hw (v := .agg #[b0, b1, b2, b3, b4, b5]) (w' := w) ?_ rfl ?_
  · generalize c.eval = ρ at *
    clear hA hb hW hw ho hS hcl hli hlow
    go_simp
  · skip
    have m1 : upd l 2 true 1 = l 1 := upd_other _ _ (by decide)
    have m3 : upd l 2 true 3 = l 3 := upd_other _ _ (by decide)
    have m4 : upd l 2 true 4 = l 4 := upd_other _ _ (by decide)
    have m5 : upd l 2 true 5 = l 5 := upd_other _ _ (by decide)
    have m6 : upd l 2 true 6 = l 6 := upd_other _ _ (by decide)
    have m7 : upd l 2 true 7 = l 7 := upd_other _ _ (by decide)
    have f1 : ∀ v, upd (val RE3 c) 2 v 1 = val RE3 c 1 := fun v => upd_other _ _ (by decide)
    have f3 : ∀ v, upd (val RE3 c) 2 v 3 = val RE3 c 3 := fun v => upd_other _ _ (by decide)
    have f4 : ∀ v, upd (val RE3 c) 2 v 4 = val RE3 c 4 := fun v => upd_other _ _ (by decide)
    have f5 : ∀ v, upd (val RE3 c) 2 v 5 = val RE3 c 5 := fun v => upd_other _ _ (by decide)
    exact ⟨hlow, by rw [m1, f1]; exact fun h => (hS.ca h).mono (fun b h => ⟨h.1, h.2.1, by rw [m4, f4]; exact h.2.2.1, by rw [m5, f5]; exact h.2.2.2⟩), by rw [m3, f3]; exact fun h => (hS.cb h).mono (fun b h => ⟨h.1, h.2.1, by rw [m4, f4]; exact h.2.2.1, by rw [m5, f5]; exact h.2.2.2⟩), by rw [m4, f4]; exact hS.xa, by rw [m5, f5]; exact hS.xb, by rw [m4, m5, f4, f5]; exact hS.ne, by rw [m6, f4, f1]; exact hS.sa, by rw [m7, f5, f3]; exact hS.sb⟩

set_option maxRecDepth 10000 in
theorem oE3_3 (D : Nat) (a0 a1 a2 a3 a4 a5 b0 b1 b2 b3 b4 b5 : Value) (A B : Tree) (pa pb : Nat) (w0 : World) (Q : Exit → Act → World → Prop) (l : Nat → Bool) (c : Act) (w : World) (hb : BE3 D a0 a1 a2 a3 a4 a5 b0 b1 b2 b3 b4 b5 A B pa pb w0 c) (hW : WE3 D a0 a1 a2 a3 a4 a5 b0 b1 b2 b3 b4 b5 A B pa pb w0) (hli : l 3 = false) (hcl : ∀ k, l k = true → ∀ j ∈ ancE3 k, l j = true) (hA : ∀ j ∈ ancE3 3, l j = true ∧ gE3 a0 a1 a2 a3 a4 a5 b0 b1 b2 b3 b4 b5 j (val RE3 c j)) (hS : SE3 D a0 a1 a2 a3 a4 a5 b0 b1 b2 b3 b4 b5 A B pa pb w0 l (val RE3 c) w) :
    Steps' Tryz.prog RE3 Q (gE3 a0 a1 a2 a3 a4 a5 b0 b1 b2 b3 b4 b5) (SE3 D a0 a1 a2 a3 a4 a5 b0 b1 b2 b3 b4 b5 A B pa pb w0) 3 l c w := by
  have ho : RE3[3]? = some ({ dst := some 18, op := Op.call { callee := Callee.value (Operand.func 17), args := #[Operand.tmp 17], argTypes := #[26] }, type := 26, pos := "law.go:136", after := #[{ on := 2, ground := Ground.data }, { on := 1, ground := Ground.chain }], guard := none } : Oper) := by kernel_rfl
  have e17 : c.eval (.tmp 17) = .agg #[b0, b1, b2, b3, b4, b5] := by have h := (hA 2 (by decide)).2; rw [val_eq (show slotOf RE3 2 = some 17 by kernel_rfl)] at h; exact h
  have hw : Region.wanted ({ dst := some 18, op := Op.call { callee := Callee.value (Operand.func 17), args := #[Operand.tmp 17], argTypes := #[26] }, type := 26, pos := "law.go:136", after := #[{ on := 2, ground := Ground.data }, { on := 1, ground := Ground.chain }], guard := none } : Oper) (yielded RE3 c.tmps) = true := want_none rfl
  have ec : ∀ v, c.eval (.const v) = v := fun _ => rfl
  have ef : ∀ f, c.eval (.func f) = .func (.func f) #[] #[] := fun _ => rfl
  have hlow := hS.low
  have h6 : l 6 = false := by
    cases h : l 6 with
    | false => rfl
    | true => have := hcl 6 h 3 (by decide); rw [hli] at this; cases this
  have h7 : l 7 = false := by
    cases h : l 7 with
    | false => rfl
    | true => have := hcl 7 h 3 (by decide); rw [hli] at this; cases this
  refine steps_call (d := 18) ho rfl (by rw [hb.size]; decide) hw (f := 17) (args := #[.agg #[b0, b1, b2, b3, b4, b5]]) ?_ ?_
  · generalize c.eval = ρ at *
    clear hA hb hW hw ho hS hcl hli hlow
    go_simp
  · refine (spared_any B D _ w (Nat.le_trans hW.lo hlow.size) (hW.lb.below (hlow.mono hW.lo)) hW.fb).mono ?_
    rintro e w' ⟨v', rfl, hsp, hb'⟩
    have hz := hlow.size
    have hz' := hb'.size
    have m1 : upd l 3 true 1 = l 1 := upd_other _ _ (by decide)
    have m4 : upd l 3 true 4 = l 4 := upd_other _ _ (by decide)
    have m5 : upd l 3 true 5 = l 5 := upd_other _ _ (by decide)
    have m6 : upd l 3 true 6 = l 6 := upd_other _ _ (by decide)
    have m7 : upd l 3 true 7 = l 7 := upd_other _ _ (by decide)
    have f1 : ∀ v, upd (val RE3 c) 3 v 1 = val RE3 c 1 := fun v => upd_other _ _ (by decide)
    have f4 : ∀ v, upd (val RE3 c) 3 v 4 = val RE3 c 4 := fun v => upd_other _ _ (by decide)
    have f5 : ∀ v, upd (val RE3 c) 3 v 5 = val RE3 c 5 := fun v => upd_other _ _ (by decide)
    refine ⟨v', rfl, ?_, ?_⟩
    · exact spare_shape hsp
    · have hin : ∀ b, InE3 w0 l (val RE3 c) w b → InE3 w0 (upd l 3 true) (upd (val RE3 c) 3 v') w' b := fun b h => ⟨h.1, by have := h.2.1; omega, by rw [m4, f4]; exact h.2.2.1, by rw [m5, f5]; exact h.2.2.2⟩
      have hst : Stay (InE3 w0 l (val RE3 c) w) w w' := fun b q h => hb'.cell (p := ⟨b, q, none⟩) h.2.1
      have hnew : SpareP (InE3 w0 (upd l 3 true) (upd (val RE3 c) 3 v') w') w' v' B := hsp.mono fun b h => ⟨by omega, h.2, by
          rw [m4, f4]
          intro g e
          obtain ⟨q, e1, _, e2, _⟩ := hS.xa g
          rw [e1] at e
          have : q = b := ptr_inj e
          omega, by
          rw [m5, f5]
          intro g e
          obtain ⟨q, e1, _, e2, _⟩ := hS.xb g
          rw [e1] at e
          have : q = b := ptr_inj e
          omega⟩
      exact ⟨hlow.trans (hb'.mono hz), by rw [m1, f1]; exact fun h => ((hS.ca h).keep hst).mono hin, fun _ => (by rw [upd_same]; exact hnew), by rw [m4, f4]; exact fun h => (hS.xa h).below hb', by rw [m5, f5]; exact fun h => (hS.xb h).below hb', by rw [m4, m5, f4, f5]; exact hS.ne, fun h => (by rw [m6, h6] at h; cases h), fun h => (by rw [m7, h7] at h; cases h)⟩

set_option maxRecDepth 10000 in
theorem oE3_4 (D : Nat) (a0 a1 a2 a3 a4 a5 b0 b1 b2 b3 b4 b5 : Value) (A B : Tree) (pa pb : Nat) (w0 : World) (Q : Exit → Act → World → Prop) (l : Nat → Bool) (c : Act) (w : World) (hb : BE3 D a0 a1 a2 a3 a4 a5 b0 b1 b2 b3 b4 b5 A B pa pb w0 c) (hW : WE3 D a0 a1 a2 a3 a4 a5 b0 b1 b2 b3 b4 b5 A B pa pb w0) (hli : l 4 = false) (hcl : ∀ k, l k = true → ∀ j ∈ ancE3 k, l j = true) (hA : ∀ j ∈ ancE3 4, l j = true ∧ gE3 a0 a1 a2 a3 a4 a5 b0 b1 b2 b3 b4 b5 j (val RE3 c j)) (hS : SE3 D a0 a1 a2 a3 a4 a5 b0 b1 b2 b3 b4 b5 A B pa pb w0 l (val RE3 c) w) :
    Steps' Tryz.prog RE3 Q (gE3 a0 a1 a2 a3 a4 a5 b0 b1 b2 b3 b4 b5) (SE3 D a0 a1 a2 a3 a4 a5 b0 b1 b2 b3 b4 b5 A B pa pb w0) 4 l c w := by
  have ho : RE3[4]? = some ({ dst := some 5, op := Op.alloc 26, type := 0, pos := "law.go:136", after := #[], guard := none } : Oper) := by kernel_rfl
  have hw : Region.wanted ({ dst := some 5, op := Op.alloc 26, type := 0, pos := "law.go:136", after := #[], guard := none } : Oper) (yielded RE3 c.tmps) = true := want_none rfl
  have ec : ∀ v, c.eval (.const v) = v := fun _ => rfl
  have ef : ∀ f, c.eval (.func f) = .func (.func f) #[] #[] := fun _ => rfl
  have hlow := hS.low
  have h6 : l 6 = false := by
    cases h : l 6 with
    | false => rfl
    | true => have := hcl 6 h 4 (by decide); rw [hli] at this; cases this
  have h7 : l 7 = false := by
    cases h : l 7 with
    | false => rfl
    | true => have := hcl 7 h 4 (by decide); rw [hli] at this; cases this
  refine steps_value (d := 5) ho rfl (by rw [hb.size]; decide) hw (v := .pointer (some ⟨w.heap.size, 0, none⟩)) (w' := w.alloc (.cells #[.int .i64 0, .bool false, .int .i64 0, .string ⟨#[]⟩, .slice none 0 0, .slice none 0 0] 26)) ?_ ⟨_, rfl⟩ ?_
  · generalize c.eval = ρ at *
    clear hA hb hW hw ho hS hcl hli hlow
    go_simp
  · have hb' : Below w.heap.size w (w.alloc (.cells #[.int .i64 0, .bool false, .int .i64 0, .string ⟨#[]⟩, .slice none 0 0, .slice none 0 0] 26)) := (Below.refl _ _).alloc (Nat.le_refl _) _
    have hsz : (w.alloc (.cells #[.int .i64 0, .bool false, .int .i64 0, .string ⟨#[]⟩, .slice none 0 0, .slice none 0 0] 26)).heap.size = w.heap.size + 1 := by simp
    have hqq := World.alloc_heap_new w (.cells #[.int .i64 0, .bool false, .int .i64 0, .string ⟨#[]⟩, .slice none 0 0, .slice none 0 0] 26)
    generalize w.alloc (.cells #[.int .i64 0, .bool false, .int .i64 0, .string ⟨#[]⟩, .slice none 0 0, .slice none 0 0] 26) = w' at *
    have hz := hlow.size
    have m1 : upd l 4 true 1 = l 1 := upd_other _ _ (by decide)
    have m3 : upd l 4 true 3 = l 3 := upd_other _ _ (by decide)
    have m5 : upd l 4 true 5 = l 5 := upd_other _ _ (by decide)
    have m6 : upd l 4 true 6 = l 6 := upd_other _ _ (by decide)
    have m7 : upd l 4 true 7 = l 7 := upd_other _ _ (by decide)
    have f1 : ∀ v, upd (val RE3 c) 4 v 1 = val RE3 c 1 := fun v => upd_other _ _ (by decide)
    have f3 : ∀ v, upd (val RE3 c) 4 v 3 = val RE3 c 3 := fun v => upd_other _ _ (by decide)
    have f5 : ∀ v, upd (val RE3 c) 4 v 5 = val RE3 c 5 := fun v => upd_other _ _ (by decide)
    have hbox : BoxE3 w0 w' (.pointer (some ⟨w.heap.size, 0, none⟩)) := ⟨w.heap.size, rfl, hz, by omega, fun q hq => ⟨by
        unfold World.cell?
        simp only [hqq]
        match q, hq with
        | 0, _ => rfl
        | 1, _ => rfl
        | 2, _ => rfl
        | 3, _ => rfl
        | 4, _ => rfl
        | 5, _ => rfl, by unfold World.frozen?; simp [hqq]⟩⟩
    have hin : ∀ b, InE3 w0 l (val RE3 c) w b → InE3 w0 (upd l 4 true) (upd (val RE3 c) 4 (.pointer (some ⟨w.heap.size, 0, none⟩))) w' b := fun b h => by
      have hlt := h.2.1
      have hn : (Value.pointer (some ⟨w.heap.size, 0, none⟩)) ≠ .pointer (some ⟨b, 0, none⟩) := fun e => by
        have : w.heap.size = b := ptr_inj e
        omega
      exact ⟨h.1, by omega, fun _ => (by rw [upd_same]; exact hn), by rw [m5, f5]; exact h.2.2.2⟩
    have hst : Stay (InE3 w0 l (val RE3 c) w) w w' := fun b q h => hb'.cell (p := ⟨b, q, none⟩) h.2.1
    have hne : ∀ v, l 5 = true → v = val RE3 c 5 → (Value.pointer (some ⟨w.heap.size, 0, none⟩)) ≠ v := fun v g e1 e => by
      obtain ⟨q, e2, _, e3, _⟩ := hS.xb g
      rw [e1, e2] at e
      have : w.heap.size = q := ptr_inj e
      omega
    exact ⟨hlow.trans (hb'.mono hz), by rw [m1, f1]; exact fun h => ((hS.ca h).keep hst).mono hin, by rw [m3, f3]; exact fun h => ((hS.cb h).keep hst).mono hin, fun _ => (by rw [upd_same]; exact hbox), by rw [m5, f5]; exact fun h => (hS.xb h).below hb', fun _ g => (by rw [upd_same, f5]; exact hne _ (m5 ▸ g) rfl), fun h => (by rw [m6, h6] at h; cases h), fun h => (by rw [m7, h7] at h; cases h)⟩

set_option maxRecDepth 10000 in
theorem oE3_5 (D : Nat) (a0 a1 a2 a3 a4 a5 b0 b1 b2 b3 b4 b5 : Value) (A B : Tree) (pa pb : Nat) (w0 : World) (Q : Exit → Act → World → Prop) (l : Nat → Bool) (c : Act) (w : World) (hb : BE3 D a0 a1 a2 a3 a4 a5 b0 b1 b2 b3 b4 b5 A B pa pb w0 c) (hW : WE3 D a0 a1 a2 a3 a4 a5 b0 b1 b2 b3 b4 b5 A B pa pb w0) (hli : l 5 = false) (hcl : ∀ k, l k = true → ∀ j ∈ ancE3 k, l j = true) (hA : ∀ j ∈ ancE3 5, l j = true ∧ gE3 a0 a1 a2 a3 a4 a5 b0 b1 b2 b3 b4 b5 j (val RE3 c j)) (hS : SE3 D a0 a1 a2 a3 a4 a5 b0 b1 b2 b3 b4 b5 A B pa pb w0 l (val RE3 c) w) :
    Steps' Tryz.prog RE3 Q (gE3 a0 a1 a2 a3 a4 a5 b0 b1 b2 b3 b4 b5) (SE3 D a0 a1 a2 a3 a4 a5 b0 b1 b2 b3 b4 b5 A B pa pb w0) 5 l c w := by
  have ho : RE3[5]? = some ({ dst := some 6, op := Op.alloc 26, type := 0, pos := "law.go:136", after := #[], guard := none } : Oper) := by kernel_rfl
  have hw : Region.wanted ({ dst := some 6, op := Op.alloc 26, type := 0, pos := "law.go:136", after := #[], guard := none } : Oper) (yielded RE3 c.tmps) = true := want_none rfl
  have ec : ∀ v, c.eval (.const v) = v := fun _ => rfl
  have ef : ∀ f, c.eval (.func f) = .func (.func f) #[] #[] := fun _ => rfl
  have hlow := hS.low
  have h6 : l 6 = false := by
    cases h : l 6 with
    | false => rfl
    | true => have := hcl 6 h 5 (by decide); rw [hli] at this; cases this
  have h7 : l 7 = false := by
    cases h : l 7 with
    | false => rfl
    | true => have := hcl 7 h 5 (by decide); rw [hli] at this; cases this
  refine steps_value (d := 6) ho rfl (by rw [hb.size]; decide) hw (v := .pointer (some ⟨w.heap.size, 0, none⟩)) (w' := w.alloc (.cells #[.int .i64 0, .bool false, .int .i64 0, .string ⟨#[]⟩, .slice none 0 0, .slice none 0 0] 26)) ?_ ⟨_, rfl⟩ ?_
  · generalize c.eval = ρ at *
    clear hA hb hW hw ho hS hcl hli hlow
    go_simp
  · have hb' : Below w.heap.size w (w.alloc (.cells #[.int .i64 0, .bool false, .int .i64 0, .string ⟨#[]⟩, .slice none 0 0, .slice none 0 0] 26)) := (Below.refl _ _).alloc (Nat.le_refl _) _
    have hsz : (w.alloc (.cells #[.int .i64 0, .bool false, .int .i64 0, .string ⟨#[]⟩, .slice none 0 0, .slice none 0 0] 26)).heap.size = w.heap.size + 1 := by simp
    have hqq := World.alloc_heap_new w (.cells #[.int .i64 0, .bool false, .int .i64 0, .string ⟨#[]⟩, .slice none 0 0, .slice none 0 0] 26)
    generalize w.alloc (.cells #[.int .i64 0, .bool false, .int .i64 0, .string ⟨#[]⟩, .slice none 0 0, .slice none 0 0] 26) = w' at *
    have hz := hlow.size
    have m1 : upd l 5 true 1 = l 1 := upd_other _ _ (by decide)
    have m3 : upd l 5 true 3 = l 3 := upd_other _ _ (by decide)
    have m4 : upd l 5 true 4 = l 4 := upd_other _ _ (by decide)
    have m6 : upd l 5 true 6 = l 6 := upd_other _ _ (by decide)
    have m7 : upd l 5 true 7 = l 7 := upd_other _ _ (by decide)
    have f1 : ∀ v, upd (val RE3 c) 5 v 1 = val RE3 c 1 := fun v => upd_other _ _ (by decide)
    have f3 : ∀ v, upd (val RE3 c) 5 v 3 = val RE3 c 3 := fun v => upd_other _ _ (by decide)
    have f4 : ∀ v, upd (val RE3 c) 5 v 4 = val RE3 c 4 := fun v => upd_other _ _ (by decide)
    have hbox : BoxE3 w0 w' (.pointer (some ⟨w.heap.size, 0, none⟩)) := ⟨w.heap.size, rfl, hz, by omega, fun q hq => ⟨by
        unfold World.cell?
        simp only [hqq]
        match q, hq with
        | 0, _ => rfl
        | 1, _ => rfl
        | 2, _ => rfl
        | 3, _ => rfl
        | 4, _ => rfl
        | 5, _ => rfl, by unfold World.frozen?; simp [hqq]⟩⟩
    have hin : ∀ b, InE3 w0 l (val RE3 c) w b → InE3 w0 (upd l 5 true) (upd (val RE3 c) 5 (.pointer (some ⟨w.heap.size, 0, none⟩))) w' b := fun b h => by
      have hlt := h.2.1
      have hn : (Value.pointer (some ⟨w.heap.size, 0, none⟩)) ≠ .pointer (some ⟨b, 0, none⟩) := fun e => by
        have : w.heap.size = b := ptr_inj e
        omega
      exact ⟨h.1, by omega, by rw [m4, f4]; exact h.2.2.1, fun _ => (by rw [upd_same]; exact hn)⟩
    have hst : Stay (InE3 w0 l (val RE3 c) w) w w' := fun b q h => hb'.cell (p := ⟨b, q, none⟩) h.2.1
    have hne : ∀ v, l 4 = true → v = val RE3 c 4 → (Value.pointer (some ⟨w.heap.size, 0, none⟩)) ≠ v := fun v g e1 e => by
      obtain ⟨q, e2, _, e3, _⟩ := hS.xa g
      rw [e1, e2] at e
      have : w.heap.size = q := ptr_inj e
      omega
    exact ⟨hlow.trans (hb'.mono hz), by rw [m1, f1]; exact fun h => ((hS.ca h).keep hst).mono hin, by rw [m3, f3]; exact fun h => ((hS.cb h).keep hst).mono hin, by rw [m4, f4]; exact fun h => (hS.xa h).below hb', fun _ => (by rw [upd_same]; exact hbox), fun g _ => (by rw [upd_same, f4]; exact (hne _ (m4 ▸ g) rfl).symm), fun h => (by rw [m6, h6] at h; cases h), fun h => (by rw [m7, h7] at h; cases h)⟩

set_option maxRecDepth 10000 in
theorem oE3_6 (D : Nat) (a0 a1 a2 a3 a4 a5 b0 b1 b2 b3 b4 b5 : Value) (A B : Tree) (pa pb : Nat) (w0 : World) (Q : Exit → Act → World → Prop) (l : Nat → Bool) (c : Act) (w : World) (hb : BE3 D a0 a1 a2 a3 a4 a5 b0 b1 b2 b3 b4 b5 A B pa pb w0 c) (hW : WE3 D a0 a1 a2 a3 a4 a5 b0 b1 b2 b3 b4 b5 A B pa pb w0) (hli : l 6 = false) (hcl : ∀ k, l k = true → ∀ j ∈ ancE3 k, l j = true) (hA : ∀ j ∈ ancE3 6, l j = true ∧ gE3 a0 a1 a2 a3 a4 a5 b0 b1 b2 b3 b4 b5 j (val RE3 c j)) (hS : SE3 D a0 a1 a2 a3 a4 a5 b0 b1 b2 b3 b4 b5 A B pa pb w0 l (val RE3 c) w) :
    Steps' Tryz.prog RE3 Q (gE3 a0 a1 a2 a3 a4 a5 b0 b1 b2 b3 b4 b5) (SE3 D a0 a1 a2 a3 a4 a5 b0 b1 b2 b3 b4 b5 A B pa pb w0) 6 l c w := by
  have ho : RE3[6]? = some ({ dst := none, op := Op.store 26 (Operand.tmp 5) (Operand.tmp 16), type := 0, pos := "law.go:136", after := #[{ on := 4, ground := Ground.data }, { on := 1, ground := Ground.data }, { on := 3, ground := Ground.chain }, { on := 0, ground := Ground.phase }, { on := 1, ground := Ground.phase }, { on := 2, ground := Ground.textOnly Departure.lateStores }, { on := 3, ground := Ground.textOnly Departure.lateStoresUnsure }, { on := 4, ground := Ground.phase }, { on := 5, ground := Ground.phase }], guard := none } : Oper) := by kernel_rfl
  have e5 : c.eval (.tmp 5) = val RE3 c 4 := (val_eq (show slotOf RE3 4 = some 5 by kernel_rfl)).symm
  have e16 : c.eval (.tmp 16) = val RE3 c 1 := (val_eq (show slotOf RE3 1 = some 16 by kernel_rfl)).symm
  have hw : Region.wanted ({ dst := none, op := Op.store 26 (Operand.tmp 5) (Operand.tmp 16), type := 0, pos := "law.go:136", after := #[{ on := 4, ground := Ground.data }, { on := 1, ground := Ground.data }, { on := 3, ground := Ground.chain }, { on := 0, ground := Ground.phase }, { on := 1, ground := Ground.phase }, { on := 2, ground := Ground.textOnly Departure.lateStores }, { on := 3, ground := Ground.textOnly Departure.lateStoresUnsure }, { on := 4, ground := Ground.phase }, { on := 5, ground := Ground.phase }], guard := none } : Oper) (yielded RE3 c.tmps) = true := want_none rfl
  have ec : ∀ v, c.eval (.const v) = v := fun _ => rfl
  have ef : ∀ f, c.eval (.func f) = .func (.func f) #[] #[] := fun _ => rfl
  have hlow := hS.low
  have h7 : l 7 = false := by
    cases h : l 7 with
    | false => rfl
    | true => have := hcl 7 h 6 (by decide); rw [hli] at this; cases this
  have hbo : l 4 = true := (hA 4 (by decide)).1
  obtain ⟨q, hq, hq0, hq1, hqc⟩ := hS.xa hbo
  obtain ⟨sk, sx, sn, ss, ska, skn, skc, sla, sln, slc, hv⟩ := (hA 1 (by decide)).2
  have hz := hlow.size
  have hin : ∀ b k, InE3 w0 l (val RE3 c) w b → (six w q 0 (.int .i64 sk) (.bool sx) (.int .i64 sn) (.string ss) (.slice ska skn skc) (.slice sla sln slc)).cell? ⟨b, k, none⟩ = w.cell? ⟨b, k, none⟩ := fun b k h => six_out fun e => absurd (by rw [e]; exact hq) (h.2.2.1 hbo)
  obtain ⟨y0, hy0⟩ := Option.isSome_iff_exists.1 (hqc 0 (by decide)).1
  have hf0 := (hqc 0 (by decide)).2
  obtain ⟨y1, hy1⟩ := Option.isSome_iff_exists.1 (hqc 1 (by decide)).1
  have hf1 := (hqc 1 (by decide)).2
  obtain ⟨y2, hy2⟩ := Option.isSome_iff_exists.1 (hqc 2 (by decide)).1
  have hf2 := (hqc 2 (by decide)).2
  obtain ⟨y3, hy3⟩ := Option.isSome_iff_exists.1 (hqc 3 (by decide)).1
  have hf3 := (hqc 3 (by decide)).2
  obtain ⟨y4, hy4⟩ := Option.isSome_iff_exists.1 (hqc 4 (by decide)).1
  have hf4 := (hqc 4 (by decide)).2
  obtain ⟨y5, hy5⟩ := Option.isSome_iff_exists.1 (hqc 5 (by decide)).1
  have hf5 := (hqc 5 (by decide)).2
  refine steps_store ho rfl hw (w' := six w q 0 (.int .i64 sk) (.bool sx) (.int .i64 sn) (.string ss) (.slice ska skn skc) (.slice sla sln slc)) ?_ trivial ?_
  · rw [← six_eq]
    rw [hq] at e5
    rw [hv] at e16
    generalize c.eval = ρ at *
    clear hA hb hW hw ho hS hcl hli hlow hin hqc
    go_simp
  · skip
    have m1 : upd l 6 true 1 = l 1 := upd_other _ _ (by decide)
    have m3 : upd l 6 true 3 = l 3 := upd_other _ _ (by decide)
    have m4 : upd l 6 true 4 = l 4 := upd_other _ _ (by decide)
    have m5 : upd l 6 true 5 = l 5 := upd_other _ _ (by decide)
    have m7 : upd l 6 true 7 = l 7 := upd_other _ _ (by decide)
    have f1 : ∀ v, upd (val RE3 c) 6 v 1 = val RE3 c 1 := fun v => upd_other _ _ (by decide)
    have f3 : ∀ v, upd (val RE3 c) 6 v 3 = val RE3 c 3 := fun v => upd_other _ _ (by decide)
    have f4 : ∀ v, upd (val RE3 c) 6 v 4 = val RE3 c 4 := fun v => upd_other _ _ (by decide)
    have f5 : ∀ v, upd (val RE3 c) 6 v 5 = val RE3 c 5 := fun v => upd_other _ _ (by decide)
    have hst : Stay (InE3 w0 l (val RE3 c) w) w (six w q 0 (.int .i64 sk) (.bool sx) (.int .i64 sn) (.string ss) (.slice ska skn skc) (.slice sla sln slc)) := fun b k h => hin b k h
    have hmo : ∀ b, InE3 w0 l (val RE3 c) w b → InE3 w0 (upd l 6 true) (upd (val RE3 c) 6 undef) (six w q 0 (.int .i64 sk) (.bool sx) (.int .i64 sn) (.string ss) (.slice ska skn skc) (.slice sla sln slc)) b := fun b h => ⟨h.1, by rw [six_size]; exact h.2.1, by rw [m4, f4]; exact h.2.2.1, by rw [m5, f5]; exact h.2.2.2⟩
    have hbx : ∀ v, BoxE3 w0 w v → BoxE3 w0 (six w q 0 (.int .i64 sk) (.bool sx) (.int .i64 sn) (.string ss) (.slice ska skn skc) (.slice sla sln slc)) v := fun v h => by
      obtain ⟨r, e, g1, g2, g3⟩ := h
      refine ⟨r, e, g1, by rw [six_size]; exact g2, fun k hk => ⟨?_, by rw [six_frozen]; exact (g3 k hk).2⟩⟩
      by_cases hrq : r = q
      · subst hrq
        have := six_in (w := w) (b := r) (o := 0) (v0 := (.int .i64 sk)) (v1 := (.bool sx)) (v2 := (.int .i64 sn)) (v3 := (.string ss)) (v4 := (.slice ska skn skc)) (v5 := (.slice sla sln slc)) (fun j hj => by rw [Nat.zero_add]; exact (hqc j hj).1)
        match k, hk with
        | 0, _ => rw [this.1]; rfl
        | 1, _ => rw [this.2.1]; rfl
        | 2, _ => rw [this.2.2.1]; rfl
        | 3, _ => rw [this.2.2.2.1]; rfl
        | 4, _ => rw [this.2.2.2.2.1]; rfl
        | 5, _ => rw [this.2.2.2.2.2]; rfl
      · rw [six_out (fun e => absurd e hrq)]; exact (g3 k hk).1
    have hput : PutE3 (six w q 0 (.int .i64 sk) (.bool sx) (.int .i64 sn) (.string ss) (.slice ska skn skc) (.slice sla sln slc)) (val RE3 c 4) (val RE3 c 1) := by
      have := six_in (w := w) (b := q) (o := 0) (v0 := (.int .i64 sk)) (v1 := (.bool sx)) (v2 := (.int .i64 sn)) (v3 := (.string ss)) (v4 := (.slice ska skn skc)) (v5 := (.slice sla sln slc)) (fun j hj => by rw [Nat.zero_add]; exact (hqc j hj).1)
      exact ⟨q, (.int .i64 sk), (.bool sx), (.int .i64 sn), (.string ss), (.slice ska skn skc), (.slice sla sln slc), hq, hv, this.1, this.2.1, this.2.2.1, this.2.2.2.1, this.2.2.2.2.1, this.2.2.2.2.2⟩
    exact ⟨six_below hlow hq0 _ _ _ _ _ _, by rw [m1, f1]; exact fun h => ((hS.ca h).keep hst).mono hmo, by rw [m3, f3]; exact fun h => ((hS.cb h).keep hst).mono hmo, by rw [m4, f4]; exact fun h => hbx _ (hS.xa h), by rw [m5, f5]; exact fun h => hbx _ (hS.xb h), by rw [m4, m5, f4, f5]; exact hS.ne, fun _ => (by rw [f4, f1]; exact hput), fun h => (by rw [m7, h7] at h; cases h)⟩

set_option maxRecDepth 10000 in
theorem oE3_7 (D : Nat) (a0 a1 a2 a3 a4 a5 b0 b1 b2 b3 b4 b5 : Value) (A B : Tree) (pa pb : Nat) (w0 : World) (Q : Exit → Act → World → Prop) (l : Nat → Bool) (c : Act) (w : World) (hb : BE3 D a0 a1 a2 a3 a4 a5 b0 b1 b2 b3 b4 b5 A B pa pb w0 c) (hW : WE3 D a0 a1 a2 a3 a4 a5 b0 b1 b2 b3 b4 b5 A B pa pb w0) (hli : l 7 = false) (hcl : ∀ k, l k = true → ∀ j ∈ ancE3 k, l j = true) (hA : ∀ j ∈ ancE3 7, l j = true ∧ gE3 a0 a1 a2 a3 a4 a5 b0 b1 b2 b3 b4 b5 j (val RE3 c j)) (hS : SE3 D a0 a1 a2 a3 a4 a5 b0 b1 b2 b3 b4 b5 A B pa pb w0 l (val RE3 c) w) :
    Steps' Tryz.prog RE3 Q (gE3 a0 a1 a2 a3 a4 a5 b0 b1 b2 b3 b4 b5) (SE3 D a0 a1 a2 a3 a4 a5 b0 b1 b2 b3 b4 b5 A B pa pb w0) 7 l c w := by
  have ho : RE3[7]? = some ({ dst := none, op := Op.store 26 (Operand.tmp 6) (Operand.tmp 18), type := 0, pos := "law.go:136", after := #[{ on := 5, ground := Ground.data }, { on := 3, ground := Ground.data }, { on := 6, ground := Ground.chain }, { on := 0, ground := Ground.phase }, { on := 1, ground := Ground.phase }, { on := 2, ground := Ground.phase }, { on := 3, ground := Ground.phase }, { on := 4, ground := Ground.phase }, { on := 5, ground := Ground.phase }, { on := 6, ground := Ground.phase }], guard := none } : Oper) := by kernel_rfl
  have e6 : c.eval (.tmp 6) = val RE3 c 5 := (val_eq (show slotOf RE3 5 = some 6 by kernel_rfl)).symm
  have e18 : c.eval (.tmp 18) = val RE3 c 3 := (val_eq (show slotOf RE3 3 = some 18 by kernel_rfl)).symm
  have hw : Region.wanted ({ dst := none, op := Op.store 26 (Operand.tmp 6) (Operand.tmp 18), type := 0, pos := "law.go:136", after := #[{ on := 5, ground := Ground.data }, { on := 3, ground := Ground.data }, { on := 6, ground := Ground.chain }, { on := 0, ground := Ground.phase }, { on := 1, ground := Ground.phase }, { on := 2, ground := Ground.phase }, { on := 3, ground := Ground.phase }, { on := 4, ground := Ground.phase }, { on := 5, ground := Ground.phase }, { on := 6, ground := Ground.phase }], guard := none } : Oper) (yielded RE3 c.tmps) = true := want_none rfl
  have ec : ∀ v, c.eval (.const v) = v := fun _ => rfl
  have ef : ∀ f, c.eval (.func f) = .func (.func f) #[] #[] := fun _ => rfl
  have hlow := hS.low
  have hbo : l 5 = true := (hA 5 (by decide)).1
  obtain ⟨q, hq, hq0, hq1, hqc⟩ := hS.xb hbo
  obtain ⟨sk, sx, sn, ss, ska, skn, skc, sla, sln, slc, hv⟩ := (hA 3 (by decide)).2
  have hz := hlow.size
  have hin : ∀ b k, InE3 w0 l (val RE3 c) w b → (six w q 0 (.int .i64 sk) (.bool sx) (.int .i64 sn) (.string ss) (.slice ska skn skc) (.slice sla sln slc)).cell? ⟨b, k, none⟩ = w.cell? ⟨b, k, none⟩ := fun b k h => six_out fun e => absurd (by rw [e]; exact hq) (h.2.2.2 hbo)
  obtain ⟨y0, hy0⟩ := Option.isSome_iff_exists.1 (hqc 0 (by decide)).1
  have hf0 := (hqc 0 (by decide)).2
  obtain ⟨y1, hy1⟩ := Option.isSome_iff_exists.1 (hqc 1 (by decide)).1
  have hf1 := (hqc 1 (by decide)).2
  obtain ⟨y2, hy2⟩ := Option.isSome_iff_exists.1 (hqc 2 (by decide)).1
  have hf2 := (hqc 2 (by decide)).2
  obtain ⟨y3, hy3⟩ := Option.isSome_iff_exists.1 (hqc 3 (by decide)).1
  have hf3 := (hqc 3 (by decide)).2
  obtain ⟨y4, hy4⟩ := Option.isSome_iff_exists.1 (hqc 4 (by decide)).1
  have hf4 := (hqc 4 (by decide)).2
  obtain ⟨y5, hy5⟩ := Option.isSome_iff_exists.1 (hqc 5 (by decide)).1
  have hf5 := (hqc 5 (by decide)).2
  refine steps_store ho rfl hw (w' := six w q 0 (.int .i64 sk) (.bool sx) (.int .i64 sn) (.string ss) (.slice ska skn skc) (.slice sla sln slc)) ?_ trivial ?_
  · rw [← six_eq]
    rw [hq] at e6
    rw [hv] at e18
    generalize c.eval = ρ at *
    clear hA hb hW hw ho hS hcl hli hlow hin hqc
    go_simp
  · skip
    have m1 : upd l 7 true 1 = l 1 := upd_other _ _ (by decide)
    have m3 : upd l 7 true 3 = l 3 := upd_other _ _ (by decide)
    have m4 : upd l 7 true 4 = l 4 := upd_other _ _ (by decide)
    have m5 : upd l 7 true 5 = l 5 := upd_other _ _ (by decide)
    have m6 : upd l 7 true 6 = l 6 := upd_other _ _ (by decide)
    have f1 : ∀ v, upd (val RE3 c) 7 v 1 = val RE3 c 1 := fun v => upd_other _ _ (by decide)
    have f3 : ∀ v, upd (val RE3 c) 7 v 3 = val RE3 c 3 := fun v => upd_other _ _ (by decide)
    have f4 : ∀ v, upd (val RE3 c) 7 v 4 = val RE3 c 4 := fun v => upd_other _ _ (by decide)
    have f5 : ∀ v, upd (val RE3 c) 7 v 5 = val RE3 c 5 := fun v => upd_other _ _ (by decide)
    have hst : Stay (InE3 w0 l (val RE3 c) w) w (six w q 0 (.int .i64 sk) (.bool sx) (.int .i64 sn) (.string ss) (.slice ska skn skc) (.slice sla sln slc)) := fun b k h => hin b k h
    have hmo : ∀ b, InE3 w0 l (val RE3 c) w b → InE3 w0 (upd l 7 true) (upd (val RE3 c) 7 undef) (six w q 0 (.int .i64 sk) (.bool sx) (.int .i64 sn) (.string ss) (.slice ska skn skc) (.slice sla sln slc)) b := fun b h => ⟨h.1, by rw [six_size]; exact h.2.1, by rw [m4, f4]; exact h.2.2.1, by rw [m5, f5]; exact h.2.2.2⟩
    have hbx : ∀ v, BoxE3 w0 w v → BoxE3 w0 (six w q 0 (.int .i64 sk) (.bool sx) (.int .i64 sn) (.string ss) (.slice ska skn skc) (.slice sla sln slc)) v := fun v h => by
      obtain ⟨r, e, g1, g2, g3⟩ := h
      refine ⟨r, e, g1, by rw [six_size]; exact g2, fun k hk => ⟨?_, by rw [six_frozen]; exact (g3 k hk).2⟩⟩
      by_cases hrq : r = q
      · subst hrq
        have := six_in (w := w) (b := r) (o := 0) (v0 := (.int .i64 sk)) (v1 := (.bool sx)) (v2 := (.int .i64 sn)) (v3 := (.string ss)) (v4 := (.slice ska skn skc)) (v5 := (.slice sla sln slc)) (fun j hj => by rw [Nat.zero_add]; exact (hqc j hj).1)
        match k, hk with
        | 0, _ => rw [this.1]; rfl
        | 1, _ => rw [this.2.1]; rfl
        | 2, _ => rw [this.2.2.1]; rfl
        | 3, _ => rw [this.2.2.2.1]; rfl
        | 4, _ => rw [this.2.2.2.2.1]; rfl
        | 5, _ => rw [this.2.2.2.2.2]; rfl
      · rw [six_out (fun e => absurd e hrq)]; exact (g3 k hk).1
    have hput : PutE3 (six w q 0 (.int .i64 sk) (.bool sx) (.int .i64 sn) (.string ss) (.slice ska skn skc) (.slice sla sln slc)) (val RE3 c 5) (val RE3 c 3) := by
      have := six_in (w := w) (b := q) (o := 0) (v0 := (.int .i64 sk)) (v1 := (.bool sx)) (v2 := (.int .i64 sn)) (v3 := (.string ss)) (v4 := (.slice ska skn skc)) (v5 := (.slice sla sln slc)) (fun j hj => by rw [Nat.zero_add]; exact (hqc j hj).1)
      exact ⟨q, (.int .i64 sk), (.bool sx), (.int .i64 sn), (.string ss), (.slice ska skn skc), (.slice sla sln slc), hq, hv, this.1, this.2.1, this.2.2.1, this.2.2.2.1, this.2.2.2.2.1, this.2.2.2.2.2⟩
    exact ⟨six_below hlow hq0 _ _ _ _ _ _, by rw [m1, f1]; exact fun h => ((hS.ca h).keep hst).mono hmo, by rw [m3, f3]; exact fun h => ((hS.cb h).keep hst).mono hmo, by rw [m4, f4]; exact fun h => hbx _ (hS.xa h), by rw [m5, f5]; exact fun h => hbx _ (hS.xb h), by rw [m4, m5, f4, f5]; exact hS.ne, by rw [m6, f4, f1]; exact fun h => (hS.sa h).keep fun r k e => six_out fun e2 => absurd (by rw [e, hq, e2]) (hS.ne (hA 4 (by decide)).1 hbo), fun _ => (by rw [f5, f3]; exact hput)⟩

set_option maxRecDepth 100000 in
theorem allE3 (D : Nat) (a0 a1 a2 a3 a4 a5 b0 b1 b2 b3 b4 b5 : Value) (A B : Tree) (pa pb : Nat) (w0 : World) (Q : Exit → Act → World → Prop) (hW : WE3 D a0 a1 a2 a3 a4 a5 b0 b1 b2 b3 b4 b5 A B pa pb w0) : ∀ i, i < 8 → (fun i => ∀ l c w, BE3 D a0 a1 a2 a3 a4 a5 b0 b1 b2 b3 b4 b5 A B pa pb w0 c → l i = false → (∀ k, l k = true → ∀ j ∈ ancE3 k, l j = true) → (∀ j ∈ ancE3 i, l j = true ∧ gE3 a0 a1 a2 a3 a4 a5 b0 b1 b2 b3 b4 b5 j (val RE3 c j)) → SE3 D a0 a1 a2 a3 a4 a5 b0 b1 b2 b3 b4 b5 A B pa pb w0 l (val RE3 c) w → Steps' Tryz.prog RE3 Q (gE3 a0 a1 a2 a3 a4 a5 b0 b1 b2 b3 b4 b5) (SE3 D a0 a1 a2 a3 a4 a5 b0 b1 b2 b3 b4 b5 A B pa pb w0) i l c w) i := by
  refine below_succ ?_ (fun l c w hb => oE3_7 D a0 a1 a2 a3 a4 a5 b0 b1 b2 b3 b4 b5 A B pa pb w0 Q l c w hb hW)
  refine below_succ ?_ (fun l c w hb => oE3_6 D a0 a1 a2 a3 a4 a5 b0 b1 b2 b3 b4 b5 A B pa pb w0 Q l c w hb hW)
  refine below_succ ?_ (fun l c w hb => oE3_5 D a0 a1 a2 a3 a4 a5 b0 b1 b2 b3 b4 b5 A B pa pb w0 Q l c w hb hW)
  refine below_succ ?_ (fun l c w hb => oE3_4 D a0 a1 a2 a3 a4 a5 b0 b1 b2 b3 b4 b5 A B pa pb w0 Q l c w hb hW)
  refine below_succ ?_ (fun l c w hb => oE3_3 D a0 a1 a2 a3 a4 a5 b0 b1 b2 b3 b4 b5 A B pa pb w0 Q l c w hb hW)
  refine below_succ ?_ (fun l c w hb => oE3_2 D a0 a1 a2 a3 a4 a5 b0 b1 b2 b3 b4 b5 A B pa pb w0 Q l c w hb hW)
  refine below_succ ?_ (fun l c w hb => oE3_1 D a0 a1 a2 a3 a4 a5 b0 b1 b2 b3 b4 b5 A B pa pb w0 Q l c w hb hW)
  refine below_succ ?_ (fun l c w hb => oE3_0 D a0 a1 a2 a3 a4 a5 b0 b1 b2 b3 b4 b5 A B pa pb w0 Q l c w hb hW)
  exact below_zero

/-- Both copies. -/
theorem regionE3 (D : Nat) (a0 a1 a2 a3 a4 a5 b0 b1 b2 b3 b4 b5 : Value) (A B : Tree) (pa pb : Nat) (w0 : World) (Q : Exit → Act → World → Prop) (frame : Act) (hb : BE3 D a0 a1 a2 a3 a4 a5 b0 b1 b2 b3 b4 b5 A B pa pb w0 frame) (hW : WE3 D a0 a1 a2 a3 a4 a5 b0 b1 b2 b3 b4 b5 A B pa pb w0)
    (hQ : ∀ c W qa qb va vb, Same RE3 frame c → c.eval (.tmp 5) = .pointer (some ⟨qa, 0, none⟩) → c.eval (.tmp 6) = .pointer (some ⟨qb, 0, none⟩) → Below w0.heap.size w0 W → (w0.heap.size ≤ qa ∧ qa < W.heap.size) → (w0.heap.size ≤ qb ∧ qb < W.heap.size) →
      PutE3 W (.pointer (some ⟨qa, 0, none⟩)) va → PutE3 W (.pointer (some ⟨qb, 0, none⟩)) vb → SpareP (· < W.heap.size) W va A → SpareP (· < W.heap.size) W vb B → Q .normal c W) :
    (Code.region 3 RE3 true).wp Tryz.prog Q frame w0 := by
  refine writes_rule (A := ancE3) (G := gE3 a0 a1 a2 a3 a4 a5 b0 b1 b2 b3 b4 b5) (S := SE3 D a0 a1 a2 a3 a4 a5 b0 b1 b2 b3 b4 b5 A B pa pb w0) (by kernel_rfl) (by rw [hb.size]; kernel_rfl) ?_ ?_ ?_
  · exact ⟨(Below.refl _ _).drew, (fun h => by cases h), (fun h => by cases h), (fun h => by cases h), (fun h => by cases h), (fun h => by cases h), (fun h => by cases h), (fun h => by cases h)⟩
  · intro i hi l c w hS hli hcl hA hst
    exact allE3 D a0 a1 a2 a3 a4 a5 b0 b1 b2 b3 b4 b5 A B pa pb w0 Q hW i (by rwa [show RE3.size = 8 by kernel_rfl] at hi) l c w ⟨(same_eval hS (by kernel_rfl)).trans hb.t2, (same_eval hS (by kernel_rfl)).trans hb.t3, hS.2.1.trans hb.size⟩ hli hcl hA hst
  · intro l c w hS hall hst
    have hsz : RE3.size = 8 := by kernel_rfl
    have hd : ∀ i, i < 8 → l i = true := fun i hi => (hall i (by rw [hsz]; exact hi)).1
    obtain ⟨qa, ea, a1, a2, _⟩ := hst.xa (hd 4 (by decide))
    obtain ⟨qb, eb, b1, b2, _⟩ := hst.xb (hd 5 (by decide))
    have sa := hst.sa (hd 6 (by decide))
    have sb := hst.sb (hd 7 (by decide))
    rw [ea] at sa
    rw [eb] at sb
    exact hQ c w qa qb _ _ hS ((val_eq (show slotOf RE3 4 = some 5 by kernel_rfl)).symm.trans ea) ((val_eq (show slotOf RE3 5 = some 6 by kernel_rfl)).symm.trans eb) hst.low ⟨a1, a2⟩ ⟨b1, b2⟩ sa sb ((hst.ca (hd 1 (by decide))).mono fun b h => h.2.1) ((hst.cb (hd 3 (by decide))).mono fun b h => h.2.1)
end Go.Proofs.YtbpmhgcjefpigaaGreatDoor
