/- The statement that tells a list, operation by operation, in whatever order. -/
import Derived.Test.YthfilnflgahcjaaGreatDoorJoin29
import Derived.Test.YthfilnflgahcjaaGreatDoorJoin11
import Derived.Deep.AppendLies
namespace Go.Proofs.YthfilnflgahcjaaGreatDoor
open Go.RowKit Go.Shelf Go.WideShapes Go.Lib
set_option linter.unusedVariables false
set_option linter.unusedSimpArgs false
noncomputable def RT9 : Array Oper := regionAt Tryz.f152 9
def ancT9 (i : Nat) : List Nat := ([[], [], [0, 1], [], [0, 1, 2, 3], [], [0, 1, 2, 3, 4, 5], [0, 1, 2, 3, 4, 5, 6]] : List (List Nat)).getD i []
def gT9 (v : Value) (p0 : Int) (p1 : Bool) (p2 : Int) (p3 : ByteArray) (pa : Option Addr) (pn pc : Nat) (pb : Option Addr) (pm pd : Nat) (i : Nat) (u : Value) : Prop := ([fun u => u = (v), fun u => ∃ t, u = .slice (some ⟨t, 0, none⟩) 1 1, fun _ => True, fun u => u = (.agg #[.int .i64 p0, .bool p1, .int .i64 p2, .string p3, .slice pa pn pc, .slice pb pm pd]), fun _ => True, fun u => ∃ t, u = .slice (some ⟨t, 0, none⟩) 1 1, fun _ => True, fun _ => True] : List (Value → Prop)).getD i (fun _ => True) u
structure ST9 (q base n : Nat) (v : Value) (xs : List Value) (p0 : Int) (p1 : Bool) (p2 : Int) (p3 : ByteArray) (pa : Option Addr) (pn pc : Nat) (pb : Option Addr) (pm pd : Nat) (A : List UInt8) (w0 : World) (l : Nat → Bool) (vs : Nat → Value) (w : World) : Prop where
  told : l 6 = false → Told base n xs v w0 (if l 4 then [91] ++ A else if l 2 then [91] else []) (if l 4 then vs 4 else if l 2 then vs 2 else v) w
  opened : l 1 = true → l 2 = false → ∃ t, vs 1 = .slice (some ⟨t, 0, none⟩) 1 1 ∧ w.cell? ⟨t, 0, none⟩ = some (.int .u8 91)
  closed : l 5 = true → l 6 = false → ∃ t, vs 5 = .slice (some ⟨t, 0, none⟩) 1 1 ∧ w.cell? ⟨t, 0, none⟩ = some (.int .u8 93) ∧ some t ≠ Value.ownBlock (if l 4 then vs 4 else if l 2 then vs 2 else v)
  done : l 6 = true → Told base n xs v w0 ([91] ++ A ++ [93]) (vs 6) w
  last : l 7 = true → vs 7 = vs 6
theorem ST9.lift {q base n : Nat} {v : Value} {xs : List Value} {p0 : Int} {p1 : Bool} {p2 : Int} {p3 : ByteArray} {pa : Option Addr} {pn pc : Nat} {pb : Option Addr} {pm pd : Nat} {A : List UInt8} {w0 : World} {l : Nat → Bool} {vs : Nat → Value} {w : World} (h : ST9 q base n v xs p0 p1 p2 p3 pa pn pc pb pm pd A w0 l vs w) {i : Nat} (u : Value) (hi : i = 0 ∨ i = 3) : ST9 q base n v xs p0 p1 p2 p3 pa pn pc pb pm pd A w0 (upd l i true) (upd vs i u) w := by
  have e1 : upd l i true 1 = l 1 := upd_other _ _ (by omega)
  have e2 : upd l i true 2 = l 2 := upd_other _ _ (by omega)
  have e4 : upd l i true 4 = l 4 := upd_other _ _ (by omega)
  have e5 : upd l i true 5 = l 5 := upd_other _ _ (by omega)
  have e6 : upd l i true 6 = l 6 := upd_other _ _ (by omega)
  have e7 : upd l i true 7 = l 7 := upd_other _ _ (by omega)
  have f1 : upd vs i u 1 = vs 1 := upd_other _ _ (by omega)
  have f2 : upd vs i u 2 = vs 2 := upd_other _ _ (by omega)
  have f4 : upd vs i u 4 = vs 4 := upd_other _ _ (by omega)
  have f5 : upd vs i u 5 = vs 5 := upd_other _ _ (by omega)
  have f6 : upd vs i u 6 = vs 6 := upd_other _ _ (by omega)
  have f7 : upd vs i u 7 = vs 7 := upd_other _ _ (by omega)
  exact ⟨by rw [e6, e4, e2, f4, f2]; exact h.told, by rw [e1, e2, f1]; exact h.opened, by rw [e5, e6, f5, e4, e2, f4, f2]; exact h.closed, by rw [e6, f6]; exact h.done, by rw [e7, f7, f6]; exact h.last⟩
structure BT9 (q base n : Nat) (v : Value) (xs : List Value) (p0 : Int) (p1 : Bool) (p2 : Int) (p3 : ByteArray) (pa : Option Addr) (pn pc : Nat) (pb : Option Addr) (pm pd : Nat) (A : List UInt8) (w0 : World) (c : Act) : Prop where
  t0 : c.eval (.tmp 0) = v
  t3 : c.eval (.tmp 3) = .pointer (some ⟨q, 0, none⟩)
  size : c.tmps.size = 63
structure WT9 (q base n : Nat) (v : Value) (xs : List Value) (p0 : Int) (p1 : Bool) (p2 : Int) (p3 : ByteArray) (pa : Option Addr) (pn pc : Nat) (pb : Option Addr) (pm pd : Nat) (A : List UInt8) (w0 : World) : Prop where
  box : w0.heap[q]? = some (.cells #[.int .i64 p0, .bool p1, .int .i64 p2, .string p3, .slice pa pn pc, .slice pb pm pd] 88 (0, 0))
  own : w0.ownsRow base 5 1 v n xs
  few : n + A.length ≤ 1000000000
  low : base ≤ w0.heap.size
  call : ∀ u xs' m w, w.ownsRow base 5 1 u m xs' → base ≤ w.heap.size → Below base w0 w → m ≤ n + 1 → Calls Tryz.prog 204 #[u, .agg #[.int .i64 p0, .bool p1, .int .i64 p2, .string p3, .slice pa pn pc, .slice pb pm pd]] w fun e w' => ∃ v', e = .returned v' ∧ Told base m xs' u w A v' w'
def stepT9 (q base n : Nat) (v : Value) (xs : List Value) (p0 : Int) (p1 : Bool) (p2 : Int) (p3 : ByteArray) (pa : Option Addr) (pn pc : Nat) (pb : Option Addr) (pm pd : Nat) (A : List UInt8) (w0 : World) (Q : Exit → Act → World → Prop) (i : Nat) : Prop := ∀ (l : Nat → Bool) (c : Act) (w : World), (BT9 q base n v xs p0 p1 p2 p3 pa pn pc pb pm pd A w0 c) → (WT9 q base n v xs p0 p1 p2 p3 pa pn pc pb pm pd A w0) → (l i = false) → (∀ k, l k = true → ∀ j ∈ ancT9 k, l j = true) → (∀ j ∈ ancT9 i, l j = true ∧ gT9 v p0 p1 p2 p3 pa pn pc pb pm pd j (val RT9 c j)) → (ST9 q base n v xs p0 p1 p2 p3 pa pn pc pb pm pd A w0 l (val RT9 c) w) → Steps' Tryz.prog RT9 Q (gT9 v p0 p1 p2 p3 pa pn pc pb pm pd) (ST9 q base n v xs p0 p1 p2 p3 pa pn pc pb pm pd A w0) i l c w
theorem wnT9 {i : Nat} {o : Oper} {c : Act} (ho : RT9[i]? = some o) (h : o.guard = none) : Region.wanted o (yielded RT9 c.tmps) = true := want_none h
section
variable (q base n : Nat) (v : Value) (xs : List Value) (p0 : Int) (p1 : Bool) (p2 : Int) (p3 : ByteArray) (pa : Option Addr) (pn pc : Nat) (pb : Option Addr) (pm pd : Nat) (A : List UInt8) (w0 : World) (Q : Exit → Act → World → Prop)
set_option maxRecDepth 10000 in
theorem oT9_0 : stepT9 q base n v xs p0 p1 p2 p3 pa pn pc pb pm pd A w0 Q 0 := by
  intro l c w hb hW hli hcl hA hS
  have ho : RT9[0]? = some ({ dst := some 27, op := Op.move (Operand.tmp 0), type := 116, pos := "text.go:48", after := #[], guard := none } : Oper) := by kernel_rfl
  have e0 := hb.t0
  have hw := wnT9 (c := c) ho rfl
  have ec : ∀ v, c.eval (.const v) = v := fun _ => rfl
  have ef : ∀ f, c.eval (.func f) = .func (.func f) #[] #[] := fun _ => rfl
  refine steps_value (d := 27) ho rfl (by rw [hb.size]; decide) hw (v := v) ?_ rfl (hS.lift _ (by decide))
  generalize c.eval = ρ at *
  clear hA hb hW hw ho hS hcl hli
  go_simp
set_option maxRecDepth 10000 in
theorem oT9_1 : stepT9 q base n v xs p0 p1 p2 p3 pa pn pc pb pm pd A w0 Q 1 := by
  intro l c w hb hW hli hcl hA hS
  have ho : RT9[1]? = some ({ dst := some 28, op := Op.buildSlice 116 1 #[(0, Operand.const (Value.int IntKind.u8 91))], type := 116, pos := "text.go:48", after := #[], guard := none } : Oper) := by kernel_rfl
  have hw := wnT9 (c := c) ho rfl
  have ec : ∀ v, c.eval (.const v) = v := fun _ => rfl
  have ef : ∀ f, c.eval (.func f) = .func (.func f) #[] #[] := fun _ => rfl
  have n2 : l 2 = false := by
    cases h : l 2 with
    | false => rfl
    | true => have := hcl 2 h 1 (by decide); rw [hli] at this; cases this
  have n4 : l 4 = false := by
    cases h : l 4 with
    | false => rfl
    | true => have := hcl 4 h 1 (by decide); rw [hli] at this; cases this
  have n6 : l 6 = false := by
    cases h : l 6 with
    | false => rfl
    | true => have := hcl 6 h 1 (by decide); rw [hli] at this; cases this
  have htd := hS.told n6
  have hba : Below w.heap.size w (w.alloc (.cells #[.int .u8 91] 5)) := (Below.refl _ _).alloc (Nat.le_refl _) _
  refine steps_value (d := 28) ho rfl (by rw [hb.size]; decide) hw (v := .slice (some ⟨w.heap.size, 0, none⟩) 1 1) (w' := w.alloc (.cells #[.int .u8 91] 5)) ?_ ⟨_, rfl⟩ ?_
  · generalize c.eval = ρ at *
    clear hA hb hW hw ho hS hcl hli htd
    go_simp
  · have hne : some w.heap.size ≠ Value.ownBlock (if l 4 then val RT9 c 4 else if l 2 then val RT9 c 2 else v) := fun e => by
      have := (htd.own.lt _ e.symm).2
      omega
    refine ⟨fun _ => ?_, fun _ _ => ⟨w.heap.size, by rw [upd_same], cell_new _ _ _ 0 _ rfl⟩, fun h5 _ => ?_, fun h => ?_, fun h => ?_⟩
    · rw [upd_other _ _ (show (4 : Nat) ≠ 1 by decide), upd_other _ _ (show (2 : Nat) ≠ 1 by decide), upd_other _ _ (show (4 : Nat) ≠ 1 by decide), upd_other _ _ (show (2 : Nat) ≠ 1 by decide)]
      exact htd.upto hba
    · rw [upd_other _ _ (by decide)] at h5
      obtain ⟨t, h1, h2, h3⟩ := hS.closed h5 n6
      rw [upd_other _ _ (show (4 : Nat) ≠ 1 by decide), upd_other _ _ (show (2 : Nat) ≠ 1 by decide), upd_other _ _ (show (4 : Nat) ≠ 1 by decide), upd_other _ _ (show (2 : Nat) ≠ 1 by decide), upd_other _ _ (show (5 : Nat) ≠ 1 by decide)]
      exact ⟨t, h1, (hba.cell (p := ⟨t, 0, none⟩) (lt_of_cell h2)).trans h2, h3⟩
    · rw [upd_other _ _ (by decide), n6] at h; cases h
    · rw [upd_other _ _ (by decide)] at h
      have := hcl 7 h 6 (by decide)
      rw [n6] at this; cases this
set_option maxRecDepth 10000 in
theorem oT9_2 : stepT9 q base n v xs p0 p1 p2 p3 pa pn pc pb pm pd A w0 Q 2 := by
  intro l c w hb hW hli hcl hA hS
  have ho : RT9[2]? = some ({ dst := some 29, op := Op.call { callee := Callee.builtin Builtin.append, args := #[Operand.tmp 27, Operand.tmp 28], argTypes := #[116, 116] }, type := 116, pos := "text.go:48", after := #[{ on := 0, ground := Ground.data }, { on := 1, ground := Ground.data }], guard := none } : Oper) := by kernel_rfl
  have e27 : c.eval (.tmp 27) = v := by have h := (hA 0 (by decide)).2; rw [val_eq (show slotOf RT9 0 = some 27 by kernel_rfl)] at h; exact h
  have e28 : c.eval (.tmp 28) = val RT9 c 1 := (val_eq (show slotOf RT9 1 = some 28 by kernel_rfl)).symm
  have hw := wnT9 (c := c) ho rfl
  have ec : ∀ v, c.eval (.const v) = v := fun _ => rfl
  have ef : ∀ f, c.eval (.func f) = .func (.func f) #[] #[] := fun _ => rfl
  have n4 : l 4 = false := by
    cases h : l 4 with
    | false => rfl
    | true => have := hcl 4 h 2 (by decide); rw [hli] at this; cases this
  have n6 : l 6 = false := by
    cases h : l 6 with
    | false => rfl
    | true => have := hcl 6 h 2 (by decide); rw [hli] at this; cases this
  have htd := hS.told n6
  rw [n4, hli] at htd
  simp only [Bool.false_eq_true, if_false] at htd
  obtain ⟨t, ht, hcell⟩ := hS.opened (hA 1 (by decide)).1 hli
  obtain ⟨i0, hi, hz0, hz1, hz2⟩ := info_parts Tryz.info5
  have hown : w.ownsRow base 5 1 v n xs := by have := htd.own; simpa [byteCells] using this
  have hle := htd.grown.size
  refine steps_law (d := 29) ho rfl (by rw [hb.size]; decide) fun K hK => ?_
  refine step_append_lies w rfl (.tmp 27) (.tmp 28) 116 rfl base 5 i0 (.int .u8 0) 1 1 Tryz.underlying116 hi hz0 hz1 hz2 rfl (by decide) v n xs e27 hown ⟨t, 0, none⟩ 1 1 [.int .u8 91] (e28.trans ht) rfl ?_ ?_ (by decide) (by have := hW.few; unfold maxLen; omega) (by have := hW.few; omega) (Nat.le_trans hW.low hle) w.heap.size rfl ?_
  · intro j u hj
    match j, hj with
    | 0, hj =>
      simp only [List.getElem?_cons_zero, Option.some.injEq] at hj
      subst hj
      rw [Lib.add_plain]; exact hcell
  · intro u hu
    simp only [List.mem_cons, List.not_mem_nil, or_false] at hu
    subst hu; rfl
  · intro g cap w' g1 g2 g3 g4
    have hnew : Told base n xs v w [91] (.slice (some ⟨g, 0, none⟩) (n + 1) cap) w' := ⟨g1, g2, g3.elim (fun e => .inl e.symm) fun e => .inr ⟨g, rfl, by omega⟩⟩
    have hall : Told base n xs v w0 [91] (.slice (some ⟨g, 0, none⟩) (n + 1) cap) w' := by
      have h1 : Told base n xs v w0 [] v w := htd
      have h2 := h1.trans (v2 := .slice (some ⟨g, 0, none⟩) (n + 1) cap) (w2 := w') (cs := [91]) (by simpa [byteCells] using hnew)
      simpa using h2
    refine hK _ _ trivial ⟨fun _ => ?_, fun _ h => ?_, fun h5 _ => ?_, fun h => ?_, fun h => ?_⟩
    · rw [upd_other _ _ (show (4 : Nat) ≠ 2 by decide), n4, upd_same, upd_same]
      exact hall
    · rw [upd_same] at h; cases h
    · rw [upd_other _ _ (by decide)] at h5
      obtain ⟨t5, h1, h2, h3⟩ := hS.closed h5 n6
      rw [n4, hli] at h3
      rw [upd_other _ _ (show (4 : Nat) ≠ 2 by decide), n4, upd_same, upd_same, upd_other _ _ (show (5 : Nat) ≠ 2 by decide)]
      refine ⟨t5, h1, (World.cell?_of_block (g2.block t5 (lt_of_cell h2) h3)).trans h2, fun e => ?_⟩
      have e' : t5 = g := by simpa [Value.ownBlock] using e
      have := lt_of_cell h2
      have h2' : t5 < w.heap.size := this
      rcases g3 with g3 | g3
      · exact h3 (by rw [e']; exact g3.symm)
      · omega
    · rw [upd_other _ _ (by decide), n6] at h; cases h
    · rw [upd_other _ _ (by decide)] at h
      have := hcl 7 h 6 (by decide)
      rw [n6] at this; cases this
set_option maxRecDepth 10000 in
theorem oT9_3 : stepT9 q base n v xs p0 p1 p2 p3 pa pn pc pb pm pd A w0 Q 3 := by
  intro l c w hb hW hli hcl hA hS
  have ho : RT9[3]? = some ({ dst := some 30, op := Op.load 88 (Operand.tmp 3), type := 88, pos := "text.go:48", after := #[], guard := none } : Oper) := by kernel_rfl
  have e3 := hb.t3
  have hw := wnT9 (c := c) ho rfl
  have ec : ∀ v, c.eval (.const v) = v := fun _ => rfl
  have ef : ∀ f, c.eval (.func f) = .func (.func f) #[] #[] := fun _ => rfl
  have n4 : l 4 = false := by
    cases h : l 4 with
    | false => rfl
    | true => have := hcl 4 h 3 (by decide); rw [hli] at this; cases this
  have n6 : l 6 = false := by
    cases h : l 6 with
    | false => rfl
    | true => have := hcl 6 h 3 (by decide); rw [hli] at this; cases this
  obtain ⟨y0, y1, y2, y3, y4, y5⟩ := boxes (hS.told n6) hW.own hW.box
  refine steps_value (d := 30) ho rfl (by rw [hb.size]; decide) hw (v := .agg #[.int .i64 p0, .bool p1, .int .i64 p2, .string p3, .slice pa pn pc, .slice pb pm pd]) ?_ rfl (hS.lift _ (by decide))
  generalize c.eval = ρ at *
  clear hA hb hW hw ho hS hcl hli
  go_simp
set_option maxRecDepth 10000 in
theorem oT9_4 : stepT9 q base n v xs p0 p1 p2 p3 pa pn pc pb pm pd A w0 Q 4 := by
  intro l c w hb hW hli hcl hA hS
  have ho : RT9[4]? = some ({ dst := some 31, op := Op.call { callee := Callee.value (Operand.func 204), args := #[Operand.tmp 29, Operand.tmp 30], argTypes := #[116, 88] }, type := 116, pos := "text.go:48", after := #[{ on := 2, ground := Ground.data }, { on := 3, ground := Ground.data }, { on := 2, ground := Ground.chain }], guard := none } : Oper) := by kernel_rfl
  have e29 : c.eval (.tmp 29) = val RT9 c 2 := (val_eq (show slotOf RT9 2 = some 29 by kernel_rfl)).symm
  have e30 : c.eval (.tmp 30) = .agg #[.int .i64 p0, .bool p1, .int .i64 p2, .string p3, .slice pa pn pc, .slice pb pm pd] := by have h := (hA 3 (by decide)).2; rw [val_eq (show slotOf RT9 3 = some 30 by kernel_rfl)] at h; exact h
  have hw := wnT9 (c := c) ho rfl
  have ec : ∀ v, c.eval (.const v) = v := fun _ => rfl
  have ef : ∀ f, c.eval (.func f) = .func (.func f) #[] #[] := fun _ => rfl
  have n6 : l 6 = false := by
    cases h : l 6 with
    | false => rfl
    | true => have := hcl 6 h 4 (by decide); rw [hli] at this; cases this
  have h2 : l 2 = true := (hA 2 (by decide)).1
  have htd := hS.told n6
  rw [hli, h2] at htd
  simp only [Bool.false_eq_true, if_false, if_true] at htd
  have hle := htd.grown.size
  refine steps_call (d := 31) ho rfl (by rw [hb.size]; decide) hw (f := 204) (args := #[val RT9 c 2, .agg #[.int .i64 p0, .bool p1, .int .i64 p2, .string p3, .slice pa pn pc, .slice pb pm pd]]) ?_ ?_
  · generalize val RT9 c 2 = z at *
    generalize c.eval = ρ at *
    clear hA hb hW hw ho hS hcl hli htd
    go_simp
  · refine (hW.call _ _ _ w htd.own (Nat.le_trans hW.low hle) (htd.below hW.own hW.low) (Nat.le_refl _)).mono ?_
    rintro e w' ⟨v', rfl, ht⟩
    refine ⟨v', rfl, trivial, ⟨fun _ => ?_, fun _ h => ?_, fun h5 _ => ?_, fun h => ?_, fun h => ?_⟩⟩
    · rw [upd_same, upd_same]
      exact htd.trans ht
    · rw [upd_other _ _ (by decide), h2] at h; cases h
    · rw [upd_other _ _ (by decide)] at h5
      obtain ⟨t5, h1, h4, h3⟩ := hS.closed h5 n6
      rw [hli, h2] at h3
      rw [upd_same, upd_same, upd_other _ _ (show (5 : Nat) ≠ 4 by decide)]
      refine ⟨t5, h1, (World.cell?_of_block (ht.grown.block t5 (lt_of_cell h4) h3)).trans h4, fun e => ?_⟩
      have h4' : t5 < w.heap.size := lt_of_cell h4
      rcases ht.place with g3 | ⟨g, g3, g5⟩
      · exact h3 (e.trans g3)
      · have e2 : some t5 = some g := e.trans g3
        have : t5 = g := by simpa using e2
        omega
    · rw [upd_other _ _ (by decide), n6] at h; cases h
    · rw [upd_other _ _ (by decide)] at h
      have := hcl 7 h 6 (by decide)
      rw [n6] at this; cases this
set_option maxRecDepth 10000 in
theorem oT9_5 : stepT9 q base n v xs p0 p1 p2 p3 pa pn pc pb pm pd A w0 Q 5 := by
  intro l c w hb hW hli hcl hA hS
  have ho : RT9[5]? = some ({ dst := some 32, op := Op.buildSlice 116 1 #[(0, Operand.const (Value.int IntKind.u8 93))], type := 116, pos := "text.go:48", after := #[], guard := none } : Oper) := by kernel_rfl
  have hw := wnT9 (c := c) ho rfl
  have ec : ∀ v, c.eval (.const v) = v := fun _ => rfl
  have ef : ∀ f, c.eval (.func f) = .func (.func f) #[] #[] := fun _ => rfl
  have n6 : l 6 = false := by
    cases h : l 6 with
    | false => rfl
    | true => have := hcl 6 h 5 (by decide); rw [hli] at this; cases this
  have htd := hS.told n6
  have hba : Below w.heap.size w (w.alloc (.cells #[.int .u8 93] 5)) := (Below.refl _ _).alloc (Nat.le_refl _) _
  refine steps_value (d := 32) ho rfl (by rw [hb.size]; decide) hw (v := .slice (some ⟨w.heap.size, 0, none⟩) 1 1) (w' := w.alloc (.cells #[.int .u8 93] 5)) ?_ ⟨_, rfl⟩ ?_
  · generalize c.eval = ρ at *
    clear hA hb hW hw ho hS hcl hli htd
    go_simp
  · have hne : some w.heap.size ≠ Value.ownBlock (if l 4 then val RT9 c 4 else if l 2 then val RT9 c 2 else v) := fun e => by
      have := (htd.own.lt _ e.symm).2
      omega
    refine ⟨fun _ => ?_, fun h1 h2 => ?_, fun _ _ => ⟨w.heap.size, by rw [upd_same], cell_new _ _ _ 0 _ rfl, ?_⟩, fun h => ?_, fun h => ?_⟩
    · rw [upd_other _ _ (show (4 : Nat) ≠ 5 by decide), upd_other _ _ (show (2 : Nat) ≠ 5 by decide), upd_other _ _ (show (4 : Nat) ≠ 5 by decide), upd_other _ _ (show (2 : Nat) ≠ 5 by decide)]
      exact htd.upto hba
    · rw [upd_other _ _ (by decide)] at h1 h2
      obtain ⟨t, h3, h4⟩ := hS.opened h1 h2
      rw [upd_other _ _ (by decide)]
      exact ⟨t, h3, (hba.cell (p := ⟨t, 0, none⟩) (lt_of_cell h4)).trans h4⟩
    · rw [upd_other _ _ (show (4 : Nat) ≠ 5 by decide), upd_other _ _ (show (2 : Nat) ≠ 5 by decide), upd_other _ _ (show (4 : Nat) ≠ 5 by decide), upd_other _ _ (show (2 : Nat) ≠ 5 by decide)]
      exact hne
    · rw [upd_other _ _ (by decide), n6] at h; cases h
    · rw [upd_other _ _ (by decide)] at h
      have := hcl 7 h 6 (by decide)
      rw [n6] at this; cases this
set_option maxRecDepth 10000 in
theorem oT9_6 : stepT9 q base n v xs p0 p1 p2 p3 pa pn pc pb pm pd A w0 Q 6 := by
  intro l c w hb hW hli hcl hA hS
  have ho : RT9[6]? = some ({ dst := some 33, op := Op.call { callee := Callee.builtin Builtin.append, args := #[Operand.tmp 31, Operand.tmp 32], argTypes := #[116, 116] }, type := 116, pos := "text.go:48", after := #[{ on := 4, ground := Ground.data }, { on := 5, ground := Ground.data }, { on := 4, ground := Ground.chain }], guard := none } : Oper) := by kernel_rfl
  have e31 : c.eval (.tmp 31) = val RT9 c 4 := (val_eq (show slotOf RT9 4 = some 31 by kernel_rfl)).symm
  have e32 : c.eval (.tmp 32) = val RT9 c 5 := (val_eq (show slotOf RT9 5 = some 32 by kernel_rfl)).symm
  have hw := wnT9 (c := c) ho rfl
  have ec : ∀ v, c.eval (.const v) = v := fun _ => rfl
  have ef : ∀ f, c.eval (.func f) = .func (.func f) #[] #[] := fun _ => rfl
  have h4 : l 4 = true := (hA 4 (by decide)).1
  have h2 : l 2 = true := (hA 2 (by decide)).1
  have htd := hS.told hli
  rw [h4] at htd
  simp only [if_true] at htd
  obtain ⟨t, ht, hcell, hne⟩ := hS.closed (hA 5 (by decide)).1 hli
  obtain ⟨i0, hi, hz0, hz1, hz2⟩ := info_parts Tryz.info5
  have hle := htd.grown.size
  have hlen : ([91] ++ A).length = A.length + 1 := by simp
  refine steps_law (d := 33) ho rfl (by rw [hb.size]; decide) fun K hK => ?_
  refine step_append_lies w rfl (.tmp 31) (.tmp 32) 116 rfl base 5 i0 (.int .u8 0) 1 1 Tryz.underlying116 hi hz0 hz1 hz2 rfl (by decide) _ (n + ([91] ++ A).length) _ e31 htd.own ⟨t, 0, none⟩ 1 1 [.int .u8 93] (e32.trans ht) rfl ?_ ?_ (by decide) (by have := hW.few; rw [hlen]; unfold maxLen; omega) (by have := hW.few; rw [hlen]; omega) (Nat.le_trans hW.low hle) w.heap.size rfl ?_
  · intro j u hj
    match j, hj with
    | 0, hj =>
      simp only [List.getElem?_cons_zero, Option.some.injEq] at hj
      subst hj
      rw [Lib.add_plain]; exact hcell
  · intro u hu
    simp only [List.mem_cons, List.not_mem_nil, or_false] at hu
    subst hu; rfl
  · intro g cap w' g1 g2 g3 g4
    have hnew : Told base (n + ([91] ++ A).length) (xs ++ byteCells ([91] ++ A)) (val RT9 c 4) w [93] (.slice (some ⟨g, 0, none⟩) (n + ([91] ++ A).length + 1) cap) w' := ⟨g1, g2, g3.elim (fun e => .inl e.symm) fun e => .inr ⟨g, rfl, by omega⟩⟩
    refine hK _ _ trivial ⟨fun h => ?_, fun _ h => ?_, fun _ h => ?_, fun _ => ?_, fun h => ?_⟩
    · rw [upd_same] at h; cases h
    · rw [upd_other _ _ (by decide), h2] at h; cases h
    · rw [upd_same] at h; cases h
    · rw [upd_same]
      exact htd.trans hnew
    · rw [upd_other _ _ (by decide)] at h
      have := hcl 7 h 6 (by decide)
      rw [hli] at this; cases this
set_option maxRecDepth 10000 in
theorem oT9_7 : stepT9 q base n v xs p0 p1 p2 p3 pa pn pc pb pm pd A w0 Q 7 := by
  intro l c w hb hW hli hcl hA hS
  have ho : RT9[7]? = some ({ dst := some 4, op := Op.assign (Operand.tmp 33), type := 116, pos := "text.go:48", after := #[{ on := 6, ground := Ground.data }, { on := 6, ground := Ground.chain }, { on := 0, ground := Ground.phase }, { on := 1, ground := Ground.phase }, { on := 2, ground := Ground.phase }, { on := 3, ground := Ground.phase }, { on := 4, ground := Ground.phase }, { on := 5, ground := Ground.phase }, { on := 6, ground := Ground.phase }], guard := none } : Oper) := by kernel_rfl
  have e33 : c.eval (.tmp 33) = val RT9 c 6 := (val_eq (show slotOf RT9 6 = some 33 by kernel_rfl)).symm
  have hw := wnT9 (c := c) ho rfl
  have ec : ∀ v, c.eval (.const v) = v := fun _ => rfl
  have ef : ∀ f, c.eval (.func f) = .func (.func f) #[] #[] := fun _ => rfl
  have h6 : l 6 = true := (hA 6 (by decide)).1
  have h2 : l 2 = true := (hA 2 (by decide)).1
  refine steps_value (d := 4) ho rfl (by rw [hb.size]; decide) hw (v := val RT9 c 6) (w' := w) ?_ trivial ⟨fun h => ?_, fun _ h => ?_, fun _ h => ?_, fun _ => ?_, fun _ => ?_⟩
  · generalize val RT9 c 6 = z at *
    generalize c.eval = ρ at *
    clear hA hb hW hw ho hS hcl hli
    go_simp
  · rw [upd_other _ _ (by decide), h6] at h; cases h
  · rw [upd_other _ _ (by decide), h2] at h; cases h
  · rw [upd_other _ _ (by decide), h6] at h; cases h
  · rw [upd_other _ _ (by decide)]; exact hS.done h6
  · rw [upd_same, upd_other _ _ (by decide)]
end
set_option maxRecDepth 100000 in
theorem allT9 (q base n : Nat) (v : Value) (xs : List Value) (p0 : Int) (p1 : Bool) (p2 : Int) (p3 : ByteArray) (pa : Option Addr) (pn pc : Nat) (pb : Option Addr) (pm pd : Nat) (A : List UInt8) (w0 : World) (Q : Exit → Act → World → Prop) (hW : WT9 q base n v xs p0 p1 p2 p3 pa pn pc pb pm pd A w0) : ∀ i, i < 8 → (fun i => ∀ l c w, BT9 q base n v xs p0 p1 p2 p3 pa pn pc pb pm pd A w0 c → l i = false → (∀ k, l k = true → ∀ j ∈ ancT9 k, l j = true) → (∀ j ∈ ancT9 i, l j = true ∧ gT9 v p0 p1 p2 p3 pa pn pc pb pm pd j (val RT9 c j)) → ST9 q base n v xs p0 p1 p2 p3 pa pn pc pb pm pd A w0 l (val RT9 c) w → Steps' Tryz.prog RT9 Q (gT9 v p0 p1 p2 p3 pa pn pc pb pm pd) (ST9 q base n v xs p0 p1 p2 p3 pa pn pc pb pm pd A w0) i l c w) i := by
  refine below_succ ?_ (fun l c w hb => oT9_7 q base n v xs p0 p1 p2 p3 pa pn pc pb pm pd A w0 Q l c w hb hW)
  refine below_succ ?_ (fun l c w hb => oT9_6 q base n v xs p0 p1 p2 p3 pa pn pc pb pm pd A w0 Q l c w hb hW)
  refine below_succ ?_ (fun l c w hb => oT9_5 q base n v xs p0 p1 p2 p3 pa pn pc pb pm pd A w0 Q l c w hb hW)
  refine below_succ ?_ (fun l c w hb => oT9_4 q base n v xs p0 p1 p2 p3 pa pn pc pb pm pd A w0 Q l c w hb hW)
  refine below_succ ?_ (fun l c w hb => oT9_3 q base n v xs p0 p1 p2 p3 pa pn pc pb pm pd A w0 Q l c w hb hW)
  refine below_succ ?_ (fun l c w hb => oT9_2 q base n v xs p0 p1 p2 p3 pa pn pc pb pm pd A w0 Q l c w hb hW)
  refine below_succ ?_ (fun l c w hb => oT9_1 q base n v xs p0 p1 p2 p3 pa pn pc pb pm pd A w0 Q l c w hb hW)
  refine below_succ ?_ (fun l c w hb => oT9_0 q base n v xs p0 p1 p2 p3 pa pn pc pb pm pd A w0 Q l c w hb hW)
  exact below_zero
theorem regionT9 (q base n : Nat) (v : Value) (xs : List Value) (p0 : Int) (p1 : Bool) (p2 : Int) (p3 : ByteArray) (pa : Option Addr) (pn pc : Nat) (pb : Option Addr) (pm pd : Nat) (A : List UInt8) (w0 : World) (Q : Exit → Act → World → Prop) (frame : Act) (hb : BT9 q base n v xs p0 p1 p2 p3 pa pn pc pb pm pd A w0 frame) (hW : WT9 q base n v xs p0 p1 p2 p3 pa pn pc pb pm pd A w0)
    (hQ : ∀ c v' W, Same RT9 frame c → c.eval (.tmp 4) = v' → Told base n xs v w0 ([91] ++ A ++ [93]) v' W → Q .normal c W) :
    (Code.region 9 RT9 true).wp Tryz.prog Q frame w0 := by
  refine writes_rule (A := ancT9) (G := gT9 v p0 p1 p2 p3 pa pn pc pb pm pd) (S := ST9 q base n v xs p0 p1 p2 p3 pa pn pc pb pm pd A w0) (by kernel_rfl) (by rw [hb.size]; kernel_rfl) ?_ ?_ ?_
  · exact ⟨fun _ => (told_nil hW.own).upto (Below.refl _ _).drew, (fun h => by cases h), (fun h => by cases h), (fun h => by cases h), (fun h => by cases h)⟩
  · intro i hi l c w hS hli hcl hA hst
    exact allT9 q base n v xs p0 p1 p2 p3 pa pn pc pb pm pd A w0 Q hW i (by rwa [show RT9.size = 8 by kernel_rfl] at hi) l c w ⟨(same_eval hS (by kernel_rfl)).trans hb.t0, (same_eval hS (by kernel_rfl)).trans hb.t3, hS.2.1.trans hb.size⟩ hli hcl hA hst
  · intro l c w hS hall hst
    have hsz : RT9.size = 8 := by kernel_rfl
    have h7 := hst.last (hall 7 (by rw [hsz]; omega)).1
    have h6 := hst.done (hall 6 (by rw [hsz]; omega)).1
    have e7 : c.eval (.tmp 4) = val RT9 c 7 := (val_eq (show slotOf RT9 7 = some 4 by kernel_rfl)).symm
    exact hQ c _ w hS (e7.trans h7) h6
end Go.Proofs.YthfilnflgahcjaaGreatDoor
