/- The statements that tell nodes and relationships, operation by operation, in whatever order. -/
import Derived.Test.YthfilnflgahcjaaGreatDoorEsc10
import Derived.Test.YthfilnflgahcjaaGreatDoorTellR9
namespace Go.Proofs.YthfilnflgahcjaaGreatDoor
open Go.RowKit Go.Shelf Go.Lib
set_option linter.unusedVariables false
set_option linter.unusedSimpArgs false
noncomputable def RN13 : Array Oper := regionAt Tryz.f152 13
def ancN13 (i : Nat) : List Nat := ([[], [0], [], [2], [0, 1, 2, 3], [], [0, 1, 2, 3, 4, 5], [0, 1, 2, 3, 4, 5, 6]] : List (List Nat)).getD i []
def chainN13 (q base n : Nat) (v : Value) (xs : List Value) (p0 : Int) (p1 : Bool) (p2 : Int) (p3 : ByteArray) (pa : Option Addr) (pn pc : Nat) (pb : Option Addr) (pm pd : Nat) (w0 : World) : Chain := ⟨[1, 4, 6, 7], [[60, 110], itoa p2, [62], []], [(5, [62])]⟩
def gN13 (q base n : Nat) (v : Value) (xs : List Value) (p0 : Int) (p1 : Bool) (p2 : Int) (p3 : ByteArray) (pa : Option Addr) (pn pc : Nat) (pb : Option Addr) (pm pd : Nat) (w0 : World) (i : Nat) (u : Value) : Prop := ([fun u => u = (v), fun _ => True, fun u => u = (.pointer (some ⟨q, 2, none⟩)), fun u => u = (.int .i64 p2), fun _ => True, fun _ => True, fun _ => True, fun _ => True] : List (Value → Prop)).getD i (fun _ => True) u
structure BN13 (q base n : Nat) (v : Value) (xs : List Value) (p0 : Int) (p1 : Bool) (p2 : Int) (p3 : ByteArray) (pa : Option Addr) (pn pc : Nat) (pb : Option Addr) (pm pd : Nat) (w0 : World) (c : Act) : Prop where
  t0 : c.eval (.tmp 0) = v
  t3 : c.eval (.tmp 3) = .pointer (some ⟨q, 0, none⟩)
  size : c.tmps.size = 63
structure WN13 (q base n : Nat) (v : Value) (xs : List Value) (p0 : Int) (p1 : Bool) (p2 : Int) (p3 : ByteArray) (pa : Option Addr) (pn pc : Nat) (pb : Option Addr) (pm pd : Nat) (w0 : World) : Prop where
  own : w0.ownsRow base 5 1 v n xs
  low : base ≤ w0.heap.size
  few : n ≤ 100000000000
  short : (itoa p2).length ≤ 21
  box : w0.heap[q]? = some (.cells #[.int .i64 p0, .bool p1, .int .i64 p2, .string p3, .slice pa pn pc, .slice pb pm pd] 88 (0, 0))
  call : ∀ u xs' m w, w.ownsRow base 5 1 u m xs' → base ≤ w.heap.size → Below base w0 w → m ≤ n + 2 → Calls Tryz.prog 202 #[u, .int .i64 p2, .int .i64 10] w fun e w' => ∃ v', e = .returned v' ∧ Told base m xs' u w (itoa p2) v' w'
theorem apartN13 (q base n : Nat) (v : Value) (xs : List Value) (p0 : Int) (p1 : Bool) (p2 : Int) (p3 : ByteArray) (pa : Option Addr) (pn pc : Nat) (pb : Option Addr) (pm pd : Nat) (w0 : World) : (chainN13 q base n v xs p0 p1 p2 p3 pa pn pc pb pm pd w0).apart = true := by
  unfold Chain.apart
  rw [Bool.and_eq_true]
  exact ⟨decide_eq_true ⟨by show ([1, 4, 6, 7] : List Nat).Nodup; decide, by show ([5] : List Nat).Nodup; decide, by
    intro s hs
    simp only [chainN13, List.mem_cons, List.not_mem_nil, or_false] at hs
    subst hs
    show (5 : Nat) ∉ ([1, 4, 6, 7] : List Nat); decide⟩, decide_eq_true rfl⟩
def stepN13 (q base n : Nat) (v : Value) (xs : List Value) (p0 : Int) (p1 : Bool) (p2 : Int) (p3 : ByteArray) (pa : Option Addr) (pn pc : Nat) (pb : Option Addr) (pm pd : Nat) (w0 : World) (Q : Exit → Act → World → Prop) (i : Nat) : Prop := ∀ (l : Nat → Bool) (c : Act) (w : World), BN13 q base n v xs p0 p1 p2 p3 pa pn pc pb pm pd w0 c → WN13 q base n v xs p0 p1 p2 p3 pa pn pc pb pm pd w0 → l i = false → (∀ k, l k = true → ∀ j ∈ ancN13 k, l j = true) → (∀ j ∈ ancN13 i, l j = true ∧ gN13 q base n v xs p0 p1 p2 p3 pa pn pc pb pm pd w0 j (val RN13 c j)) → (chainN13 q base n v xs p0 p1 p2 p3 pa pn pc pb pm pd w0).Far base n v xs w0 l (val RN13 c) w → Steps' Tryz.prog RN13 Q (gN13 q base n v xs p0 p1 p2 p3 pa pn pc pb pm pd w0) ((chainN13 q base n v xs p0 p1 p2 p3 pa pn pc pb pm pd w0).Far base n v xs w0) i l c w
section
variable (q base n : Nat) (v : Value) (xs : List Value) (p0 : Int) (p1 : Bool) (p2 : Int) (p3 : ByteArray) (pa : Option Addr) (pn pc : Nat) (pb : Option Addr) (pm pd : Nat) (w0 : World) (Q : Exit → Act → World → Prop)
set_option maxRecDepth 10000 in
theorem oN13_0 : stepN13 q base n v xs p0 p1 p2 p3 pa pn pc pb pm pd w0 Q 0 := by
  intro l c w hb hW hli hcl hA hS
  have ho : RN13[0]? = some ({ dst := some 45, op := Op.move (Operand.tmp 0), type := 116, pos := "text.go:52", after := #[], guard := none } : Oper) := by kernel_rfl
  have hw : Region.wanted _ (yielded RN13 c.tmps) = true := want_none (o := ({ dst := some 45, op := Op.move (Operand.tmp 0), type := 116, pos := "text.go:52", after := #[], guard := none } : Oper)) rfl
  have e0 := hb.t0
  have ec : ∀ v, c.eval (.const v) = v := fun _ => rfl
  have ef : ∀ f, c.eval (.func f) = .func (.func f) #[] #[] := fun _ => rfl
  refine steps_value (d := 45) ho rfl (by rw [hb.size]; decide) hw (v := v) ?_ rfl (hS.beside (by show (0 : Nat) ∉ ([1, 4, 6, 7] : List Nat); decide) (by intro s hs; simp only [chainN13, List.mem_cons, List.not_mem_nil, or_false] at hs; subst hs; show (5 : Nat) ≠ 0; decide) _)
  generalize c.eval = ρ at *
  clear hA hb hW hw ho hS hcl hli
  go_simp
set_option maxRecDepth 10000 in
theorem oN13_1 : stepN13 q base n v xs p0 p1 p2 p3 pa pn pc pb pm pd w0 Q 1 := by
  intro l c w hb hW hli hcl hA hS
  have ho : RN13[1]? = some ({ dst := some 46, op := Op.call { callee := Callee.builtin Builtin.append, args := #[Operand.tmp 45, Operand.const (Value.string { data := #[60, 110] })], argTypes := #[116, 9] }, type := 116, pos := "text.go:52", after := #[{ on := 0, ground := Ground.data }], guard := none } : Oper) := by kernel_rfl
  have hw : Region.wanted _ (yielded RN13 c.tmps) = true := want_none (o := ({ dst := some 46, op := Op.call { callee := Callee.builtin Builtin.append, args := #[Operand.tmp 45, Operand.const (Value.string { data := #[60, 110] })], argTypes := #[116, 9] }, type := 116, pos := "text.go:52", after := #[{ on := 0, ground := Ground.data }], guard := none } : Oper)) rfl
  have e45 : c.eval (.tmp 45) = v := by have h := (hA 0 (by decide)).2; rw [val_eq (show slotOf RN13 0 = some 45 by kernel_rfl)] at h; exact h
  have ec : ∀ v, c.eval (.const v) = v := fun _ => rfl
  have ef : ∀ f, c.eval (.func f) = .func (.func f) #[] #[] := fun _ => rfl
  obtain ⟨ht, hsd⟩ := hS.at (j := 0) (by show (0 : Nat) < 4; decide) hli (.inl rfl)
  have hB : base ≤ w.heap.size := Nat.le_trans hW.low ht.grown.size
  have hown := ht.own
  refine steps_law (d := 46) ho rfl (by rw [hb.size]; decide) fun K hK => ?_
  rw [if_pos hw]
  refine chain_text (.tmp 45) (Operand.const (Value.string { data := #[60, 110] })) rfl e45 rfl hown (by decide) (by have := hW.few; show n + _ + 2 ≤ _; simp [Chain.sofar]; omega) hB fun v' w' ht2 => hK v' w' trivial (hS.on (apartN13 q base n v xs p0 p1 p2 p3 pa pn pc pb pm pd w0) (j := 0) (by show (0 : Nat) < 4; decide) hli (.inl rfl) ht2)
set_option maxRecDepth 10000 in
theorem oN13_2 : stepN13 q base n v xs p0 p1 p2 p3 pa pn pc pb pm pd w0 Q 2 := by
  intro l c w hb hW hli hcl hA hS
  have ho : RN13[2]? = some ({ dst := some 47, op := Op.fieldAddr 88 (Operand.tmp 3) 2, type := 0, pos := "text.go:52", after := #[], guard := none } : Oper) := by kernel_rfl
  have hw : Region.wanted _ (yielded RN13 c.tmps) = true := want_none (o := ({ dst := some 47, op := Op.fieldAddr 88 (Operand.tmp 3) 2, type := 0, pos := "text.go:52", after := #[], guard := none } : Oper)) rfl
  have e3 := hb.t3
  have ec : ∀ v, c.eval (.const v) = v := fun _ => rfl
  have ef : ∀ f, c.eval (.func f) = .func (.func f) #[] #[] := fun _ => rfl
  refine steps_value (d := 47) ho rfl (by rw [hb.size]; decide) hw (v := .pointer (some ⟨q, 2, none⟩)) ?_ rfl (hS.beside (by show (2 : Nat) ∉ ([1, 4, 6, 7] : List Nat); decide) (by intro s hs; simp only [chainN13, List.mem_cons, List.not_mem_nil, or_false] at hs; subst hs; show (5 : Nat) ≠ 2; decide) _)
  generalize c.eval = ρ at *
  clear hA hb hW hw ho hS hcl hli
  go_simp
set_option maxRecDepth 10000 in
theorem oN13_3 : stepN13 q base n v xs p0 p1 p2 p3 pa pn pc pb pm pd w0 Q 3 := by
  intro l c w hb hW hli hcl hA hS
  have ho : RN13[3]? = some ({ dst := some 48, op := Op.load 2 (Operand.tmp 47), type := 2, pos := "text.go:52", after := #[{ on := 2, ground := Ground.data }], guard := none } : Oper) := by kernel_rfl
  have hw : Region.wanted _ (yielded RN13 c.tmps) = true := want_none (o := ({ dst := some 48, op := Op.load 2 (Operand.tmp 47), type := 2, pos := "text.go:52", after := #[{ on := 2, ground := Ground.data }], guard := none } : Oper)) rfl
  have e47 : c.eval (.tmp 47) = .pointer (some ⟨q, 2, none⟩) := by have h := (hA 2 (by decide)).2; rw [val_eq (show slotOf RN13 2 = some 47 by kernel_rfl)] at h; exact h
  have ec : ∀ v, c.eval (.const v) = v := fun _ => rfl
  have ef : ∀ f, c.eval (.func f) = .func (.func f) #[] #[] := fun _ => rfl
  have y2 : w.cell? ⟨q, 2, none⟩ = some (.int .i64 p2) := by obtain ⟨kk, _, _, ht, _⟩ := hS; exact (boxes ht hW.own hW.box).2.2.1
  refine steps_value (d := 48) ho rfl (by rw [hb.size]; decide) hw (v := .int .i64 p2) ?_ rfl (hS.beside (by show (3 : Nat) ∉ ([1, 4, 6, 7] : List Nat); decide) (by intro s hs; simp only [chainN13, List.mem_cons, List.not_mem_nil, or_false] at hs; subst hs; show (5 : Nat) ≠ 3; decide) _)
  generalize c.eval = ρ at *
  clear hA hb hW hw ho hS hcl hli
  go_simp
set_option maxRecDepth 10000 in
theorem oN13_4 : stepN13 q base n v xs p0 p1 p2 p3 pa pn pc pb pm pd w0 Q 4 := by
  intro l c w hb hW hli hcl hA hS
  have ho : RN13[4]? = some ({ dst := some 49, op := Op.call { callee := Callee.value (Operand.func 202), args := #[Operand.tmp 46, Operand.tmp 48, Operand.const (Value.int IntKind.i64 10)], argTypes := #[116, 2, 3] }, type := 116, pos := "text.go:52", after := #[{ on := 1, ground := Ground.data }, { on := 3, ground := Ground.data }, { on := 1, ground := Ground.chain }], guard := none } : Oper) := by kernel_rfl
  have hw : Region.wanted _ (yielded RN13 c.tmps) = true := want_none (o := ({ dst := some 49, op := Op.call { callee := Callee.value (Operand.func 202), args := #[Operand.tmp 46, Operand.tmp 48, Operand.const (Value.int IntKind.i64 10)], argTypes := #[116, 2, 3] }, type := 116, pos := "text.go:52", after := #[{ on := 1, ground := Ground.data }, { on := 3, ground := Ground.data }, { on := 1, ground := Ground.chain }], guard := none } : Oper)) rfl
  have e46 : c.eval (.tmp 46) = val RN13 c 1 := (val_eq (show slotOf RN13 1 = some 46 by kernel_rfl)).symm
  have e48 : c.eval (.tmp 48) = .int .i64 p2 := by have h := (hA 3 (by decide)).2; rw [val_eq (show slotOf RN13 3 = some 48 by kernel_rfl)] at h; exact h
  have ec : ∀ v, c.eval (.const v) = v := fun _ => rfl
  have ef : ∀ f, c.eval (.func f) = .func (.func f) #[] #[] := fun _ => rfl
  obtain ⟨ht, hsd⟩ := hS.at (j := 1) (by show (1 : Nat) < 4; decide) hli (.inr (hA 1 (by decide)).1)
  have hB : base ≤ w.heap.size := Nat.le_trans hW.low ht.grown.size
  have hown := ht.own
  refine steps_call (d := 49) ho rfl (by rw [hb.size]; decide) hw (f := 202) (args := #[val RN13 c 1, .int .i64 p2, .int .i64 10]) ?_ ?_
  · generalize c.eval = ρ at *
    clear hA hb hW hw ho hS hcl hli ht hsd hB hown
    go_simp
  · refine (hW.call _ _ _ w hown hB (ht.below hW.own hW.low) (by show n + 2 ≤ _; omega)).mono ?_
    rintro e w' ⟨v', rfl, ht2⟩
    exact ⟨v', rfl, trivial, hS.on (apartN13 q base n v xs p0 p1 p2 p3 pa pn pc pb pm pd w0) (j := 1) (by show (1 : Nat) < 4; decide) hli (.inr (hA 1 (by decide)).1) ht2⟩
set_option maxRecDepth 10000 in
theorem oN13_5 : stepN13 q base n v xs p0 p1 p2 p3 pa pn pc pb pm pd w0 Q 5 := by
  intro l c w hb hW hli hcl hA hS
  have ho : RN13[5]? = some ({ dst := some 50, op := Op.buildSlice 116 1 #[(0, Operand.const (Value.int IntKind.u8 62))], type := 116, pos := "text.go:52", after := #[], guard := none } : Oper) := by kernel_rfl
  have hw : Region.wanted _ (yielded RN13 c.tmps) = true := want_none (o := ({ dst := some 50, op := Op.buildSlice 116 1 #[(0, Operand.const (Value.int IntKind.u8 62))], type := 116, pos := "text.go:52", after := #[], guard := none } : Oper)) rfl
  have ec : ∀ v, c.eval (.const v) = v := fun _ => rfl
  have ef : ∀ f, c.eval (.func f) = .func (.func f) #[] #[] := fun _ => rfl
  refine steps_value (d := 50) ho rfl (by rw [hb.size]; decide) hw (v := .slice (some ⟨w.heap.size, 0, none⟩) 1 1) (w' := w.alloc (.cells (byteCells [62]).toArray 5)) ?_ trivial (hS.built (apartN13 q base n v xs p0 p1 p2 p3 pa pn pc pb pm pd w0) (s := (5, [62])) (by simp only [chainN13, List.mem_cons, List.not_mem_nil, or_false]))
  generalize c.eval = ρ at *
  clear hA hb hW hw ho hS hcl hli
  go_simp
  rfl
set_option maxRecDepth 10000 in
theorem oN13_6 : stepN13 q base n v xs p0 p1 p2 p3 pa pn pc pb pm pd w0 Q 6 := by
  intro l c w hb hW hli hcl hA hS
  have ho : RN13[6]? = some ({ dst := some 51, op := Op.call { callee := Callee.builtin Builtin.append, args := #[Operand.tmp 49, Operand.tmp 50], argTypes := #[116, 116] }, type := 116, pos := "text.go:52", after := #[{ on := 4, ground := Ground.data }, { on := 5, ground := Ground.data }, { on := 4, ground := Ground.chain }], guard := none } : Oper) := by kernel_rfl
  have hw : Region.wanted _ (yielded RN13 c.tmps) = true := want_none (o := ({ dst := some 51, op := Op.call { callee := Callee.builtin Builtin.append, args := #[Operand.tmp 49, Operand.tmp 50], argTypes := #[116, 116] }, type := 116, pos := "text.go:52", after := #[{ on := 4, ground := Ground.data }, { on := 5, ground := Ground.data }, { on := 4, ground := Ground.chain }], guard := none } : Oper)) rfl
  have e49 : c.eval (.tmp 49) = val RN13 c 4 := (val_eq (show slotOf RN13 4 = some 49 by kernel_rfl)).symm
  have e50 : c.eval (.tmp 50) = val RN13 c 5 := (val_eq (show slotOf RN13 5 = some 50 by kernel_rfl)).symm
  have ec : ∀ v, c.eval (.const v) = v := fun _ => rfl
  have ef : ∀ f, c.eval (.func f) = .func (.func f) #[] #[] := fun _ => rfl
  obtain ⟨ht, hsd⟩ := hS.at (j := 2) (by show (2 : Nat) < 4; decide) hli (.inr (hA 4 (by decide)).1)
  have hB : base ≤ w.heap.size := Nat.le_trans hW.low ht.grown.size
  have hown := ht.own
  refine steps_law (d := 51) ho rfl (by rw [hb.size]; decide) fun K hK => ?_
  rw [if_pos hw]
  obtain ⟨t, ht1, hc⟩ := hsd (5, [62]) (by simp only [chainN13, List.mem_cons, List.not_mem_nil, or_false]) (hA 5 (by decide)).1
  refine chain_row (.tmp 49) (.tmp 50) rfl e49 (e50.trans ht1) hown hc (by have := hW.few; have h2 := hW.short; show n + _ + 1 ≤ _; simp [chainN13, Chain.sofar]; omega) hB fun v' w' ht2 => hK v' w' trivial (hS.on (apartN13 q base n v xs p0 p1 p2 p3 pa pn pc pb pm pd w0) (j := 2) (by show (2 : Nat) < 4; decide) hli (.inr (hA 4 (by decide)).1) ht2)
set_option maxRecDepth 10000 in
theorem oN13_7 : stepN13 q base n v xs p0 p1 p2 p3 pa pn pc pb pm pd w0 Q 7 := by
  intro l c w hb hW hli hcl hA hS
  have ho : RN13[7]? = some ({ dst := some 4, op := Op.assign (Operand.tmp 51), type := 116, pos := "text.go:52", after := #[{ on := 6, ground := Ground.data }, { on := 6, ground := Ground.chain }, { on := 0, ground := Ground.phase }, { on := 1, ground := Ground.phase }, { on := 2, ground := Ground.phase }, { on := 3, ground := Ground.phase }, { on := 4, ground := Ground.phase }, { on := 5, ground := Ground.phase }, { on := 6, ground := Ground.phase }], guard := none } : Oper) := by kernel_rfl
  have hw : Region.wanted _ (yielded RN13 c.tmps) = true := want_none (o := ({ dst := some 4, op := Op.assign (Operand.tmp 51), type := 116, pos := "text.go:52", after := #[{ on := 6, ground := Ground.data }, { on := 6, ground := Ground.chain }, { on := 0, ground := Ground.phase }, { on := 1, ground := Ground.phase }, { on := 2, ground := Ground.phase }, { on := 3, ground := Ground.phase }, { on := 4, ground := Ground.phase }, { on := 5, ground := Ground.phase }, { on := 6, ground := Ground.phase }], guard := none } : Oper)) rfl
  have e51 : c.eval (.tmp 51) = val RN13 c 6 := (val_eq (show slotOf RN13 6 = some 51 by kernel_rfl)).symm
  have ec : ∀ v, c.eval (.const v) = v := fun _ => rfl
  have ef : ∀ f, c.eval (.func f) = .func (.func f) #[] #[] := fun _ => rfl
  obtain ⟨ht, hsd⟩ := hS.at (j := 3) (by show (3 : Nat) < 4; decide) hli (.inr (hA 6 (by decide)).1)
  have hB : base ≤ w.heap.size := Nat.le_trans hW.low ht.grown.size
  have hown := ht.own
  have ht2 := told_nil hown
  refine steps_value (d := 4) ho rfl (by rw [hb.size]; decide) hw (v := val RN13 c 6) ?_ trivial (hS.on (apartN13 q base n v xs p0 p1 p2 p3 pa pn pc pb pm pd w0) (j := 3) (by show (3 : Nat) < 4; decide) hli (.inr (hA 6 (by decide)).1) ht2)
  generalize c.eval = ρ at *
  clear hA hb hW hw ho hS hcl hli ht hsd hB hown ht2
  go_simp
end
set_option maxRecDepth 100000 in
theorem allN13 (q base n : Nat) (v : Value) (xs : List Value) (p0 : Int) (p1 : Bool) (p2 : Int) (p3 : ByteArray) (pa : Option Addr) (pn pc : Nat) (pb : Option Addr) (pm pd : Nat) (w0 : World) (Q : Exit → Act → World → Prop) : ∀ i, i < 8 → stepN13 q base n v xs p0 p1 p2 p3 pa pn pc pb pm pd w0 Q i := by
  intro i hi
  match i, hi with
  | 0, _ => exact oN13_0 q base n v xs p0 p1 p2 p3 pa pn pc pb pm pd w0 Q
  | 1, _ => exact oN13_1 q base n v xs p0 p1 p2 p3 pa pn pc pb pm pd w0 Q
  | 2, _ => exact oN13_2 q base n v xs p0 p1 p2 p3 pa pn pc pb pm pd w0 Q
  | 3, _ => exact oN13_3 q base n v xs p0 p1 p2 p3 pa pn pc pb pm pd w0 Q
  | 4, _ => exact oN13_4 q base n v xs p0 p1 p2 p3 pa pn pc pb pm pd w0 Q
  | 5, _ => exact oN13_5 q base n v xs p0 p1 p2 p3 pa pn pc pb pm pd w0 Q
  | 6, _ => exact oN13_6 q base n v xs p0 p1 p2 p3 pa pn pc pb pm pd w0 Q
  | 7, _ => exact oN13_7 q base n v xs p0 p1 p2 p3 pa pn pc pb pm pd w0 Q
theorem regionN13 (q base n : Nat) (v : Value) (xs : List Value) (p0 : Int) (p1 : Bool) (p2 : Int) (p3 : ByteArray) (pa : Option Addr) (pn pc : Nat) (pb : Option Addr) (pm pd : Nat) (w0 : World) (Q : Exit → Act → World → Prop) (frame : Act) (hb : BN13 q base n v xs p0 p1 p2 p3 pa pn pc pb pm pd w0 frame) (hW : WN13 q base n v xs p0 p1 p2 p3 pa pn pc pb pm pd w0)
    (hQ : ∀ c w, Same RN13 frame c → Told base n xs v w0 ((chainN13 q base n v xs p0 p1 p2 p3 pa pn pc pb pm pd w0).sofar 4) (c.eval (.tmp 4)) w → Q .normal c w) : (Code.region 13 RN13 true).wp Tryz.prog Q frame w0 := by
  refine writes_rule (A := ancN13) (G := gN13 q base n v xs p0 p1 p2 p3 pa pn pc pb pm pd w0) (S := (chainN13 q base n v xs p0 p1 p2 p3 pa pn pc pb pm pd w0).Far base n v xs w0) (by kernel_rfl) (by rw [hb.size]; kernel_rfl) (Chain.Far.start hW.own) ?_ ?_
  · intro i hi l c w hS hli hcl hA hF
    exact allN13 q base n v xs p0 p1 p2 p3 pa pn pc pb pm pd w0 Q i (by rwa [show RN13.size = 8 by kernel_rfl] at hi) l c w ⟨(same_eval hS (by kernel_rfl)).trans hb.t0, (same_eval hS (by kernel_rfl)).trans hb.t3, (by rw [← hb.size]; exact hS.2.1)⟩ hW hli hcl hA hF
  · intro l c w hS hall hF
    refine hQ c w hS ?_
    have := hF.end (fun j hj => ?_)
    · have e : (chainN13 q base n v xs p0 p1 p2 p3 pa pn pc pb pm pd w0).row v (val RN13 c) (chainN13 q base n v xs p0 p1 p2 p3 pa pn pc pb pm pd w0).pos.length = c.eval (.tmp 4) := val_eq (show slotOf RN13 7 = some 4 by kernel_rfl)
      rw [e] at this
      exact this
    · have hm := Chain.get_mem hj
      refine (hall _ ?_).1
      rw [show RN13.size = 8 by kernel_rfl]
      have : ∀ x ∈ (chainN13 q base n v xs p0 p1 p2 p3 pa pn pc pb pm pd w0).pos, x < 8 := by show ∀ x ∈ ([1, 4, 6, 7] : List Nat), x < 8; decide
      exact this _ hm
noncomputable def RN15 : Array Oper := regionAt Tryz.f152 15
def ancN15 (i : Nat) : List Nat := ([[], [0], [], [2], [0, 1, 2, 3], [], [0, 1, 2, 3, 4, 5], [0, 1, 2, 3, 4, 5, 6]] : List (List Nat)).getD i []
def chainN15 (q base n : Nat) (v : Value) (xs : List Value) (p0 : Int) (p1 : Bool) (p2 : Int) (p3 : ByteArray) (pa : Option Addr) (pn pc : Nat) (pb : Option Addr) (pm pd : Nat) (w0 : World) : Chain := ⟨[1, 4, 6, 7], [[60, 114], itoa p2, [62], []], [(5, [62])]⟩
def gN15 (q base n : Nat) (v : Value) (xs : List Value) (p0 : Int) (p1 : Bool) (p2 : Int) (p3 : ByteArray) (pa : Option Addr) (pn pc : Nat) (pb : Option Addr) (pm pd : Nat) (w0 : World) (i : Nat) (u : Value) : Prop := ([fun u => u = (v), fun _ => True, fun u => u = (.pointer (some ⟨q, 2, none⟩)), fun u => u = (.int .i64 p2), fun _ => True, fun _ => True, fun _ => True, fun _ => True] : List (Value → Prop)).getD i (fun _ => True) u
structure BN15 (q base n : Nat) (v : Value) (xs : List Value) (p0 : Int) (p1 : Bool) (p2 : Int) (p3 : ByteArray) (pa : Option Addr) (pn pc : Nat) (pb : Option Addr) (pm pd : Nat) (w0 : World) (c : Act) : Prop where
  t0 : c.eval (.tmp 0) = v
  t3 : c.eval (.tmp 3) = .pointer (some ⟨q, 0, none⟩)
  size : c.tmps.size = 63
structure WN15 (q base n : Nat) (v : Value) (xs : List Value) (p0 : Int) (p1 : Bool) (p2 : Int) (p3 : ByteArray) (pa : Option Addr) (pn pc : Nat) (pb : Option Addr) (pm pd : Nat) (w0 : World) : Prop where
  own : w0.ownsRow base 5 1 v n xs
  low : base ≤ w0.heap.size
  few : n ≤ 100000000000
  short : (itoa p2).length ≤ 21
  box : w0.heap[q]? = some (.cells #[.int .i64 p0, .bool p1, .int .i64 p2, .string p3, .slice pa pn pc, .slice pb pm pd] 88 (0, 0))
  call : ∀ u xs' m w, w.ownsRow base 5 1 u m xs' → base ≤ w.heap.size → Below base w0 w → m ≤ n + 2 → Calls Tryz.prog 202 #[u, .int .i64 p2, .int .i64 10] w fun e w' => ∃ v', e = .returned v' ∧ Told base m xs' u w (itoa p2) v' w'
theorem apartN15 (q base n : Nat) (v : Value) (xs : List Value) (p0 : Int) (p1 : Bool) (p2 : Int) (p3 : ByteArray) (pa : Option Addr) (pn pc : Nat) (pb : Option Addr) (pm pd : Nat) (w0 : World) : (chainN15 q base n v xs p0 p1 p2 p3 pa pn pc pb pm pd w0).apart = true := by
  unfold Chain.apart
  rw [Bool.and_eq_true]
  exact ⟨decide_eq_true ⟨by show ([1, 4, 6, 7] : List Nat).Nodup; decide, by show ([5] : List Nat).Nodup; decide, by
    intro s hs
    simp only [chainN15, List.mem_cons, List.not_mem_nil, or_false] at hs
    subst hs
    show (5 : Nat) ∉ ([1, 4, 6, 7] : List Nat); decide⟩, decide_eq_true rfl⟩
def stepN15 (q base n : Nat) (v : Value) (xs : List Value) (p0 : Int) (p1 : Bool) (p2 : Int) (p3 : ByteArray) (pa : Option Addr) (pn pc : Nat) (pb : Option Addr) (pm pd : Nat) (w0 : World) (Q : Exit → Act → World → Prop) (i : Nat) : Prop := ∀ (l : Nat → Bool) (c : Act) (w : World), BN15 q base n v xs p0 p1 p2 p3 pa pn pc pb pm pd w0 c → WN15 q base n v xs p0 p1 p2 p3 pa pn pc pb pm pd w0 → l i = false → (∀ k, l k = true → ∀ j ∈ ancN15 k, l j = true) → (∀ j ∈ ancN15 i, l j = true ∧ gN15 q base n v xs p0 p1 p2 p3 pa pn pc pb pm pd w0 j (val RN15 c j)) → (chainN15 q base n v xs p0 p1 p2 p3 pa pn pc pb pm pd w0).Far base n v xs w0 l (val RN15 c) w → Steps' Tryz.prog RN15 Q (gN15 q base n v xs p0 p1 p2 p3 pa pn pc pb pm pd w0) ((chainN15 q base n v xs p0 p1 p2 p3 pa pn pc pb pm pd w0).Far base n v xs w0) i l c w
section
variable (q base n : Nat) (v : Value) (xs : List Value) (p0 : Int) (p1 : Bool) (p2 : Int) (p3 : ByteArray) (pa : Option Addr) (pn pc : Nat) (pb : Option Addr) (pm pd : Nat) (w0 : World) (Q : Exit → Act → World → Prop)
set_option maxRecDepth 10000 in
theorem oN15_0 : stepN15 q base n v xs p0 p1 p2 p3 pa pn pc pb pm pd w0 Q 0 := by
  intro l c w hb hW hli hcl hA hS
  have ho : RN15[0]? = some ({ dst := some 54, op := Op.move (Operand.tmp 0), type := 116, pos := "text.go:54", after := #[], guard := none } : Oper) := by kernel_rfl
  have hw : Region.wanted _ (yielded RN15 c.tmps) = true := want_none (o := ({ dst := some 54, op := Op.move (Operand.tmp 0), type := 116, pos := "text.go:54", after := #[], guard := none } : Oper)) rfl
  have e0 := hb.t0
  have ec : ∀ v, c.eval (.const v) = v := fun _ => rfl
  have ef : ∀ f, c.eval (.func f) = .func (.func f) #[] #[] := fun _ => rfl
  refine steps_value (d := 54) ho rfl (by rw [hb.size]; decide) hw (v := v) ?_ rfl (hS.beside (by show (0 : Nat) ∉ ([1, 4, 6, 7] : List Nat); decide) (by intro s hs; simp only [chainN15, List.mem_cons, List.not_mem_nil, or_false] at hs; subst hs; show (5 : Nat) ≠ 0; decide) _)
  generalize c.eval = ρ at *
  clear hA hb hW hw ho hS hcl hli
  go_simp
set_option maxRecDepth 10000 in
theorem oN15_1 : stepN15 q base n v xs p0 p1 p2 p3 pa pn pc pb pm pd w0 Q 1 := by
  intro l c w hb hW hli hcl hA hS
  have ho : RN15[1]? = some ({ dst := some 55, op := Op.call { callee := Callee.builtin Builtin.append, args := #[Operand.tmp 54, Operand.const (Value.string { data := #[60, 114] })], argTypes := #[116, 9] }, type := 116, pos := "text.go:54", after := #[{ on := 0, ground := Ground.data }], guard := none } : Oper) := by kernel_rfl
  have hw : Region.wanted _ (yielded RN15 c.tmps) = true := want_none (o := ({ dst := some 55, op := Op.call { callee := Callee.builtin Builtin.append, args := #[Operand.tmp 54, Operand.const (Value.string { data := #[60, 114] })], argTypes := #[116, 9] }, type := 116, pos := "text.go:54", after := #[{ on := 0, ground := Ground.data }], guard := none } : Oper)) rfl
  have e54 : c.eval (.tmp 54) = v := by have h := (hA 0 (by decide)).2; rw [val_eq (show slotOf RN15 0 = some 54 by kernel_rfl)] at h; exact h
  have ec : ∀ v, c.eval (.const v) = v := fun _ => rfl
  have ef : ∀ f, c.eval (.func f) = .func (.func f) #[] #[] := fun _ => rfl
  obtain ⟨ht, hsd⟩ := hS.at (j := 0) (by show (0 : Nat) < 4; decide) hli (.inl rfl)
  have hB : base ≤ w.heap.size := Nat.le_trans hW.low ht.grown.size
  have hown := ht.own
  refine steps_law (d := 55) ho rfl (by rw [hb.size]; decide) fun K hK => ?_
  rw [if_pos hw]
  refine chain_text (.tmp 54) (Operand.const (Value.string { data := #[60, 114] })) rfl e54 rfl hown (by decide) (by have := hW.few; show n + _ + 2 ≤ _; simp [Chain.sofar]; omega) hB fun v' w' ht2 => hK v' w' trivial (hS.on (apartN15 q base n v xs p0 p1 p2 p3 pa pn pc pb pm pd w0) (j := 0) (by show (0 : Nat) < 4; decide) hli (.inl rfl) ht2)
set_option maxRecDepth 10000 in
theorem oN15_2 : stepN15 q base n v xs p0 p1 p2 p3 pa pn pc pb pm pd w0 Q 2 := by
  intro l c w hb hW hli hcl hA hS
  have ho : RN15[2]? = some ({ dst := some 56, op := Op.fieldAddr 88 (Operand.tmp 3) 2, type := 0, pos := "text.go:54", after := #[], guard := none } : Oper) := by kernel_rfl
  have hw : Region.wanted _ (yielded RN15 c.tmps) = true := want_none (o := ({ dst := some 56, op := Op.fieldAddr 88 (Operand.tmp 3) 2, type := 0, pos := "text.go:54", after := #[], guard := none } : Oper)) rfl
  have e3 := hb.t3
  have ec : ∀ v, c.eval (.const v) = v := fun _ => rfl
  have ef : ∀ f, c.eval (.func f) = .func (.func f) #[] #[] := fun _ => rfl
  refine steps_value (d := 56) ho rfl (by rw [hb.size]; decide) hw (v := .pointer (some ⟨q, 2, none⟩)) ?_ rfl (hS.beside (by show (2 : Nat) ∉ ([1, 4, 6, 7] : List Nat); decide) (by intro s hs; simp only [chainN15, List.mem_cons, List.not_mem_nil, or_false] at hs; subst hs; show (5 : Nat) ≠ 2; decide) _)
  generalize c.eval = ρ at *
  clear hA hb hW hw ho hS hcl hli
  go_simp
set_option maxRecDepth 10000 in
theorem oN15_3 : stepN15 q base n v xs p0 p1 p2 p3 pa pn pc pb pm pd w0 Q 3 := by
  intro l c w hb hW hli hcl hA hS
  have ho : RN15[3]? = some ({ dst := some 57, op := Op.load 2 (Operand.tmp 56), type := 2, pos := "text.go:54", after := #[{ on := 2, ground := Ground.data }], guard := none } : Oper) := by kernel_rfl
  have hw : Region.wanted _ (yielded RN15 c.tmps) = true := want_none (o := ({ dst := some 57, op := Op.load 2 (Operand.tmp 56), type := 2, pos := "text.go:54", after := #[{ on := 2, ground := Ground.data }], guard := none } : Oper)) rfl
  have e56 : c.eval (.tmp 56) = .pointer (some ⟨q, 2, none⟩) := by have h := (hA 2 (by decide)).2; rw [val_eq (show slotOf RN15 2 = some 56 by kernel_rfl)] at h; exact h
  have ec : ∀ v, c.eval (.const v) = v := fun _ => rfl
  have ef : ∀ f, c.eval (.func f) = .func (.func f) #[] #[] := fun _ => rfl
  have y2 : w.cell? ⟨q, 2, none⟩ = some (.int .i64 p2) := by obtain ⟨kk, _, _, ht, _⟩ := hS; exact (boxes ht hW.own hW.box).2.2.1
  refine steps_value (d := 57) ho rfl (by rw [hb.size]; decide) hw (v := .int .i64 p2) ?_ rfl (hS.beside (by show (3 : Nat) ∉ ([1, 4, 6, 7] : List Nat); decide) (by intro s hs; simp only [chainN15, List.mem_cons, List.not_mem_nil, or_false] at hs; subst hs; show (5 : Nat) ≠ 3; decide) _)
  generalize c.eval = ρ at *
  clear hA hb hW hw ho hS hcl hli
  go_simp
set_option maxRecDepth 10000 in
theorem oN15_4 : stepN15 q base n v xs p0 p1 p2 p3 pa pn pc pb pm pd w0 Q 4 := by
  intro l c w hb hW hli hcl hA hS
  have ho : RN15[4]? = some ({ dst := some 58, op := Op.call { callee := Callee.value (Operand.func 202), args := #[Operand.tmp 55, Operand.tmp 57, Operand.const (Value.int IntKind.i64 10)], argTypes := #[116, 2, 3] }, type := 116, pos := "text.go:54", after := #[{ on := 1, ground := Ground.data }, { on := 3, ground := Ground.data }, { on := 1, ground := Ground.chain }], guard := none } : Oper) := by kernel_rfl
  have hw : Region.wanted _ (yielded RN15 c.tmps) = true := want_none (o := ({ dst := some 58, op := Op.call { callee := Callee.value (Operand.func 202), args := #[Operand.tmp 55, Operand.tmp 57, Operand.const (Value.int IntKind.i64 10)], argTypes := #[116, 2, 3] }, type := 116, pos := "text.go:54", after := #[{ on := 1, ground := Ground.data }, { on := 3, ground := Ground.data }, { on := 1, ground := Ground.chain }], guard := none } : Oper)) rfl
  have e55 : c.eval (.tmp 55) = val RN15 c 1 := (val_eq (show slotOf RN15 1 = some 55 by kernel_rfl)).symm
  have e57 : c.eval (.tmp 57) = .int .i64 p2 := by have h := (hA 3 (by decide)).2; rw [val_eq (show slotOf RN15 3 = some 57 by kernel_rfl)] at h; exact h
  have ec : ∀ v, c.eval (.const v) = v := fun _ => rfl
  have ef : ∀ f, c.eval (.func f) = .func (.func f) #[] #[] := fun _ => rfl
  obtain ⟨ht, hsd⟩ := hS.at (j := 1) (by show (1 : Nat) < 4; decide) hli (.inr (hA 1 (by decide)).1)
  have hB : base ≤ w.heap.size := Nat.le_trans hW.low ht.grown.size
  have hown := ht.own
  refine steps_call (d := 58) ho rfl (by rw [hb.size]; decide) hw (f := 202) (args := #[val RN15 c 1, .int .i64 p2, .int .i64 10]) ?_ ?_
  · generalize c.eval = ρ at *
    clear hA hb hW hw ho hS hcl hli ht hsd hB hown
    go_simp
  · refine (hW.call _ _ _ w hown hB (ht.below hW.own hW.low) (by show n + 2 ≤ _; omega)).mono ?_
    rintro e w' ⟨v', rfl, ht2⟩
    exact ⟨v', rfl, trivial, hS.on (apartN15 q base n v xs p0 p1 p2 p3 pa pn pc pb pm pd w0) (j := 1) (by show (1 : Nat) < 4; decide) hli (.inr (hA 1 (by decide)).1) ht2⟩
set_option maxRecDepth 10000 in
theorem oN15_5 : stepN15 q base n v xs p0 p1 p2 p3 pa pn pc pb pm pd w0 Q 5 := by
  intro l c w hb hW hli hcl hA hS
  have ho : RN15[5]? = some ({ dst := some 59, op := Op.buildSlice 116 1 #[(0, Operand.const (Value.int IntKind.u8 62))], type := 116, pos := "text.go:54", after := #[], guard := none } : Oper) := by kernel_rfl
  have hw : Region.wanted _ (yielded RN15 c.tmps) = true := want_none (o := ({ dst := some 59, op := Op.buildSlice 116 1 #[(0, Operand.const (Value.int IntKind.u8 62))], type := 116, pos := "text.go:54", after := #[], guard := none } : Oper)) rfl
  have ec : ∀ v, c.eval (.const v) = v := fun _ => rfl
  have ef : ∀ f, c.eval (.func f) = .func (.func f) #[] #[] := fun _ => rfl
  refine steps_value (d := 59) ho rfl (by rw [hb.size]; decide) hw (v := .slice (some ⟨w.heap.size, 0, none⟩) 1 1) (w' := w.alloc (.cells (byteCells [62]).toArray 5)) ?_ trivial (hS.built (apartN15 q base n v xs p0 p1 p2 p3 pa pn pc pb pm pd w0) (s := (5, [62])) (by simp only [chainN15, List.mem_cons, List.not_mem_nil, or_false]))
  generalize c.eval = ρ at *
  clear hA hb hW hw ho hS hcl hli
  go_simp
  rfl
set_option maxRecDepth 10000 in
theorem oN15_6 : stepN15 q base n v xs p0 p1 p2 p3 pa pn pc pb pm pd w0 Q 6 := by
  intro l c w hb hW hli hcl hA hS
  have ho : RN15[6]? = some ({ dst := some 60, op := Op.call { callee := Callee.builtin Builtin.append, args := #[Operand.tmp 58, Operand.tmp 59], argTypes := #[116, 116] }, type := 116, pos := "text.go:54", after := #[{ on := 4, ground := Ground.data }, { on := 5, ground := Ground.data }, { on := 4, ground := Ground.chain }], guard := none } : Oper) := by kernel_rfl
  have hw : Region.wanted _ (yielded RN15 c.tmps) = true := want_none (o := ({ dst := some 60, op := Op.call { callee := Callee.builtin Builtin.append, args := #[Operand.tmp 58, Operand.tmp 59], argTypes := #[116, 116] }, type := 116, pos := "text.go:54", after := #[{ on := 4, ground := Ground.data }, { on := 5, ground := Ground.data }, { on := 4, ground := Ground.chain }], guard := none } : Oper)) rfl
  have e58 : c.eval (.tmp 58) = val RN15 c 4 := (val_eq (show slotOf RN15 4 = some 58 by kernel_rfl)).symm
  have e59 : c.eval (.tmp 59) = val RN15 c 5 := (val_eq (show slotOf RN15 5 = some 59 by kernel_rfl)).symm
  have ec : ∀ v, c.eval (.const v) = v := fun _ => rfl
  have ef : ∀ f, c.eval (.func f) = .func (.func f) #[] #[] := fun _ => rfl
  obtain ⟨ht, hsd⟩ := hS.at (j := 2) (by show (2 : Nat) < 4; decide) hli (.inr (hA 4 (by decide)).1)
  have hB : base ≤ w.heap.size := Nat.le_trans hW.low ht.grown.size
  have hown := ht.own
  refine steps_law (d := 60) ho rfl (by rw [hb.size]; decide) fun K hK => ?_
  rw [if_pos hw]
  obtain ⟨t, ht1, hc⟩ := hsd (5, [62]) (by simp only [chainN15, List.mem_cons, List.not_mem_nil, or_false]) (hA 5 (by decide)).1
  refine chain_row (.tmp 58) (.tmp 59) rfl e58 (e59.trans ht1) hown hc (by have := hW.few; have h2 := hW.short; show n + _ + 1 ≤ _; simp [chainN15, Chain.sofar]; omega) hB fun v' w' ht2 => hK v' w' trivial (hS.on (apartN15 q base n v xs p0 p1 p2 p3 pa pn pc pb pm pd w0) (j := 2) (by show (2 : Nat) < 4; decide) hli (.inr (hA 4 (by decide)).1) ht2)
set_option maxRecDepth 10000 in
theorem oN15_7 : stepN15 q base n v xs p0 p1 p2 p3 pa pn pc pb pm pd w0 Q 7 := by
  intro l c w hb hW hli hcl hA hS
  have ho : RN15[7]? = some ({ dst := some 4, op := Op.assign (Operand.tmp 60), type := 116, pos := "text.go:54", after := #[{ on := 6, ground := Ground.data }, { on := 6, ground := Ground.chain }, { on := 0, ground := Ground.phase }, { on := 1, ground := Ground.phase }, { on := 2, ground := Ground.phase }, { on := 3, ground := Ground.phase }, { on := 4, ground := Ground.phase }, { on := 5, ground := Ground.phase }, { on := 6, ground := Ground.phase }], guard := none } : Oper) := by kernel_rfl
  have hw : Region.wanted _ (yielded RN15 c.tmps) = true := want_none (o := ({ dst := some 4, op := Op.assign (Operand.tmp 60), type := 116, pos := "text.go:54", after := #[{ on := 6, ground := Ground.data }, { on := 6, ground := Ground.chain }, { on := 0, ground := Ground.phase }, { on := 1, ground := Ground.phase }, { on := 2, ground := Ground.phase }, { on := 3, ground := Ground.phase }, { on := 4, ground := Ground.phase }, { on := 5, ground := Ground.phase }, { on := 6, ground := Ground.phase }], guard := none } : Oper)) rfl
  have e60 : c.eval (.tmp 60) = val RN15 c 6 := (val_eq (show slotOf RN15 6 = some 60 by kernel_rfl)).symm
  have ec : ∀ v, c.eval (.const v) = v := fun _ => rfl
  have ef : ∀ f, c.eval (.func f) = .func (.func f) #[] #[] := fun _ => rfl
  obtain ⟨ht, hsd⟩ := hS.at (j := 3) (by show (3 : Nat) < 4; decide) hli (.inr (hA 6 (by decide)).1)
  have hB : base ≤ w.heap.size := Nat.le_trans hW.low ht.grown.size
  have hown := ht.own
  have ht2 := told_nil hown
  refine steps_value (d := 4) ho rfl (by rw [hb.size]; decide) hw (v := val RN15 c 6) ?_ trivial (hS.on (apartN15 q base n v xs p0 p1 p2 p3 pa pn pc pb pm pd w0) (j := 3) (by show (3 : Nat) < 4; decide) hli (.inr (hA 6 (by decide)).1) ht2)
  generalize c.eval = ρ at *
  clear hA hb hW hw ho hS hcl hli ht hsd hB hown ht2
  go_simp
end
set_option maxRecDepth 100000 in
theorem allN15 (q base n : Nat) (v : Value) (xs : List Value) (p0 : Int) (p1 : Bool) (p2 : Int) (p3 : ByteArray) (pa : Option Addr) (pn pc : Nat) (pb : Option Addr) (pm pd : Nat) (w0 : World) (Q : Exit → Act → World → Prop) : ∀ i, i < 8 → stepN15 q base n v xs p0 p1 p2 p3 pa pn pc pb pm pd w0 Q i := by
  intro i hi
  match i, hi with
  | 0, _ => exact oN15_0 q base n v xs p0 p1 p2 p3 pa pn pc pb pm pd w0 Q
  | 1, _ => exact oN15_1 q base n v xs p0 p1 p2 p3 pa pn pc pb pm pd w0 Q
  | 2, _ => exact oN15_2 q base n v xs p0 p1 p2 p3 pa pn pc pb pm pd w0 Q
  | 3, _ => exact oN15_3 q base n v xs p0 p1 p2 p3 pa pn pc pb pm pd w0 Q
  | 4, _ => exact oN15_4 q base n v xs p0 p1 p2 p3 pa pn pc pb pm pd w0 Q
  | 5, _ => exact oN15_5 q base n v xs p0 p1 p2 p3 pa pn pc pb pm pd w0 Q
  | 6, _ => exact oN15_6 q base n v xs p0 p1 p2 p3 pa pn pc pb pm pd w0 Q
  | 7, _ => exact oN15_7 q base n v xs p0 p1 p2 p3 pa pn pc pb pm pd w0 Q
theorem regionN15 (q base n : Nat) (v : Value) (xs : List Value) (p0 : Int) (p1 : Bool) (p2 : Int) (p3 : ByteArray) (pa : Option Addr) (pn pc : Nat) (pb : Option Addr) (pm pd : Nat) (w0 : World) (Q : Exit → Act → World → Prop) (frame : Act) (hb : BN15 q base n v xs p0 p1 p2 p3 pa pn pc pb pm pd w0 frame) (hW : WN15 q base n v xs p0 p1 p2 p3 pa pn pc pb pm pd w0)
    (hQ : ∀ c w, Same RN15 frame c → Told base n xs v w0 ((chainN15 q base n v xs p0 p1 p2 p3 pa pn pc pb pm pd w0).sofar 4) (c.eval (.tmp 4)) w → Q .normal c w) : (Code.region 15 RN15 true).wp Tryz.prog Q frame w0 := by
  refine writes_rule (A := ancN15) (G := gN15 q base n v xs p0 p1 p2 p3 pa pn pc pb pm pd w0) (S := (chainN15 q base n v xs p0 p1 p2 p3 pa pn pc pb pm pd w0).Far base n v xs w0) (by kernel_rfl) (by rw [hb.size]; kernel_rfl) (Chain.Far.start hW.own) ?_ ?_
  · intro i hi l c w hS hli hcl hA hF
    exact allN15 q base n v xs p0 p1 p2 p3 pa pn pc pb pm pd w0 Q i (by rwa [show RN15.size = 8 by kernel_rfl] at hi) l c w ⟨(same_eval hS (by kernel_rfl)).trans hb.t0, (same_eval hS (by kernel_rfl)).trans hb.t3, (by rw [← hb.size]; exact hS.2.1)⟩ hW hli hcl hA hF
  · intro l c w hS hall hF
    refine hQ c w hS ?_
    have := hF.end (fun j hj => ?_)
    · have e : (chainN15 q base n v xs p0 p1 p2 p3 pa pn pc pb pm pd w0).row v (val RN15 c) (chainN15 q base n v xs p0 p1 p2 p3 pa pn pc pb pm pd w0).pos.length = c.eval (.tmp 4) := val_eq (show slotOf RN15 7 = some 4 by kernel_rfl)
      rw [e] at this
      exact this
    · have hm := Chain.get_mem hj
      refine (hall _ ?_).1
      rw [show RN15.size = 8 by kernel_rfl]
      have : ∀ x ∈ (chainN15 q base n v xs p0 p1 p2 p3 pa pn pc pb pm pd w0).pos, x < 8 := by show ∀ x ∈ ([1, 4, 6, 7] : List Nat), x < 8; decide
      exact this _ hm
end Go.Proofs.YthfilnflgahcjaaGreatDoor
