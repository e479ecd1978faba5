/- The statement that tells a byte by its number, operation by operation, in whatever order. -/
import Derived.Test.YthfilnflgahcjaaGreatDoorJoin30
namespace Go.Proofs.YthfilnflgahcjaaGreatDoor
open Go.RowKit Go.Shelf Go.Lib
set_option linter.unusedVariables false
set_option linter.unusedSimpArgs false
/-- 'append(row, text...)': one operation. -/
theorem chain_text {o : Oper} {a : Act} {w : World} {K : Act → World → Prop} {Q : Exit → Act → World → Prop} (sl x : Operand) (ho : o.op = .call { callee := .builtin .append, args := #[sl, x], argTypes := #[116, 9] }) {base m : Nat} {r : Value} {ys : List Value} {s : ByteArray}
    (hs : a.eval sl = r) (hx : a.eval x = .string s) (hown : w.ownsRow base 5 1 r m ys) (h0 : 0 < s.size) (hn : m + s.size ≤ 100000000000000) (hB : base ≤ w.heap.size) (h : ∀ v' w', Told base m ys r w s.data.toList v' w' → K (a.put o.dst v') w') : Oper.wp Tryz.prog o a w K Q := by
  obtain ⟨i0, hi, hz0, hz1, hz2⟩ := info_parts Tryz.info5
  obtain ⟨v', w', hr, h2, h3, h4⟩ := run_append_own_string (P := Tryz.prog) w base 116 9 o.type 5 i0 Tryz.underlying116 Tryz.underlying9 hi hz0 hz1 hz2 r m ys hown s (by unfold maxLen; omega) (by omega) hB
  unfold Oper.wp execOp
  simp only [ho, resolve, invoke, builtin, Sem.run_bind, Sem.run_pure, Result.andThen_ok, List.map_toArray, List.map_cons, List.map_nil, hs, hx, hr]
  exact h v' w' ⟨h2, h3, append_place hown h0 hn hr⟩
/-- 'append(row, bytes...)': one operation. -/
theorem chain_row {o : Oper} {a : Act} {w : World} {K : Act → World → Prop} {Q : Exit → Act → World → Prop} (sl x : Operand) (ho : o.op = .call { callee := .builtin .append, args := #[sl, x], argTypes := #[116, 116] }) {base m t c : Nat} {r : Value} {ys : List Value} {bs : List UInt8}
    (hs : a.eval sl = r) (hx : a.eval x = .slice (some ⟨t, 0, none⟩) bs.length c) (hown : w.ownsRow base 5 1 r m ys) (hc : ∀ j u, (byteCells bs)[j]? = some u → w.cell? ⟨t, j, none⟩ = some u) (hn : m + bs.length ≤ 100000000000000) (hB : base ≤ w.heap.size) (h : ∀ v' w', Told base m ys r w bs v' w' → K (a.put o.dst v') w') : Oper.wp Tryz.prog o a w K Q := by
  obtain ⟨i0, hi, hz0, hz1, hz2⟩ := info_parts Tryz.info5
  obtain ⟨v', w', hr, h2, h3, _, h5⟩ := run_append_own_at (P := Tryz.prog) w base 116 o.type 5 i0 (.int .u8 0) 1 1 Tryz.underlying116 hi hz0 hz1 hz2 rfl (by decide) r m ys hown ⟨t, 0, none⟩ bs.length c (byteCells bs) (by rw [byteCells_length, Nat.mul_one]) (fun j u hj => by rw [Lib.add_plain, Nat.zero_add]; exact hc j u hj)
    (by intro u hu; simp only [byteCells, List.mem_map] at hu; obtain ⟨b, _, rfl⟩ := hu; rfl) (by unfold maxLen; omega) (by omega) hB
  unfold Oper.wp execOp
  simp only [ho, resolve, invoke, builtin, Sem.run_bind, Sem.run_pure, Result.andThen_ok, List.map_toArray, List.map_cons, List.map_nil, hs, hx, hr]
  exact h v' w' ⟨h2, h3, h5.imp id fun e => ⟨_, e, Nat.le_refl _⟩⟩
theorem and_15 : ∀ m : Nat, m < 128 → bits .and .u8 (m : Int) 15 = (m : Int) % 16 := by decide
/-- A digit. -/
def hexB (m : Nat) : UInt8 := ([48, 49, 50, 51, 52, 53, 54, 55, 56, 57, 97, 98, 99, 100, 101, 102] : List UInt8).getD m 0
noncomputable def RE10 : Array Oper := regionAt Tryz.f240 10
def ancE10 (i : Nat) : List Nat := ([[], [0], [], [2], [2, 3], [], [5], [5, 6], [2, 3, 4, 5, 6, 7], [0, 1, 2, 3, 4, 5, 6, 7, 8], [0, 1, 2, 3, 4, 5, 6, 7, 8, 9]] : List (List Nat)).getD i []
def chainE10 (base n m : Nat) (v : Value) (xs : List Value) (w0 : World) : Chain := ⟨[1, 9, 10], [[92, 117, 48, 48], [hexB (m / 16), hexB (m % 16)], []], [(8, [hexB (m / 16), hexB (m % 16)])]⟩
def gE10 (base n m : Nat) (v : Value) (xs : List Value) (w0 : World) (i : Nat) (u : Value) : Prop := ([fun u => u = (v), fun _ => True, fun u => u = (.int .u8 (m : Int)), fun u => u = (.int .u8 ((m / 16 : Nat) : Int)), fun u => u = (.int .u8 ((hexB (m / 16)).toNat : Int)), fun u => u = (.int .u8 (m : Int)), fun u => u = (.int .u8 ((m % 16 : Nat) : Int)), fun u => u = (.int .u8 ((hexB (m % 16)).toNat : Int)), fun _ => True, fun _ => True, fun _ => True] : List (Value → Prop)).getD i (fun _ => True) u
structure BE10 (base n m : Nat) (v : Value) (xs : List Value) (w0 : World) (c : Act) : Prop where
  t0 : c.eval (.tmp 0) = v
  t1 : c.eval (.tmp 1) = .int .u8 (m : Int)
  size : c.tmps.size = 52
structure WE10 (base n m : Nat) (v : Value) (xs : List Value) (w0 : World) : Prop where
  own : w0.ownsRow base 5 1 v n xs
  low : base ≤ w0.heap.size
  few : n ≤ 100000000000
  small : m < 128
theorem apartE10 (base n m : Nat) (v : Value) (xs : List Value) (w0 : World) : (chainE10 base n m v xs w0).apart = true := by
  unfold Chain.apart
  rw [Bool.and_eq_true]
  exact ⟨decide_eq_true ⟨by show ([1, 9, 10] : List Nat).Nodup; decide, by show ([8] : List Nat).Nodup; decide, by
    intro s hs
    simp only [chainE10, List.mem_cons, List.not_mem_nil, or_false] at hs
    subst hs
    show (8 : Nat) ∉ ([1, 9, 10] : List Nat); decide⟩, decide_eq_true rfl⟩
def stepE10 (base n m : Nat) (v : Value) (xs : List Value) (w0 : World) (Q : Exit → Act → World → Prop) (i : Nat) : Prop := ∀ (l : Nat → Bool) (c : Act) (w : World), BE10 base n m v xs w0 c → WE10 base n m v xs w0 → l i = false → (∀ k, l k = true → ∀ j ∈ ancE10 k, l j = true) → (∀ j ∈ ancE10 i, l j = true ∧ gE10 base n m v xs w0 j (val RE10 c j)) → (chainE10 base n m v xs w0).Far base n v xs w0 l (val RE10 c) w → Steps' Tryz.prog RE10 Q (gE10 base n m v xs w0) ((chainE10 base n m v xs w0).Far base n v xs w0) i l c w
section
variable (base n m : Nat) (v : Value) (xs : List Value) (w0 : World) (Q : Exit → Act → World → Prop)
set_option maxRecDepth 10000 in
theorem oE10_0 : stepE10 base n m v xs w0 Q 0 := by
  intro l c w hb hW hli hcl hA hS
  have ho : RE10[0]? = some ({ dst := some 38, op := Op.move (Operand.tmp 0), type := 116, pos := "text.go:94", after := #[], guard := none } : Oper) := by kernel_rfl
  have hw : Region.wanted _ (yielded RE10 c.tmps) = true := want_none (o := ({ dst := some 38, op := Op.move (Operand.tmp 0), type := 116, pos := "text.go:94", after := #[], guard := none } : Oper)) rfl
  have e0 := hb.t0
  have ec : ∀ v, c.eval (.const v) = v := fun _ => rfl
  have ef : ∀ f, c.eval (.func f) = .func (.func f) #[] #[] := fun _ => rfl
  refine steps_value (d := 38) ho rfl (by rw [hb.size]; decide) hw (v := v) ?_ rfl (hS.beside (by show (0 : Nat) ∉ ([1, 9, 10] : List Nat); decide) (by intro s hs; simp only [chainE10, List.mem_cons, List.not_mem_nil, or_false] at hs; subst hs; show (8 : Nat) ≠ 0; decide) _)
  generalize c.eval = ρ at *
  clear hA hb hW hw ho hS hcl hli
  go_simp
set_option maxRecDepth 10000 in
theorem oE10_1 : stepE10 base n m v xs w0 Q 1 := by
  intro l c w hb hW hli hcl hA hS
  have ho : RE10[1]? = some ({ dst := some 39, op := Op.call { callee := Callee.builtin Builtin.append, args := #[Operand.tmp 38, Operand.const (Value.string { data := #[92, 117, 48, 48] })], argTypes := #[116, 9] }, type := 116, pos := "text.go:94", after := #[{ on := 0, ground := Ground.data }], guard := none } : Oper) := by kernel_rfl
  have hw : Region.wanted _ (yielded RE10 c.tmps) = true := want_none (o := ({ dst := some 39, op := Op.call { callee := Callee.builtin Builtin.append, args := #[Operand.tmp 38, Operand.const (Value.string { data := #[92, 117, 48, 48] })], argTypes := #[116, 9] }, type := 116, pos := "text.go:94", after := #[{ on := 0, ground := Ground.data }], guard := none } : Oper)) rfl
  have e38 : c.eval (.tmp 38) = v := by have h := (hA 0 (by decide)).2; rw [val_eq (show slotOf RE10 0 = some 38 by kernel_rfl)] at h; exact h
  have ec : ∀ v, c.eval (.const v) = v := fun _ => rfl
  have ef : ∀ f, c.eval (.func f) = .func (.func f) #[] #[] := fun _ => rfl
  obtain ⟨ht, hsd⟩ := hS.at (j := 0) (by show (0 : Nat) < 3; decide) hli (.inl rfl)
  have hB : base ≤ w.heap.size := Nat.le_trans hW.low ht.grown.size
  have hown := ht.own
  refine steps_law (d := 39) ho rfl (by rw [hb.size]; decide) fun K hK => ?_
  rw [if_pos hw]
  refine chain_text (.tmp 38) (Operand.const (Value.string { data := #[92, 117, 48, 48] })) rfl e38 rfl hown (by decide) (by have := hW.few; show n + _ + 4 ≤ _; simp [Chain.sofar]; omega) hB fun v' w' ht2 => hK v' w' trivial (hS.on (apartE10 base n m v xs w0) (j := 0) (by show (0 : Nat) < 3; decide) hli (.inl rfl) ht2)
set_option maxRecDepth 10000 in
theorem oE10_2 : stepE10 base n m v xs w0 Q 2 := by
  intro l c w hb hW hli hcl hA hS
  have ho : RE10[2]? = some ({ dst := some 40, op := Op.move (Operand.tmp 1), type := 5, pos := "text.go:94", after := #[], guard := none } : Oper) := by kernel_rfl
  have hw : Region.wanted _ (yielded RE10 c.tmps) = true := want_none (o := ({ dst := some 40, op := Op.move (Operand.tmp 1), type := 5, pos := "text.go:94", after := #[], guard := none } : Oper)) rfl
  have e1 := hb.t1
  have ec : ∀ v, c.eval (.const v) = v := fun _ => rfl
  have ef : ∀ f, c.eval (.func f) = .func (.func f) #[] #[] := fun _ => rfl
  refine steps_value (d := 40) ho rfl (by rw [hb.size]; decide) hw (v := .int .u8 (m : Int)) ?_ rfl (hS.beside (by show (2 : Nat) ∉ ([1, 9, 10] : List Nat); decide) (by intro s hs; simp only [chainE10, List.mem_cons, List.not_mem_nil, or_false] at hs; subst hs; show (8 : Nat) ≠ 2; decide) _)
  generalize c.eval = ρ at *
  clear hA hb hW hw ho hS hcl hli
  go_simp
set_option maxRecDepth 10000 in
theorem oE10_3 : stepE10 base n m v xs w0 Q 3 := by
  intro l c w hb hW hli hcl hA hS
  have ho : RE10[3]? = some ({ dst := some 41, op := Op.binOp BinOp.shr 5 (Operand.tmp 40) (Operand.const (Value.int IntKind.u64 4)) 171, type := 5, pos := "text.go:94", after := #[{ on := 2, ground := Ground.data }], guard := none } : Oper) := by kernel_rfl
  have hw : Region.wanted _ (yielded RE10 c.tmps) = true := want_none (o := ({ dst := some 41, op := Op.binOp BinOp.shr 5 (Operand.tmp 40) (Operand.const (Value.int IntKind.u64 4)) 171, type := 5, pos := "text.go:94", after := #[{ on := 2, ground := Ground.data }], guard := none } : Oper)) rfl
  have e40 : c.eval (.tmp 40) = .int .u8 (m : Int) := by have h := (hA 2 (by decide)).2; rw [val_eq (show slotOf RE10 2 = some 40 by kernel_rfl)] at h; exact h
  have ec : ∀ v, c.eval (.const v) = v := fun _ => rfl
  have ef : ∀ f, c.eval (.func f) = .func (.func f) #[] #[] := fun _ => rfl
  have hm := hW.small
  refine steps_value (d := 41) ho rfl (by rw [hb.size]; decide) hw (v := .int .u8 ((m / 16 : Nat) : Int)) ?_ rfl (hS.beside (by show (3 : Nat) ∉ ([1, 9, 10] : List Nat); decide) (by intro s hs; simp only [chainE10, List.mem_cons, List.not_mem_nil, or_false] at hs; subst hs; show (8 : Nat) ≠ 3; decide) _)
  generalize c.eval = ρ at *
  clear hA hb hW hw ho hS hcl hli
  go_simp
set_option maxRecDepth 10000 in
theorem oE10_4 : stepE10 base n m v xs w0 Q 4 := by
  intro l c w hb hW hli hcl hA hS
  have ho : RE10[4]? = some ({ dst := some 42, op := Op.index 9 (Operand.const (Value.string { data := #[48, 49, 50, 51, 52, 53, 54, 55, 56, 57, 97, 98, 99, 100, 101, 102] })) (Operand.tmp 41), type := 5, pos := "text.go:94", after := #[{ on := 3, ground := Ground.data }], guard := none } : Oper) := by kernel_rfl
  have hw : Region.wanted _ (yielded RE10 c.tmps) = true := want_none (o := ({ dst := some 42, op := Op.index 9 (Operand.const (Value.string { data := #[48, 49, 50, 51, 52, 53, 54, 55, 56, 57, 97, 98, 99, 100, 101, 102] })) (Operand.tmp 41), type := 5, pos := "text.go:94", after := #[{ on := 3, ground := Ground.data }], guard := none } : Oper)) rfl
  have e41 : c.eval (.tmp 41) = .int .u8 ((m / 16 : Nat) : Int) := by have h := (hA 3 (by decide)).2; rw [val_eq (show slotOf RE10 3 = some 41 by kernel_rfl)] at h; exact h
  have ec : ∀ v, c.eval (.const v) = v := fun _ => rfl
  have ef : ∀ f, c.eval (.func f) = .func (.func f) #[] #[] := fun _ => rfl
  have hm := hW.small
  have hk : m / 16 < 16 := by omega
  refine steps_value (d := 42) ho rfl (by rw [hb.size]; decide) hw (v := .int .u8 ((hexB (m / 16)).toNat : Int)) ?_ rfl (hS.beside (by show (4 : Nat) ∉ ([1, 9, 10] : List Nat); decide) (by intro s hs; simp only [chainE10, List.mem_cons, List.not_mem_nil, or_false] at hs; subst hs; show (8 : Nat) ≠ 4; decide) _)
  obtain ⟨kk, hkk⟩ : ∃ x : Nat, m / 16 = x := ⟨_, rfl⟩
  rw [hkk] at e41 hk ⊢
  obtain ⟨d, hd⟩ : ∃ d, hexB kk = d := ⟨_, rfl⟩
  rw [hd]
  have hki : (kk : Int) < 16 := by omega
  generalize c.eval = ρ at *
  clear hA hb hW hw ho hS hcl hli
  go_simp
  rw [← hd]
  unfold hexB
  rw [List.getD_eq_getElem?_getD, List.getElem?_eq_getElem (by simpa using hk)]
  rfl
set_option maxRecDepth 10000 in
theorem oE10_5 : stepE10 base n m v xs w0 Q 5 := by
  intro l c w hb hW hli hcl hA hS
  have ho : RE10[5]? = some ({ dst := some 43, op := Op.move (Operand.tmp 1), type := 5, pos := "text.go:94", after := #[], guard := none } : Oper) := by kernel_rfl
  have hw : Region.wanted _ (yielded RE10 c.tmps) = true := want_none (o := ({ dst := some 43, op := Op.move (Operand.tmp 1), type := 5, pos := "text.go:94", after := #[], guard := none } : Oper)) rfl
  have e1 := hb.t1
  have ec : ∀ v, c.eval (.const v) = v := fun _ => rfl
  have ef : ∀ f, c.eval (.func f) = .func (.func f) #[] #[] := fun _ => rfl
  refine steps_value (d := 43) ho rfl (by rw [hb.size]; decide) hw (v := .int .u8 (m : Int)) ?_ rfl (hS.beside (by show (5 : Nat) ∉ ([1, 9, 10] : List Nat); decide) (by intro s hs; simp only [chainE10, List.mem_cons, List.not_mem_nil, or_false] at hs; subst hs; show (8 : Nat) ≠ 5; decide) _)
  generalize c.eval = ρ at *
  clear hA hb hW hw ho hS hcl hli
  go_simp
set_option maxRecDepth 10000 in
theorem oE10_6 : stepE10 base n m v xs w0 Q 6 := by
  intro l c w hb hW hli hcl hA hS
  have ho : RE10[6]? = some ({ dst := some 44, op := Op.binOp BinOp.and 5 (Operand.tmp 43) (Operand.const (Value.int IntKind.u8 15)) 5, type := 5, pos := "text.go:94", after := #[{ on := 5, ground := Ground.data }], guard := none } : Oper) := by kernel_rfl
  have hw : Region.wanted _ (yielded RE10 c.tmps) = true := want_none (o := ({ dst := some 44, op := Op.binOp BinOp.and 5 (Operand.tmp 43) (Operand.const (Value.int IntKind.u8 15)) 5, type := 5, pos := "text.go:94", after := #[{ on := 5, ground := Ground.data }], guard := none } : Oper)) rfl
  have e43 : c.eval (.tmp 43) = .int .u8 (m : Int) := by have h := (hA 5 (by decide)).2; rw [val_eq (show slotOf RE10 5 = some 43 by kernel_rfl)] at h; exact h
  have ec : ∀ v, c.eval (.const v) = v := fun _ => rfl
  have ef : ∀ f, c.eval (.func f) = .func (.func f) #[] #[] := fun _ => rfl
  have hm := and_15 m hW.small
  refine steps_value (d := 44) ho rfl (by rw [hb.size]; decide) hw (v := .int .u8 ((m % 16 : Nat) : Int)) ?_ rfl (hS.beside (by show (6 : Nat) ∉ ([1, 9, 10] : List Nat); decide) (by intro s hs; simp only [chainE10, List.mem_cons, List.not_mem_nil, or_false] at hs; subst hs; show (8 : Nat) ≠ 6; decide) _)
  generalize c.eval = ρ at *
  clear hA hb hW hw ho hS hcl hli
  go_simp
set_option maxRecDepth 10000 in
theorem oE10_7 : stepE10 base n m v xs w0 Q 7 := by
  intro l c w hb hW hli hcl hA hS
  have ho : RE10[7]? = some ({ dst := some 45, op := Op.index 9 (Operand.const (Value.string { data := #[48, 49, 50, 51, 52, 53, 54, 55, 56, 57, 97, 98, 99, 100, 101, 102] })) (Operand.tmp 44), type := 5, pos := "text.go:94", after := #[{ on := 6, ground := Ground.data }], guard := none } : Oper) := by kernel_rfl
  have hw : Region.wanted _ (yielded RE10 c.tmps) = true := want_none (o := ({ dst := some 45, op := Op.index 9 (Operand.const (Value.string { data := #[48, 49, 50, 51, 52, 53, 54, 55, 56, 57, 97, 98, 99, 100, 101, 102] })) (Operand.tmp 44), type := 5, pos := "text.go:94", after := #[{ on := 6, ground := Ground.data }], guard := none } : Oper)) rfl
  have e44 : c.eval (.tmp 44) = .int .u8 ((m % 16 : Nat) : Int) := by have h := (hA 6 (by decide)).2; rw [val_eq (show slotOf RE10 6 = some 44 by kernel_rfl)] at h; exact h
  have ec : ∀ v, c.eval (.const v) = v := fun _ => rfl
  have ef : ∀ f, c.eval (.func f) = .func (.func f) #[] #[] := fun _ => rfl
  have hm := hW.small
  have hk : m % 16 < 16 := by omega
  refine steps_value (d := 45) ho rfl (by rw [hb.size]; decide) hw (v := .int .u8 ((hexB (m % 16)).toNat : Int)) ?_ rfl (hS.beside (by show (7 : Nat) ∉ ([1, 9, 10] : List Nat); decide) (by intro s hs; simp only [chainE10, List.mem_cons, List.not_mem_nil, or_false] at hs; subst hs; show (8 : Nat) ≠ 7; decide) _)
  obtain ⟨kk, hkk⟩ : ∃ x : Nat, m % 16 = x := ⟨_, rfl⟩
  rw [hkk] at e44 hk ⊢
  obtain ⟨d, hd⟩ : ∃ d, hexB kk = d := ⟨_, rfl⟩
  rw [hd]
  have hki : (kk : Int) < 16 := by omega
  generalize c.eval = ρ at *
  clear hA hb hW hw ho hS hcl hli
  go_simp
  rw [← hd]
  unfold hexB
  rw [List.getD_eq_getElem?_getD, List.getElem?_eq_getElem (by simpa using hk)]
  rfl
set_option maxRecDepth 10000 in
theorem oE10_8 : stepE10 base n m v xs w0 Q 8 := by
  intro l c w hb hW hli hcl hA hS
  have ho : RE10[8]? = some ({ dst := some 46, op := Op.buildSlice 116 2 #[(0, Operand.tmp 42), (1, Operand.tmp 45)], type := 116, pos := "text.go:94", after := #[{ on := 4, ground := Ground.data }, { on := 7, ground := Ground.data }], guard := none } : Oper) := by kernel_rfl
  have hw : Region.wanted _ (yielded RE10 c.tmps) = true := want_none (o := ({ dst := some 46, op := Op.buildSlice 116 2 #[(0, Operand.tmp 42), (1, Operand.tmp 45)], type := 116, pos := "text.go:94", after := #[{ on := 4, ground := Ground.data }, { on := 7, ground := Ground.data }], guard := none } : Oper)) rfl
  have e42 : c.eval (.tmp 42) = .int .u8 ((hexB (m / 16)).toNat : Int) := by have h := (hA 4 (by decide)).2; rw [val_eq (show slotOf RE10 4 = some 42 by kernel_rfl)] at h; exact h
  have e45 : c.eval (.tmp 45) = .int .u8 ((hexB (m % 16)).toNat : Int) := by have h := (hA 7 (by decide)).2; rw [val_eq (show slotOf RE10 7 = some 45 by kernel_rfl)] at h; exact h
  have ec : ∀ v, c.eval (.const v) = v := fun _ => rfl
  have ef : ∀ f, c.eval (.func f) = .func (.func f) #[] #[] := fun _ => rfl
  refine steps_value (d := 46) ho rfl (by rw [hb.size]; decide) hw (v := .slice (some ⟨w.heap.size, 0, none⟩) 2 2) (w' := w.alloc (.cells (byteCells [hexB (m / 16), hexB (m % 16)]).toArray 5)) ?_ trivial (hS.built (apartE10 base n m v xs w0) (s := (8, [hexB (m / 16), hexB (m % 16)])) (by simp only [chainE10, List.mem_cons, List.not_mem_nil, or_false]))
  generalize c.eval = ρ at *
  clear hA hb hW hw ho hS hcl hli
  go_simp
  rfl
set_option maxRecDepth 10000 in
theorem oE10_9 : stepE10 base n m v xs w0 Q 9 := by
  intro l c w hb hW hli hcl hA hS
  have ho : RE10[9]? = some ({ dst := some 47, op := Op.call { callee := Callee.builtin Builtin.append, args := #[Operand.tmp 39, Operand.tmp 46], argTypes := #[116, 116] }, type := 116, pos := "text.go:94", after := #[{ on := 1, ground := Ground.data }, { on := 8, ground := Ground.data }, { on := 1, ground := Ground.chain }], guard := none } : Oper) := by kernel_rfl
  have hw : Region.wanted _ (yielded RE10 c.tmps) = true := want_none (o := ({ dst := some 47, op := Op.call { callee := Callee.builtin Builtin.append, args := #[Operand.tmp 39, Operand.tmp 46], argTypes := #[116, 116] }, type := 116, pos := "text.go:94", after := #[{ on := 1, ground := Ground.data }, { on := 8, ground := Ground.data }, { on := 1, ground := Ground.chain }], guard := none } : Oper)) rfl
  have e39 : c.eval (.tmp 39) = val RE10 c 1 := (val_eq (show slotOf RE10 1 = some 39 by kernel_rfl)).symm
  have e46 : c.eval (.tmp 46) = val RE10 c 8 := (val_eq (show slotOf RE10 8 = some 46 by kernel_rfl)).symm
  have ec : ∀ v, c.eval (.const v) = v := fun _ => rfl
  have ef : ∀ f, c.eval (.func f) = .func (.func f) #[] #[] := fun _ => rfl
  obtain ⟨ht, hsd⟩ := hS.at (j := 1) (by show (1 : Nat) < 3; decide) hli (.inr (hA 1 (by decide)).1)
  have hB : base ≤ w.heap.size := Nat.le_trans hW.low ht.grown.size
  have hown := ht.own
  refine steps_law (d := 47) ho rfl (by rw [hb.size]; decide) fun K hK => ?_
  rw [if_pos hw]
  obtain ⟨t, ht1, hc⟩ := hsd (8, [hexB (m / 16), hexB (m % 16)]) (by simp only [chainE10, List.mem_cons, List.not_mem_nil, or_false]) (hA 8 (by decide)).1
  refine chain_row (.tmp 39) (.tmp 46) rfl e39 (e46.trans ht1) hown hc (by have := hW.few; show n + _ + 2 ≤ _; simp [chainE10, Chain.sofar]; omega) hB fun v' w' ht2 => hK v' w' trivial (hS.on (apartE10 base n m v xs w0) (j := 1) (by show (1 : Nat) < 3; decide) hli (.inr (hA 1 (by decide)).1) ht2)
set_option maxRecDepth 10000 in
theorem oE10_10 : stepE10 base n m v xs w0 Q 10 := by
  intro l c w hb hW hli hcl hA hS
  have ho : RE10[10]? = some ({ dst := some 4, op := Op.assign (Operand.tmp 47), type := 116, pos := "text.go:94", after := #[{ on := 9, ground := Ground.data }, { on := 9, ground := Ground.chain }, { on := 0, ground := Ground.phase }, { on := 1, ground := Ground.phase }, { on := 2, ground := Ground.phase }, { on := 3, ground := Ground.phase }, { on := 4, ground := Ground.phase }, { on := 5, ground := Ground.phase }, { on := 6, ground := Ground.phase }, { on := 7, ground := Ground.phase }, { on := 8, ground := Ground.phase }, { on := 9, ground := Ground.phase }], guard := none } : Oper) := by kernel_rfl
  have hw : Region.wanted _ (yielded RE10 c.tmps) = true := want_none (o := ({ dst := some 4, op := Op.assign (Operand.tmp 47), type := 116, pos := "text.go:94", after := #[{ on := 9, ground := Ground.data }, { on := 9, ground := Ground.chain }, { on := 0, ground := Ground.phase }, { on := 1, ground := Ground.phase }, { on := 2, ground := Ground.phase }, { on := 3, ground := Ground.phase }, { on := 4, ground := Ground.phase }, { on := 5, ground := Ground.phase }, { on := 6, ground := Ground.phase }, { on := 7, ground := Ground.phase }, { on := 8, ground := Ground.phase }, { on := 9, ground := Ground.phase }], guard := none } : Oper)) rfl
  have e47 : c.eval (.tmp 47) = val RE10 c 9 := (val_eq (show slotOf RE10 9 = some 47 by kernel_rfl)).symm
  have ec : ∀ v, c.eval (.const v) = v := fun _ => rfl
  have ef : ∀ f, c.eval (.func f) = .func (.func f) #[] #[] := fun _ => rfl
  obtain ⟨ht, hsd⟩ := hS.at (j := 2) (by show (2 : Nat) < 3; decide) hli (.inr (hA 9 (by decide)).1)
  have hB : base ≤ w.heap.size := Nat.le_trans hW.low ht.grown.size
  have hown := ht.own
  have ht2 := told_nil hown
  refine steps_value (d := 4) ho rfl (by rw [hb.size]; decide) hw (v := val RE10 c 9) ?_ trivial (hS.on (apartE10 base n m v xs w0) (j := 2) (by show (2 : Nat) < 3; decide) hli (.inr (hA 9 (by decide)).1) ht2)
  generalize c.eval = ρ at *
  clear hA hb hW hw ho hS hcl hli ht hsd hB hown ht2
  go_simp
end
set_option maxRecDepth 100000 in
theorem allE10 (base n m : Nat) (v : Value) (xs : List Value) (w0 : World) (Q : Exit → Act → World → Prop) : ∀ i, i < 11 → stepE10 base n m v xs w0 Q i := by
  intro i hi
  match i, hi with
  | 0, _ => exact oE10_0 base n m v xs w0 Q
  | 1, _ => exact oE10_1 base n m v xs w0 Q
  | 2, _ => exact oE10_2 base n m v xs w0 Q
  | 3, _ => exact oE10_3 base n m v xs w0 Q
  | 4, _ => exact oE10_4 base n m v xs w0 Q
  | 5, _ => exact oE10_5 base n m v xs w0 Q
  | 6, _ => exact oE10_6 base n m v xs w0 Q
  | 7, _ => exact oE10_7 base n m v xs w0 Q
  | 8, _ => exact oE10_8 base n m v xs w0 Q
  | 9, _ => exact oE10_9 base n m v xs w0 Q
  | 10, _ => exact oE10_10 base n m v xs w0 Q
theorem regionE10 (base n m : Nat) (v : Value) (xs : List Value) (w0 : World) (Q : Exit → Act → World → Prop) (frame : Act) (hb : BE10 base n m v xs w0 frame) (hW : WE10 base n m v xs w0)
    (hQ : ∀ c w, Same RE10 frame c → Told base n xs v w0 ((chainE10 base n m v xs w0).sofar 3) (c.eval (.tmp 4)) w → Q .normal c w) : (Code.region 10 RE10 true).wp Tryz.prog Q frame w0 := by
  refine writes_rule (A := ancE10) (G := gE10 base n m v xs w0) (S := (chainE10 base n m v xs w0).Far base n v xs w0) (by kernel_rfl) (by rw [hb.size]; kernel_rfl) (Chain.Far.start hW.own) ?_ ?_
  · intro i hi l c w hS hli hcl hA hF
    exact allE10 base n m v xs w0 Q i (by rwa [show RE10.size = 11 by kernel_rfl] at hi) l c w ⟨(same_eval hS (by kernel_rfl)).trans hb.t0, (same_eval hS (by kernel_rfl)).trans hb.t1, (by rw [← hb.size]; exact hS.2.1)⟩ hW hli hcl hA hF
  · intro l c w hS hall hF
    refine hQ c w hS ?_
    have := hF.end (fun j hj => ?_)
    · have e : (chainE10 base n m v xs w0).row v (val RE10 c) (chainE10 base n m v xs w0).pos.length = c.eval (.tmp 4) := val_eq (show slotOf RE10 10 = some 4 by kernel_rfl)
      rw [e] at this
      exact this
    · have hm := Chain.get_mem hj
      refine (hall _ ?_).1
      rw [show RE10.size = 11 by kernel_rfl]
      have : ∀ x ∈ (chainE10 base n m v xs w0).pos, x < 11 := by show ∀ x ∈ ([1, 9, 10] : List Nat), x < 11; decide
      exact this _ hm
end Go.Proofs.YthfilnflgahcjaaGreatDoor
