/- The document's own: a byte told by its number, operation by operation, in whatever order. -/
import Derived.Test.YtbjcdpenfijfoaaGreatDoorEsc10
namespace Go.Proofs.YtbjcdpenfijfoaaGreatDoor
open Go.RowKit Go.Shelf Go.Lib
set_option linter.unusedVariables false
set_option linter.unusedSimpArgs false

/-- How far it has come, where the last operation writes over the row's own place. -/
def Chain.FarK (C : Chain) (k : Nat) (base n : Nat) (v : Value) (xs : List Value) (w0 : World) (l : Nat → Bool) (vs : Nat → Value) (w : World) : Prop := C.Far base n v xs w0 l vs w ∧ (l k = false → vs k = v) ∧ k ∈ C.pos
section
variable {base n : Nat} {v : Value} {xs : List Value} {w0 : World}
theorem Chain.FarK.beside {C : Chain} {k : Nat} {l : Nat → Bool} {vs : Nat → Value} {w : World} (h : C.FarK k base n v xs w0 l vs w) {i : Nat} (hi : i ∉ C.pos) (hs : ∀ s ∈ C.side, s.1 ≠ i) (u : Value) : C.FarK k base n v xs w0 (upd l i true) (upd vs i u) w := by
  have hne : k ≠ i := fun e => hi (e ▸ h.2.2)
  refine ⟨h.1.beside hi hs u, fun hl => ?_, h.2.2⟩
  rw [upd_other _ _ hne] at hl ⊢
  exact h.2.1 hl
theorem Chain.FarK.built {C : Chain} {k : Nat} {l : Nat → Bool} {vs : Nat → Value} {w : World} (hap : C.apart = true) (h : C.FarK k base n v xs w0 l vs w) {s : Nat × List UInt8} (hm : s ∈ C.side) :
    C.FarK k base n v xs w0 (upd l s.1 true) (upd vs s.1 (.slice (some ⟨w.heap.size, 0, none⟩) s.2.length s.2.length)) (w.alloc (.cells (byteCells s.2).toArray 5)) := by
  have hap0 := hap
  simp only [Chain.apart, Bool.and_eq_true, decide_eq_true_eq] at hap
  have hne : k ≠ s.1 := fun e => hap.1.2.2 s hm (e ▸ h.2.2)
  refine ⟨h.1.built hap0 hm, fun hl => ?_, h.2.2⟩
  rw [upd_other _ _ hne] at hl ⊢
  exact h.2.1 hl
theorem Chain.FarK.at {C : Chain} {k : Nat} {l : Nat → Bool} {vs : Nat → Value} {w : World} (h : C.FarK k base n v xs w0 l vs w) {j : Nat} (hj : j < C.pos.length) (h0 : l (C.pos.getD j 0) = false) (h1 : j = 0 ∨ l (C.pos.getD (j - 1) 0) = true) :
    Told base n xs v w0 (C.sofar j) (C.row v vs j) w ∧ ∀ s ∈ C.side, l s.1 = true → ∃ t, vs s.1 = .slice (some ⟨t, 0, none⟩) s.2.length s.2.length ∧ (∀ j u, (byteCells s.2)[j]? = some u → w.cell? ⟨t, j, none⟩ = some u) := h.1.at hj h0 h1
theorem Chain.FarK.on {C : Chain} {k : Nat} {l : Nat → Bool} {vs : Nat → Value} {w w' : World} {u : Value} (hap : C.apart = true) (h : C.FarK k base n v xs w0 l vs w) {j : Nat} (hj : j < C.pos.length) (h0 : l (C.pos.getD j 0) = false) (h1 : j = 0 ∨ l (C.pos.getD (j - 1) 0) = true)
    (hu : Told base (n + (C.sofar j).length) (xs ++ byteCells (C.sofar j)) (C.row v vs j) w (C.add.getD j []) u w') : C.FarK k base n v xs w0 (upd l (C.pos.getD j 0) true) (upd vs (C.pos.getD j 0) u) w' := by
  refine ⟨h.1.on hap hj h0 h1 hu, fun hl => ?_, h.2.2⟩
  by_cases e : k = C.pos.getD j 0
  · rw [e, upd_same] at hl; cases hl
  · rw [upd_other _ _ e] at hl ⊢
    exact h.2.1 hl
theorem Chain.FarK.start {C : Chain} {k : Nat} {vs : Nat → Value} (hown : w0.ownsRow base 5 1 v n xs) (hk : k ∈ C.pos) (hv : vs k = v) : C.FarK k base n v xs w0 (fun _ => false) vs w0.drew := ⟨Chain.Far.start hown, fun _ => hv, hk⟩
theorem Chain.FarK.end {C : Chain} {k : Nat} {l : Nat → Bool} {vs : Nat → Value} {w : World} (h : C.FarK k base n v xs w0 l vs w) (hl : ∀ j, j < C.pos.length → l (C.pos.getD j 0) = true) : Told base n xs v w0 (C.sofar C.pos.length) (C.row v vs C.pos.length) w := h.1.end hl
end
theorem quo_16 : ∀ m : Nat, m < 128 → IntKind.u8.wrap ((m : Int) / 16) = (m : Int) / 16 := by decide
theorem rem_16 : ∀ m : Nat, m < 128 → (m : Int).tmod 16 = (m : Int) % 16 := by decide
noncomputable def RQ17 : Array Oper := regionAt Tryz.f62 17
def ancQ17 (i : Nat) : List Nat := ([[], [], [], [2], [1, 2, 3], [], [], [6], [5, 6, 7], [1, 2, 3, 4, 5, 6, 7, 8], [0, 1, 2, 3, 4, 5, 6, 7, 8, 9], [0, 1, 2, 3, 4, 5, 6, 7, 8, 9, 10]] : List (List Nat)).getD i []
def chainQ17 (base n m : Nat) (v : Value) (xs : List Value) (w0 : World) : Chain := ⟨[10, 11], [[92, 117, 48, 48, hexB (m / 16), hexB (m % 16)], []], [(9, [92, 117, 48, 48, hexB (m / 16), hexB (m % 16)])]⟩
def gQ17 (base n m : Nat) (v : Value) (xs : List Value) (w0 : World) (i : Nat) (u : Value) : Prop := ([fun u => u = (v), fun u => u = (.string ⟨#[48, 49, 50, 51, 52, 53, 54, 55, 56, 57, 97, 98, 99, 100, 101, 102]⟩), fun u => u = (.int .u8 (m : Int)), fun u => u = (.int .u8 ((m / 16 : Nat) : Int)), fun u => u = (.int .u8 ((hexB (m / 16)).toNat : Int)), fun u => u = (.string ⟨#[48, 49, 50, 51, 52, 53, 54, 55, 56, 57, 97, 98, 99, 100, 101, 102]⟩), fun u => u = (.int .u8 (m : Int)), fun u => u = (.int .u8 ((m % 16 : Nat) : Int)), fun u => u = (.int .u8 ((hexB (m % 16)).toNat : Int)), fun _ => True, fun _ => True, fun _ => True] : List (Value → Prop)).getD i (fun _ => True) u
structure BQ17 (base n m : Nat) (v : Value) (xs : List Value) (w0 : World) (c : Act) : Prop where
  t3 : c.eval (.tmp 3) = .string ⟨#[48, 49, 50, 51, 52, 53, 54, 55, 56, 57, 97, 98, 99, 100, 101, 102]⟩
  t6 : c.eval (.tmp 6) = .int .u8 (m : Int)
  size : c.tmps.size = 72
structure WQ17 (base n m : Nat) (v : Value) (xs : List Value) (w0 : World) : Prop where
  own : w0.ownsRow base 5 1 v n xs
  low : base ≤ w0.heap.size
  few : n ≤ 100000000000
  small : m < 128
theorem apartQ17 (base n m : Nat) (v : Value) (xs : List Value) (w0 : World) : (chainQ17 base n m v xs w0).apart = true := by
  unfold Chain.apart
  rw [Bool.and_eq_true]
  exact ⟨decide_eq_true ⟨by show ([10, 11] : List Nat).Nodup; decide, by show ([9] : List Nat).Nodup; decide, by
    intro s hs
    simp only [chainQ17, List.mem_cons, List.not_mem_nil, or_false] at hs
    subst hs
    show (9 : Nat) ∉ ([10, 11] : List Nat); decide⟩, decide_eq_true rfl⟩

def stepQ17 (base n m : Nat) (v : Value) (xs : List Value) (w0 : World) (Q : Exit → Act → World → Prop) (i : Nat) : Prop := ∀ (l : Nat → Bool) (c : Act) (w : World), BQ17 base n m v xs w0 c → WQ17 base n m v xs w0 → l i = false → (∀ k, l k = true → ∀ j ∈ ancQ17 k, l j = true) → (∀ j ∈ ancQ17 i, l j = true ∧ gQ17 base n m v xs w0 j (val RQ17 c j)) → (chainQ17 base n m v xs w0).FarK 11 base n v xs w0 l (val RQ17 c) w → Steps' Tryz.prog RQ17 Q (gQ17 base n m v xs w0) ((chainQ17 base n m v xs w0).FarK 11 base n v xs w0) i l c w
section
variable (base n m : Nat) (v : Value) (xs : List Value) (w0 : World) (Q : Exit → Act → World → Prop)
set_option maxRecDepth 10000 in
theorem oQ17_0 : stepQ17 base n m v xs w0 Q 0 := by
  intro l c w hb hW hli hcl hA hS
  have ho : RQ17[0]? = some ({ dst := some 57, op := Op.move (Operand.tmp 4), type := 49, pos := "ref.go:247", after := #[], guard := none } : Oper) := by kernel_rfl
  have hw : Region.wanted _ (yielded RQ17 c.tmps) = true := want_none (o := ({ dst := some 57, op := Op.move (Operand.tmp 4), type := 49, pos := "ref.go:247", after := #[], guard := none } : Oper)) rfl
  have e4 : c.eval (.tmp 4) = v := (val_eq (show slotOf RQ17 11 = some 4 by kernel_rfl)).symm.trans (hS.2.1 (by cases h : l 11 with | false => rfl | true => have := hcl 11 h 0 (by decide); rw [hli] at this; cases this))
  have ec : ∀ v, c.eval (.const v) = v := fun _ => rfl
  have ef : ∀ f, c.eval (.func f) = .func (.func f) #[] #[] := fun _ => rfl
  refine steps_value (d := 57) ho rfl (by rw [hb.size]; decide) hw (v := v) ?_ rfl (hS.beside (by show (0 : Nat) ∉ ([10, 11] : List Nat); decide) (by intro s hs; simp only [chainQ17, List.mem_cons, List.not_mem_nil, or_false] at hs; subst hs; show (9 : Nat) ≠ 0; decide) _)
  generalize c.eval = ρ at *
  clear hA hb hW hw ho hS hcl hli
  go_simp

set_option maxRecDepth 10000 in
theorem oQ17_1 : stepQ17 base n m v xs w0 Q 1 := by
  intro l c w hb hW hli hcl hA hS
  have ho : RQ17[1]? = some ({ dst := some 58, op := Op.move (Operand.tmp 3), type := 9, pos := "ref.go:247", after := #[], guard := none } : Oper) := by kernel_rfl
  have hw : Region.wanted _ (yielded RQ17 c.tmps) = true := want_none (o := ({ dst := some 58, op := Op.move (Operand.tmp 3), type := 9, pos := "ref.go:247", after := #[], guard := none } : Oper)) rfl
  have e3 := hb.t3
  have ec : ∀ v, c.eval (.const v) = v := fun _ => rfl
  have ef : ∀ f, c.eval (.func f) = .func (.func f) #[] #[] := fun _ => rfl
  refine steps_value (d := 58) ho rfl (by rw [hb.size]; decide) hw (v := .string ⟨#[48, 49, 50, 51, 52, 53, 54, 55, 56, 57, 97, 98, 99, 100, 101, 102]⟩) ?_ rfl (hS.beside (by show (1 : Nat) ∉ ([10, 11] : List Nat); decide) (by intro s hs; simp only [chainQ17, List.mem_cons, List.not_mem_nil, or_false] at hs; subst hs; show (9 : Nat) ≠ 1; decide) _)
  generalize c.eval = ρ at *
  clear hA hb hW hw ho hS hcl hli
  go_simp

set_option maxRecDepth 10000 in
theorem oQ17_2 : stepQ17 base n m v xs w0 Q 2 := by
  intro l c w hb hW hli hcl hA hS
  have ho : RQ17[2]? = some ({ dst := some 59, op := Op.move (Operand.tmp 6), type := 5, pos := "ref.go:247", after := #[], guard := none } : Oper) := by kernel_rfl
  have hw : Region.wanted _ (yielded RQ17 c.tmps) = true := want_none (o := ({ dst := some 59, op := Op.move (Operand.tmp 6), type := 5, pos := "ref.go:247", after := #[], guard := none } : Oper)) rfl
  have e6 := hb.t6
  have ec : ∀ v, c.eval (.const v) = v := fun _ => rfl
  have ef : ∀ f, c.eval (.func f) = .func (.func f) #[] #[] := fun _ => rfl
  refine steps_value (d := 59) ho rfl (by rw [hb.size]; decide) hw (v := .int .u8 (m : Int)) ?_ rfl (hS.beside (by show (2 : Nat) ∉ ([10, 11] : List Nat); decide) (by intro s hs; simp only [chainQ17, List.mem_cons, List.not_mem_nil, or_false] at hs; subst hs; show (9 : Nat) ≠ 2; decide) _)
  generalize c.eval = ρ at *
  clear hA hb hW hw ho hS hcl hli
  go_simp

set_option maxRecDepth 10000 in
theorem oQ17_3 : stepQ17 base n m v xs w0 Q 3 := by
  intro l c w hb hW hli hcl hA hS
  have ho : RQ17[3]? = some ({ dst := some 60, op := Op.binOp BinOp.quo 5 (Operand.tmp 59) (Operand.const (Value.int IntKind.u8 16)) 5, type := 5, pos := "ref.go:247", after := #[{ on := 2, ground := Ground.data }], guard := none } : Oper) := by kernel_rfl
  have hw : Region.wanted _ (yielded RQ17 c.tmps) = true := want_none (o := ({ dst := some 60, op := Op.binOp BinOp.quo 5 (Operand.tmp 59) (Operand.const (Value.int IntKind.u8 16)) 5, type := 5, pos := "ref.go:247", after := #[{ on := 2, ground := Ground.data }], guard := none } : Oper)) rfl
  have e59 : c.eval (.tmp 59) = .int .u8 (m : Int) := by have h := (hA 2 (by decide)).2; rw [val_eq (show slotOf RQ17 2 = some 59 by kernel_rfl)] at h; exact h
  have ec : ∀ v, c.eval (.const v) = v := fun _ => rfl
  have ef : ∀ f, c.eval (.func f) = .func (.func f) #[] #[] := fun _ => rfl
  have hm := quo_16 m hW.small
  refine steps_value (d := 60) ho rfl (by rw [hb.size]; decide) hw (v := .int .u8 ((m / 16 : Nat) : Int)) ?_ rfl (hS.beside (by show (3 : Nat) ∉ ([10, 11] : List Nat); decide) (by intro s hs; simp only [chainQ17, List.mem_cons, List.not_mem_nil, or_false] at hs; subst hs; show (9 : Nat) ≠ 3; decide) _)
  generalize c.eval = ρ at *
  clear hA hb hW hw ho hS hcl hli
  go_simp

set_option maxRecDepth 10000 in
theorem oQ17_4 : stepQ17 base n m v xs w0 Q 4 := by
  intro l c w hb hW hli hcl hA hS
  have ho : RQ17[4]? = some ({ dst := some 61, op := Op.index 9 (Operand.tmp 58) (Operand.tmp 60), type := 5, pos := "ref.go:247", after := #[{ on := 1, ground := Ground.data }, { on := 3, ground := Ground.data }], guard := none } : Oper) := by kernel_rfl
  have hw : Region.wanted _ (yielded RQ17 c.tmps) = true := want_none (o := ({ dst := some 61, op := Op.index 9 (Operand.tmp 58) (Operand.tmp 60), type := 5, pos := "ref.go:247", after := #[{ on := 1, ground := Ground.data }, { on := 3, ground := Ground.data }], guard := none } : Oper)) rfl
  have e58 : c.eval (.tmp 58) = .string ⟨#[48, 49, 50, 51, 52, 53, 54, 55, 56, 57, 97, 98, 99, 100, 101, 102]⟩ := by have h := (hA 1 (by decide)).2; rw [val_eq (show slotOf RQ17 1 = some 58 by kernel_rfl)] at h; exact h
  have e60 : c.eval (.tmp 60) = .int .u8 ((m / 16 : Nat) : Int) := by have h := (hA 3 (by decide)).2; rw [val_eq (show slotOf RQ17 3 = some 60 by kernel_rfl)] at h; exact h
  have ec : ∀ v, c.eval (.const v) = v := fun _ => rfl
  have ef : ∀ f, c.eval (.func f) = .func (.func f) #[] #[] := fun _ => rfl
  have hm := hW.small
  have hk : m / 16 < 16 := by omega
  refine steps_value (d := 61) ho rfl (by rw [hb.size]; decide) hw (v := .int .u8 ((hexB (m / 16)).toNat : Int)) ?_ rfl (hS.beside (by show (4 : Nat) ∉ ([10, 11] : List Nat); decide) (by intro s hs; simp only [chainQ17, List.mem_cons, List.not_mem_nil, or_false] at hs; subst hs; show (9 : Nat) ≠ 4; decide) _)
  obtain ⟨kk, hkk⟩ : ∃ x : Nat, m / 16 = x := ⟨_, rfl⟩
  rw [hkk] at e60 hk ⊢
  obtain ⟨d, hd⟩ : ∃ d, hexB kk = d := ⟨_, rfl⟩
  rw [hd]
  have hki : (kk : Int) < 16 := by omega
  generalize c.eval = ρ at *
  clear hA hb hW hw ho hS hcl hli
  go_simp
  rw [← hd]
  unfold hexB
  rw [List.getD_eq_getElem?_getD, List.getElem?_eq_getElem (by simpa using hk)]
  rfl

set_option maxRecDepth 10000 in
theorem oQ17_5 : stepQ17 base n m v xs w0 Q 5 := by
  intro l c w hb hW hli hcl hA hS
  have ho : RQ17[5]? = some ({ dst := some 62, op := Op.move (Operand.tmp 3), type := 9, pos := "ref.go:247", after := #[], guard := none } : Oper) := by kernel_rfl
  have hw : Region.wanted _ (yielded RQ17 c.tmps) = true := want_none (o := ({ dst := some 62, op := Op.move (Operand.tmp 3), type := 9, pos := "ref.go:247", after := #[], guard := none } : Oper)) rfl
  have e3 := hb.t3
  have ec : ∀ v, c.eval (.const v) = v := fun _ => rfl
  have ef : ∀ f, c.eval (.func f) = .func (.func f) #[] #[] := fun _ => rfl
  refine steps_value (d := 62) ho rfl (by rw [hb.size]; decide) hw (v := .string ⟨#[48, 49, 50, 51, 52, 53, 54, 55, 56, 57, 97, 98, 99, 100, 101, 102]⟩) ?_ rfl (hS.beside (by show (5 : Nat) ∉ ([10, 11] : List Nat); decide) (by intro s hs; simp only [chainQ17, List.mem_cons, List.not_mem_nil, or_false] at hs; subst hs; show (9 : Nat) ≠ 5; decide) _)
  generalize c.eval = ρ at *
  clear hA hb hW hw ho hS hcl hli
  go_simp

set_option maxRecDepth 10000 in
theorem oQ17_6 : stepQ17 base n m v xs w0 Q 6 := by
  intro l c w hb hW hli hcl hA hS
  have ho : RQ17[6]? = some ({ dst := some 63, op := Op.move (Operand.tmp 6), type := 5, pos := "ref.go:247", after := #[], guard := none } : Oper) := by kernel_rfl
  have hw : Region.wanted _ (yielded RQ17 c.tmps) = true := want_none (o := ({ dst := some 63, op := Op.move (Operand.tmp 6), type := 5, pos := "ref.go:247", after := #[], guard := none } : Oper)) rfl
  have e6 := hb.t6
  have ec : ∀ v, c.eval (.const v) = v := fun _ => rfl
  have ef : ∀ f, c.eval (.func f) = .func (.func f) #[] #[] := fun _ => rfl
  refine steps_value (d := 63) ho rfl (by rw [hb.size]; decide) hw (v := .int .u8 (m : Int)) ?_ rfl (hS.beside (by show (6 : Nat) ∉ ([10, 11] : List Nat); decide) (by intro s hs; simp only [chainQ17, List.mem_cons, List.not_mem_nil, or_false] at hs; subst hs; show (9 : Nat) ≠ 6; decide) _)
  generalize c.eval = ρ at *
  clear hA hb hW hw ho hS hcl hli
  go_simp

set_option maxRecDepth 10000 in
theorem oQ17_7 : stepQ17 base n m v xs w0 Q 7 := by
  intro l c w hb hW hli hcl hA hS
  have ho : RQ17[7]? = some ({ dst := some 64, op := Op.binOp BinOp.rem 5 (Operand.tmp 63) (Operand.const (Value.int IntKind.u8 16)) 5, type := 5, pos := "ref.go:247", after := #[{ on := 6, ground := Ground.data }], guard := none } : Oper) := by kernel_rfl
  have hw : Region.wanted _ (yielded RQ17 c.tmps) = true := want_none (o := ({ dst := some 64, op := Op.binOp BinOp.rem 5 (Operand.tmp 63) (Operand.const (Value.int IntKind.u8 16)) 5, type := 5, pos := "ref.go:247", after := #[{ on := 6, ground := Ground.data }], guard := none } : Oper)) rfl
  have e63 : c.eval (.tmp 63) = .int .u8 (m : Int) := by have h := (hA 6 (by decide)).2; rw [val_eq (show slotOf RQ17 6 = some 63 by kernel_rfl)] at h; exact h
  have ec : ∀ v, c.eval (.const v) = v := fun _ => rfl
  have ef : ∀ f, c.eval (.func f) = .func (.func f) #[] #[] := fun _ => rfl
  have hm := rem_16 m hW.small
  refine steps_value (d := 64) ho rfl (by rw [hb.size]; decide) hw (v := .int .u8 ((m % 16 : Nat) : Int)) ?_ rfl (hS.beside (by show (7 : Nat) ∉ ([10, 11] : List Nat); decide) (by intro s hs; simp only [chainQ17, List.mem_cons, List.not_mem_nil, or_false] at hs; subst hs; show (9 : Nat) ≠ 7; decide) _)
  generalize c.eval = ρ at *
  clear hA hb hW hw ho hS hcl hli
  go_simp

set_option maxRecDepth 10000 in
theorem oQ17_8 : stepQ17 base n m v xs w0 Q 8 := by
  intro l c w hb hW hli hcl hA hS
  have ho : RQ17[8]? = some ({ dst := some 65, op := Op.index 9 (Operand.tmp 62) (Operand.tmp 64), type := 5, pos := "ref.go:247", after := #[{ on := 5, ground := Ground.data }, { on := 7, ground := Ground.data }], guard := none } : Oper) := by kernel_rfl
  have hw : Region.wanted _ (yielded RQ17 c.tmps) = true := want_none (o := ({ dst := some 65, op := Op.index 9 (Operand.tmp 62) (Operand.tmp 64), type := 5, pos := "ref.go:247", after := #[{ on := 5, ground := Ground.data }, { on := 7, ground := Ground.data }], guard := none } : Oper)) rfl
  have e62 : c.eval (.tmp 62) = .string ⟨#[48, 49, 50, 51, 52, 53, 54, 55, 56, 57, 97, 98, 99, 100, 101, 102]⟩ := by have h := (hA 5 (by decide)).2; rw [val_eq (show slotOf RQ17 5 = some 62 by kernel_rfl)] at h; exact h
  have e64 : c.eval (.tmp 64) = .int .u8 ((m % 16 : Nat) : Int) := by have h := (hA 7 (by decide)).2; rw [val_eq (show slotOf RQ17 7 = some 64 by kernel_rfl)] at h; exact h
  have ec : ∀ v, c.eval (.const v) = v := fun _ => rfl
  have ef : ∀ f, c.eval (.func f) = .func (.func f) #[] #[] := fun _ => rfl
  have hm := hW.small
  have hk : m % 16 < 16 := by omega
  refine steps_value (d := 65) ho rfl (by rw [hb.size]; decide) hw (v := .int .u8 ((hexB (m % 16)).toNat : Int)) ?_ rfl (hS.beside (by show (8 : Nat) ∉ ([10, 11] : List Nat); decide) (by intro s hs; simp only [chainQ17, List.mem_cons, List.not_mem_nil, or_false] at hs; subst hs; show (9 : Nat) ≠ 8; decide) _)
  obtain ⟨kk, hkk⟩ : ∃ x : Nat, m % 16 = x := ⟨_, rfl⟩
  rw [hkk] at e64 hk ⊢
  obtain ⟨d, hd⟩ : ∃ d, hexB kk = d := ⟨_, rfl⟩
  rw [hd]
  have hki : (kk : Int) < 16 := by omega
  generalize c.eval = ρ at *
  clear hA hb hW hw ho hS hcl hli
  go_simp
  rw [← hd]
  unfold hexB
  rw [List.getD_eq_getElem?_getD, List.getElem?_eq_getElem (by simpa using hk)]
  rfl

set_option maxRecDepth 10000 in
theorem oQ17_9 : stepQ17 base n m v xs w0 Q 9 := by
  intro l c w hb hW hli hcl hA hS
  have ho : RQ17[9]? = some ({ dst := some 66, op := Op.buildSlice 49 6 #[(0, Operand.const (Value.int IntKind.u8 92)), (1, Operand.const (Value.int IntKind.u8 117)), (2, Operand.const (Value.int IntKind.u8 48)), (3, Operand.const (Value.int IntKind.u8 48)), (4, Operand.tmp 61), (5, Operand.tmp 65)], type := 49, pos := "ref.go:247", after := #[{ on := 4, ground := Ground.data }, { on := 8, ground := Ground.data }], guard := none } : Oper) := by kernel_rfl
  have hw : Region.wanted _ (yielded RQ17 c.tmps) = true := want_none (o := ({ dst := some 66, op := Op.buildSlice 49 6 #[(0, Operand.const (Value.int IntKind.u8 92)), (1, Operand.const (Value.int IntKind.u8 117)), (2, Operand.const (Value.int IntKind.u8 48)), (3, Operand.const (Value.int IntKind.u8 48)), (4, Operand.tmp 61), (5, Operand.tmp 65)], type := 49, pos := "ref.go:247", after := #[{ on := 4, ground := Ground.data }, { on := 8, ground := Ground.data }], guard := none } : Oper)) rfl
  have e61 : c.eval (.tmp 61) = .int .u8 ((hexB (m / 16)).toNat : Int) := by have h := (hA 4 (by decide)).2; rw [val_eq (show slotOf RQ17 4 = some 61 by kernel_rfl)] at h; exact h
  have e65 : c.eval (.tmp 65) = .int .u8 ((hexB (m % 16)).toNat : Int) := by have h := (hA 8 (by decide)).2; rw [val_eq (show slotOf RQ17 8 = some 65 by kernel_rfl)] at h; exact h
  have ec : ∀ v, c.eval (.const v) = v := fun _ => rfl
  have ef : ∀ f, c.eval (.func f) = .func (.func f) #[] #[] := fun _ => rfl
  refine steps_value (d := 66) ho rfl (by rw [hb.size]; decide) hw (v := .slice (some ⟨w.heap.size, 0, none⟩) 6 6) (w' := w.alloc (.cells (byteCells [92, 117, 48, 48, hexB (m / 16), hexB (m % 16)]).toArray 5)) ?_ trivial (hS.built (apartQ17 base n m v xs w0) (s := (9, [92, 117, 48, 48, hexB (m / 16), hexB (m % 16)])) (by simp only [chainQ17, List.mem_cons, List.not_mem_nil, or_false]))
  generalize c.eval = ρ at *
  clear hA hb hW hw ho hS hcl hli
  go_simp
  rfl

set_option maxRecDepth 10000 in
theorem oQ17_10 : stepQ17 base n m v xs w0 Q 10 := by
  intro l c w hb hW hli hcl hA hS
  have ho : RQ17[10]? = some ({ dst := some 67, op := Op.call { callee := Callee.builtin Builtin.append, args := #[Operand.tmp 57, Operand.tmp 66], argTypes := #[49, 49] }, type := 49, pos := "ref.go:247", after := #[{ on := 0, ground := Ground.data }, { on := 9, ground := Ground.data }], guard := none } : Oper) := by kernel_rfl
  have hw : Region.wanted _ (yielded RQ17 c.tmps) = true := want_none (o := ({ dst := some 67, op := Op.call { callee := Callee.builtin Builtin.append, args := #[Operand.tmp 57, Operand.tmp 66], argTypes := #[49, 49] }, type := 49, pos := "ref.go:247", after := #[{ on := 0, ground := Ground.data }, { on := 9, ground := Ground.data }], guard := none } : Oper)) rfl
  have e57 : c.eval (.tmp 57) = v := by have h := (hA 0 (by decide)).2; rw [val_eq (show slotOf RQ17 0 = some 57 by kernel_rfl)] at h; exact h
  have e66 : c.eval (.tmp 66) = val RQ17 c 9 := (val_eq (show slotOf RQ17 9 = some 66 by kernel_rfl)).symm
  have ec : ∀ v, c.eval (.const v) = v := fun _ => rfl
  have ef : ∀ f, c.eval (.func f) = .func (.func f) #[] #[] := fun _ => rfl
  obtain ⟨ht, hsd⟩ := hS.at (j := 0) (by show (0 : Nat) < 2; decide) hli (.inl rfl)
  have hB : base ≤ w.heap.size := Nat.le_trans hW.low ht.grown.size
  have hown := ht.own
  refine steps_law (d := 67) ho rfl (by rw [hb.size]; decide) fun K hK => ?_
  rw [if_pos hw]
  obtain ⟨t, ht1, hc⟩ := hsd (9, [92, 117, 48, 48, hexB (m / 16), hexB (m % 16)]) (by simp only [chainQ17, List.mem_cons, List.not_mem_nil, or_false]) (hA 9 (by decide)).1
  refine chain_row (.tmp 57) (.tmp 66) rfl e57 (e66.trans ht1) hown hc (by have := hW.few; show n + _ + 6 ≤ _; simp [chainQ17, Chain.sofar]; omega) hB fun v' w' ht2 => hK v' w' trivial (hS.on (apartQ17 base n m v xs w0) (j := 0) (by show (0 : Nat) < 2; decide) hli (.inl rfl) ht2)

set_option maxRecDepth 10000 in
theorem oQ17_11 : stepQ17 base n m v xs w0 Q 11 := by
  intro l c w hb hW hli hcl hA hS
  have ho : RQ17[11]? = some ({ dst := some 4, op := Op.assign (Operand.tmp 67), type := 49, pos := "ref.go:247", after := #[{ on := 10, ground := Ground.data }, { on := 10, ground := Ground.chain }, { on := 0, ground := Ground.phase }, { on := 1, ground := Ground.phase }, { on := 2, ground := Ground.phase }, { on := 3, ground := Ground.phase }, { on := 4, ground := Ground.phase }, { on := 5, ground := Ground.phase }, { on := 6, ground := Ground.phase }, { on := 7, ground := Ground.phase }, { on := 8, ground := Ground.phase }, { on := 9, ground := Ground.phase }, { on := 10, ground := Ground.phase }], guard := none } : Oper) := by kernel_rfl
  have hw : Region.wanted _ (yielded RQ17 c.tmps) = true := want_none (o := ({ dst := some 4, op := Op.assign (Operand.tmp 67), type := 49, pos := "ref.go:247", after := #[{ on := 10, ground := Ground.data }, { on := 10, ground := Ground.chain }, { on := 0, ground := Ground.phase }, { on := 1, ground := Ground.phase }, { on := 2, ground := Ground.phase }, { on := 3, ground := Ground.phase }, { on := 4, ground := Ground.phase }, { on := 5, ground := Ground.phase }, { on := 6, ground := Ground.phase }, { on := 7, ground := Ground.phase }, { on := 8, ground := Ground.phase }, { on := 9, ground := Ground.phase }, { on := 10, ground := Ground.phase }], guard := none } : Oper)) rfl
  have e67 : c.eval (.tmp 67) = val RQ17 c 10 := (val_eq (show slotOf RQ17 10 = some 67 by kernel_rfl)).symm
  have ec : ∀ v, c.eval (.const v) = v := fun _ => rfl
  have ef : ∀ f, c.eval (.func f) = .func (.func f) #[] #[] := fun _ => rfl
  obtain ⟨ht, hsd⟩ := hS.at (j := 1) (by show (1 : Nat) < 2; decide) hli (.inr (hA 10 (by decide)).1)
  have hB : base ≤ w.heap.size := Nat.le_trans hW.low ht.grown.size
  have hown := ht.own
  have ht2 := told_nil hown
  refine steps_value (d := 4) ho rfl (by rw [hb.size]; decide) hw (v := val RQ17 c 10) ?_ trivial (hS.on (apartQ17 base n m v xs w0) (j := 1) (by show (1 : Nat) < 2; decide) hli (.inr (hA 10 (by decide)).1) ht2)
  generalize c.eval = ρ at *
  clear hA hb hW hw ho hS hcl hli ht hsd hB hown ht2
  go_simp

end
set_option maxRecDepth 100000 in
theorem allQ17 (base n m : Nat) (v : Value) (xs : List Value) (w0 : World) (Q : Exit → Act → World → Prop) : ∀ i, i < 12 → stepQ17 base n m v xs w0 Q i := by
  intro i hi
  match i, hi with
  | 0, _ => exact oQ17_0 base n m v xs w0 Q
  | 1, _ => exact oQ17_1 base n m v xs w0 Q
  | 2, _ => exact oQ17_2 base n m v xs w0 Q
  | 3, _ => exact oQ17_3 base n m v xs w0 Q
  | 4, _ => exact oQ17_4 base n m v xs w0 Q
  | 5, _ => exact oQ17_5 base n m v xs w0 Q
  | 6, _ => exact oQ17_6 base n m v xs w0 Q
  | 7, _ => exact oQ17_7 base n m v xs w0 Q
  | 8, _ => exact oQ17_8 base n m v xs w0 Q
  | 9, _ => exact oQ17_9 base n m v xs w0 Q
  | 10, _ => exact oQ17_10 base n m v xs w0 Q
  | 11, _ => exact oQ17_11 base n m v xs w0 Q

theorem regionQ17 (base n m : Nat) (v : Value) (xs : List Value) (w0 : World) (Q : Exit → Act → World → Prop) (frame : Act) (hb : BQ17 base n m v xs w0 frame) (h4 : frame.eval (.tmp 4) = v) (hW : WQ17 base n m v xs w0)
    (hQ : ∀ c w, Same RQ17 frame c → Told base n xs v w0 ((chainQ17 base n m v xs w0).sofar 2) (c.eval (.tmp 4)) w → Q .normal c w) : (Code.region 17 RQ17 true).wp Tryz.prog Q frame w0 := by
  refine writes_rule (A := ancQ17) (G := gQ17 base n m v xs w0) (S := (chainQ17 base n m v xs w0).FarK 11 base n v xs w0) (by kernel_rfl) (by rw [hb.size]; kernel_rfl) (Chain.FarK.start hW.own (by show 11 ∈ ([10, 11] : List Nat); decide) ((val_eq (show slotOf RQ17 11 = some 4 by kernel_rfl)).trans h4)) ?_ ?_
  · intro i hi l c w hS hli hcl hA hF
    exact allQ17 base n m v xs w0 Q i (by rwa [show RQ17.size = 12 by kernel_rfl] at hi) l c w ⟨(same_eval hS (by kernel_rfl)).trans hb.t3, (same_eval hS (by kernel_rfl)).trans hb.t6, (by rw [← hb.size]; exact hS.2.1)⟩ hW hli hcl hA hF
  · intro l c w hS hall hF
    refine hQ c w hS ?_
    have := hF.end (fun j hj => ?_)
    · have e : (chainQ17 base n m v xs w0).row v (val RQ17 c) (chainQ17 base n m v xs w0).pos.length = c.eval (.tmp 4) := val_eq (show slotOf RQ17 11 = some 4 by kernel_rfl)
      rw [e] at this
      exact this
    · have hm := Chain.get_mem hj
      refine (hall _ ?_).1
      rw [show RQ17.size = 12 by kernel_rfl]
      have : ∀ x ∈ (chainQ17 base n m v xs w0).pos, x < 12 := by show ∀ x ∈ ([10, 11] : List Nat), x < 12; decide
      exact this _ hm
end Go.Proofs.YtbjcdpenfijfoaaGreatDoor
