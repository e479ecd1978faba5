/- One value is put behind those that were: the statement of Map, operation by operation, in whatever order. -/
import Derived.Test.YtbpmhgcjefpigaaGreatDoorJoin10
namespace Go.Proofs.YtbpmhgcjefpigaaGreatDoor
open Go.RowKit Go.Shelf Go.WideShapes
set_option linter.unusedVariables false
set_option linter.unusedSimpArgs false
noncomputable def RK11 : Array Oper := regionAt Tryz.f50 11
def ancK11 (i : Nat) : List Nat := ([[], [0], [], [], [2, 3], [2, 3, 4], [2, 3, 4, 5], [2, 3, 4, 5, 6], [0, 1, 2, 3, 4, 5, 6, 7], [0, 1, 2, 3, 4, 5, 6, 7, 8], [0, 1, 2, 3, 4, 5, 6, 7, 8, 9]] : List (List Nat)).getD i []
def gK11 (bx b off kl kc p n : Nat) (kv : Value) (p0 : Int) (p1 : Bool) (p2 : Int) (p3 : ByteArray) (pa : Option Addr) (pn pc : Nat) (pb : Option Addr) (pm pd : Nat) (i : Nat) (v : Value) : Prop :=
  ([fun v => v = (.pointer (some ⟨bx, 5, none⟩)), fun v => v = (kv), fun v => v = (.slice (some ⟨b, off, none⟩) kl kc), fun v => v = (.int .i64 (p : Int)), fun v => v = (.pointer (some ⟨b, off + p * 6, none⟩)), fun v => v = (.agg #[.int .i64 p0, .bool p1, .int .i64 p2, .string p3, .slice pa pn pc, .slice pb pm pd]), fun v => ∃ c0 c1 c2 c3 c4 c5, v = .agg #[c0, c1, c2, c3, c4, c5] ∧ ∀ u ∈ [c0, c1, c2, c3, c4, c5], u.oneCell' = true, fun v => ∃ t, v = .slice (some ⟨t, 0, none⟩) 1 1, fun v => ∃ g cap, v = .slice (some ⟨g, 0, none⟩) (n + 1) cap, fun v => v = (.pointer (some ⟨bx, 5, none⟩)), fun _ => True] : List (Value → Prop)).getD i (fun _ => True) v
structure SK11 (bx b off kl kc p n : Nat) (kv : Value) (xs : List Value) (p0 : Int) (p1 : Bool) (p2 : Int) (p3 : ByteArray) (pa : Option Addr) (pn pc : Nat) (pb : Option Addr) (pm pd : Nat) (T : Tree) (base : Nat) (w0 : World) (l : Nat → Bool) (vs : Nat → Value) (w : World) : Prop where
  ahead : l 8 = false → Below w0.heap.size w0 w
  copied : l 8 = false → l 6 = true → LiesR w0.heap.size w.heap.size w (vs 6) T
  laid : l 8 = false → l 7 = true → ∃ t c0 c1 c2 c3 c4 c5, vs 7 = .slice (some ⟨t, 0, none⟩) 1 1 ∧ vs 6 = .agg #[c0, c1, c2, c3, c4, c5] ∧ (∀ j u, [c0, c1, c2, c3, c4, c5][j]? = some u → w.cell? ⟨t, j, none⟩ = some u) ∧ (∀ u ∈ [c0, c1, c2, c3, c4, c5], u.oneCell' = true)
  done : l 8 = true → l 10 = false → ∃ c0 c1 c2 c3 c4 c5 hi, vs 6 = .agg #[c0, c1, c2, c3, c4, c5] ∧ w.ownsRow base 26 6 (vs 8) (n + 1) (xs ++ [c0, c1, c2, c3, c4, c5]) ∧ w0.grownBy w kv.ownBlock ∧ LiesR w0.heap.size hi w (vs 6) T ∧ hi ≤ w.heap.size ∧ ((vs 8).ownBlock = kv.ownBlock ∨ ∃ g, (vs 8).ownBlock = some g ∧ hi ≤ g)
  last : l 10 = true → ∃ W c0 c1 c2 c3 c4 c5 hi, vs 6 = .agg #[c0, c1, c2, c3, c4, c5] ∧ W.ownsRow base 26 6 (vs 8) (n + 1) (xs ++ [c0, c1, c2, c3, c4, c5]) ∧ w0.grownBy W kv.ownBlock ∧ LiesR w0.heap.size hi W (vs 6) T ∧ hi ≤ W.heap.size ∧ ((vs 8).ownBlock = kv.ownBlock ∨ ∃ g, (vs 8).ownBlock = some g ∧ hi ≤ g) ∧ w = W.setCell ⟨bx, 5, none⟩ (vs 8)
theorem SK11.lift {bx b off kl kc p n : Nat} {kv : Value} {xs : List Value} {p0 : Int} {p1 : Bool} {p2 : Int} {p3 : ByteArray} {pa : Option Addr} {pn pc : Nat} {pb : Option Addr} {pm pd : Nat} {T : Tree} {base : Nat} {w0 : World} {l : Nat → Bool} {vs : Nat → Value} {w : World} (h : SK11 bx b off kl kc p n kv xs p0 p1 p2 p3 pa pn pc pb pm pd T base w0 l vs w) {i : Nat} (v : Value) (h6 : i ≠ 6) (h7 : i ≠ 7) (h8 : i ≠ 8) (h10 : i ≠ 10) : SK11 bx b off kl kc p n kv xs p0 p1 p2 p3 pa pn pc pb pm pd T base w0 (upd l i true) (upd vs i v) w := by
  have e6 : upd l i true 6 = l 6 := upd_other _ _ (Ne.symm h6)
  have e7 : upd l i true 7 = l 7 := upd_other _ _ (Ne.symm h7)
  have e8 : upd l i true 8 = l 8 := upd_other _ _ (Ne.symm h8)
  have e10 : upd l i true 10 = l 10 := upd_other _ _ (Ne.symm h10)
  have f6 : upd vs i v 6 = vs 6 := upd_other _ _ (Ne.symm h6)
  have f7 : upd vs i v 7 = vs 7 := upd_other _ _ (Ne.symm h7)
  have f8 : upd vs i v 8 = vs 8 := upd_other _ _ (Ne.symm h8)
  exact ⟨by rw [e8]; exact h.ahead, by rw [e8, e6, f6]; exact h.copied, by rw [e8, e7, f7, f6]; exact h.laid, by rw [e8, e10, f8, f6]; exact h.done, by rw [e10, f8, f6]; exact h.last⟩
structure BK11 (bx b off kl kc p n : Nat) (kv : Value) (xs : List Value) (p0 : Int) (p1 : Bool) (p2 : Int) (p3 : ByteArray) (pa : Option Addr) (pn pc : Nat) (pb : Option Addr) (pm pd : Nat) (T : Tree) (base : Nat) (w0 : World) (c : Act) : Prop where
  t1 : c.eval (.tmp 1) = .slice (some ⟨b, off, none⟩) kl kc
  t6 : c.eval (.tmp 6) = .pointer (some ⟨bx, 0, none⟩)
  t8 : c.eval (.tmp 8) = .int .i64 (p : Int)
  size : c.tmps.size = 64
structure WK11 (bx b off kl kc p n : Nat) (kv : Value) (xs : List Value) (p0 : Int) (p1 : Bool) (p2 : Int) (p3 : ByteArray) (pa : Option Addr) (pn pc : Nat) (pb : Option Addr) (pm pd : Nat) (T : Tree) (base : Nat) (w0 : World) : Prop where
  box : w0.cell? ⟨bx, 5, none⟩ = some kv
  free : w0.frozen? ⟨bx, 5, none⟩ = false
  x0 : w0.cell? ⟨b, off + p * 6, none⟩ = some (.int .i64 p0)
  x1 : w0.cell? ⟨b, off + p * 6 + 1, none⟩ = some (.bool p1)
  x2 : w0.cell? ⟨b, off + p * 6 + 2, none⟩ = some (.int .i64 p2)
  x3 : w0.cell? ⟨b, off + p * 6 + 3, none⟩ = some (.string p3)
  x4 : w0.cell? ⟨b, off + p * 6 + 4, none⟩ = some (.slice pa pn pc)
  x5 : w0.cell? ⟨b, off + p * 6 + 5, none⟩ = some (.slice pb pm pd)
  lt : p < kl
  le : kl ≤ 9223372036854775807
  own : w0.ownsRow base 26 6 kv n xs
  few : n ≤ 1000000
  low : base ≤ w0.heap.size
  under : bx < base
  lies : Lies w0.heap.size w0 (.agg #[.int .i64 p0, .bool p1, .int .i64 p2, .string p3, .slice pa pn pc, .slice pb pm pd]) T
  small : T.total ≤ 1000000
def stepK11 (bx b off kl kc p n : Nat) (kv : Value) (xs : List Value) (p0 : Int) (p1 : Bool) (p2 : Int) (p3 : ByteArray) (pa : Option Addr) (pn pc : Nat) (pb : Option Addr) (pm pd : Nat) (T : Tree) (base : Nat) (w0 : World) (Q : Exit → Act → World → Prop) (i : Nat) : Prop := ∀ (l : Nat → Bool) (c : Act) (w : World), (BK11 bx b off kl kc p n kv xs p0 p1 p2 p3 pa pn pc pb pm pd T base w0 c) → (WK11 bx b off kl kc p n kv xs p0 p1 p2 p3 pa pn pc pb pm pd T base w0) → (l i = false) → (∀ k, l k = true → ∀ j ∈ ancK11 k, l j = true) → (∀ j ∈ ancK11 i, l j = true ∧ gK11 bx b off kl kc p n kv p0 p1 p2 p3 pa pn pc pb pm pd j (val RK11 c j)) → (SK11 bx b off kl kc p n kv xs p0 p1 p2 p3 pa pn pc pb pm pd T base w0 l (val RK11 c) w) → Steps' Tryz.prog RK11 Q (gK11 bx b off kl kc p n kv p0 p1 p2 p3 pa pn pc pb pm pd) (SK11 bx b off kl kc p n kv xs p0 p1 p2 p3 pa pn pc pb pm pd T base w0) i l c w
theorem wnK11 {i : Nat} {o : Oper} {c : Act} (ho : RK11[i]? = some o) (h : o.guard = none) : Region.wanted o (yielded RK11 c.tmps) = true := want_none h
section
variable (bx b off kl kc p n : Nat) (kv : Value) (xs : List Value) (p0 : Int) (p1 : Bool) (p2 : Int) (p3 : ByteArray) (pa : Option Addr) (pn pc : Nat) (pb : Option Addr) (pm pd : Nat) (T : Tree) (base : Nat) (w0 : World) (Q : Exit → Act → World → Prop)
set_option maxRecDepth 10000 in
theorem oK11_0 : stepK11 bx b off kl kc p n kv xs p0 p1 p2 p3 pa pn pc pb pm pd T base w0 Q 0 := by
  intro l c w hb hW hli hcl hA hS
  have ho : RK11[0]? = some ({ dst := some 52, op := Op.fieldAddr 26 (Operand.tmp 6) 5, type := 0, pos := "value.go:39", after := #[], guard := none } : Oper) := by kernel_rfl
  have e6 := hb.t6
  have hw := wnK11 (c := c) ho rfl
  have ec : ∀ v, c.eval (.const v) = v := fun _ => rfl
  have ef : ∀ f, c.eval (.func f) = .func (.func f) #[] #[] := fun _ => rfl
  have h8 : l 8 = false := by
    cases h : l 8 with
    | false => rfl
    | true => have := hcl 8 h 0 (by decide); rw [hli] at this; cases this
  refine steps_value (d := 52) ho rfl (by rw [hb.size]; decide) hw (v := .pointer (some ⟨bx, 5, none⟩)) ?_ rfl (hS.lift _ (by decide) (by decide) (by decide) (by decide))
  generalize c.eval = ρ at *
  clear hA hb hW hw ho hS hcl hli
  go_simp
set_option maxRecDepth 10000 in
theorem oK11_1 : stepK11 bx b off kl kc p n kv xs p0 p1 p2 p3 pa pn pc pb pm pd T base w0 Q 1 := by
  intro l c w hb hW hli hcl hA hS
  have ho : RK11[1]? = some ({ dst := some 53, op := Op.load 24 (Operand.tmp 52), type := 24, pos := "value.go:39", after := #[{ on := 0, ground := Ground.data }], guard := none } : Oper) := by kernel_rfl
  have e52 : c.eval (.tmp 52) = .pointer (some ⟨bx, 5, none⟩) := by have h := (hA 0 (by decide)).2; rw [val_eq (show slotOf RK11 0 = some 52 by kernel_rfl)] at h; exact h
  have hw := wnK11 (c := c) ho rfl
  have ec : ∀ v, c.eval (.const v) = v := fun _ => rfl
  have ef : ∀ f, c.eval (.func f) = .func (.func f) #[] #[] := fun _ => rfl
  have h8 : l 8 = false := by
    cases h : l 8 with
    | false => rfl
    | true => have := hcl 8 h 1 (by decide); rw [hli] at this; cases this
  have hc := (hS.ahead h8).cell (p := ⟨bx, 5, none⟩) (lt_of_cell hW.box)
  rw [hW.box] at hc
  refine steps_value (d := 53) ho rfl (by rw [hb.size]; decide) hw (v := kv) ?_ rfl (hS.lift _ (by decide) (by decide) (by decide) (by decide))
  generalize c.eval = ρ at *
  clear hA hb hW hw ho hS hcl hli
  go_simp
set_option maxRecDepth 10000 in
theorem oK11_2 : stepK11 bx b off kl kc p n kv xs p0 p1 p2 p3 pa pn pc pb pm pd T base w0 Q 2 := by
  intro l c w hb hW hli hcl hA hS
  have ho : RK11[2]? = some ({ dst := some 54, op := Op.move (Operand.tmp 1), type := 24, pos := "value.go:39", after := #[], guard := none } : Oper) := by kernel_rfl
  have e1 := hb.t1
  have hw := wnK11 (c := c) ho rfl
  have ec : ∀ v, c.eval (.const v) = v := fun _ => rfl
  have ef : ∀ f, c.eval (.func f) = .func (.func f) #[] #[] := fun _ => rfl
  have h8 : l 8 = false := by
    cases h : l 8 with
    | false => rfl
    | true => have := hcl 8 h 2 (by decide); rw [hli] at this; cases this
  refine steps_value (d := 54) ho rfl (by rw [hb.size]; decide) hw (v := .slice (some ⟨b, off, none⟩) kl kc) ?_ rfl (hS.lift _ (by decide) (by decide) (by decide) (by decide))
  generalize c.eval = ρ at *
  clear hA hb hW hw ho hS hcl hli
  go_simp
set_option maxRecDepth 10000 in
theorem oK11_3 : stepK11 bx b off kl kc p n kv xs p0 p1 p2 p3 pa pn pc pb pm pd T base w0 Q 3 := by
  intro l c w hb hW hli hcl hA hS
  have ho : RK11[3]? = some ({ dst := some 55, op := Op.move (Operand.tmp 8), type := 3, pos := "value.go:39", after := #[], guard := none } : Oper) := by kernel_rfl
  have e8 := hb.t8
  have hw := wnK11 (c := c) ho rfl
  have ec : ∀ v, c.eval (.const v) = v := fun _ => rfl
  have ef : ∀ f, c.eval (.func f) = .func (.func f) #[] #[] := fun _ => rfl
  have h8 : l 8 = false := by
    cases h : l 8 with
    | false => rfl
    | true => have := hcl 8 h 3 (by decide); rw [hli] at this; cases this
  refine steps_value (d := 55) ho rfl (by rw [hb.size]; decide) hw (v := .int .i64 (p : Int)) ?_ rfl (hS.lift _ (by decide) (by decide) (by decide) (by decide))
  generalize c.eval = ρ at *
  clear hA hb hW hw ho hS hcl hli
  go_simp
set_option maxRecDepth 10000 in
theorem oK11_4 : stepK11 bx b off kl kc p n kv xs p0 p1 p2 p3 pa pn pc pb pm pd T base w0 Q 4 := by
  intro l c w hb hW hli hcl hA hS
  have ho : RK11[4]? = some ({ dst := some 56, op := Op.indexAddr 24 (Operand.tmp 54) (Operand.tmp 55), type := 0, pos := "value.go:39", after := #[{ on := 2, ground := Ground.data }, { on := 3, ground := Ground.data }], guard := none } : Oper) := by kernel_rfl
  have e54 : c.eval (.tmp 54) = .slice (some ⟨b, off, none⟩) kl kc := by have h := (hA 2 (by decide)).2; rw [val_eq (show slotOf RK11 2 = some 54 by kernel_rfl)] at h; exact h
  have e55 : c.eval (.tmp 55) = .int .i64 (p : Int) := by have h := (hA 3 (by decide)).2; rw [val_eq (show slotOf RK11 3 = some 55 by kernel_rfl)] at h; exact h
  have hw := wnK11 (c := c) ho rfl
  have ec : ∀ v, c.eval (.const v) = v := fun _ => rfl
  have ef : ∀ f, c.eval (.func f) = .func (.func f) #[] #[] := fun _ => rfl
  have h8 : l 8 = false := by
    cases h : l 8 with
    | false => rfl
    | true => have := hcl 8 h 4 (by decide); rw [hli] at this; cases this
  have h1 := hW.lt
  have h2 := hW.le
  refine steps_value (d := 56) ho rfl (by rw [hb.size]; decide) hw (v := .pointer (some ⟨b, off + p * 6, none⟩)) ?_ rfl (hS.lift _ (by decide) (by decide) (by decide) (by decide))
  generalize c.eval = ρ at *
  clear hA hb hW hw ho hS hcl hli
  go_simp
set_option maxRecDepth 10000 in
theorem oK11_5 : stepK11 bx b off kl kc p n kv xs p0 p1 p2 p3 pa pn pc pb pm pd T base w0 Q 5 := by
  intro l c w hb hW hli hcl hA hS
  have ho : RK11[5]? = some ({ dst := some 57, op := Op.load 26 (Operand.tmp 56), type := 26, pos := "value.go:39", after := #[{ on := 4, ground := Ground.data }], guard := none } : Oper) := by kernel_rfl
  have e56 : c.eval (.tmp 56) = .pointer (some ⟨b, off + p * 6, none⟩) := by have h := (hA 4 (by decide)).2; rw [val_eq (show slotOf RK11 4 = some 56 by kernel_rfl)] at h; exact h
  have hw := wnK11 (c := c) ho rfl
  have ec : ∀ v, c.eval (.const v) = v := fun _ => rfl
  have ef : ∀ f, c.eval (.func f) = .func (.func f) #[] #[] := fun _ => rfl
  have h8 : l 8 = false := by
    cases h : l 8 with
    | false => rfl
    | true => have := hcl 8 h 5 (by decide); rw [hli] at this; cases this
  have hc0 := (hS.ahead h8).cell (p := ⟨b, off + p * 6, none⟩) (lt_of_cell hW.x0)
  rw [hW.x0] at hc0
  have hc1 := (hS.ahead h8).cell (p := ⟨b, off + p * 6 + 1, none⟩) (lt_of_cell hW.x1)
  rw [hW.x1] at hc1
  have hc2 := (hS.ahead h8).cell (p := ⟨b, off + p * 6 + 2, none⟩) (lt_of_cell hW.x2)
  rw [hW.x2] at hc2
  have hc3 := (hS.ahead h8).cell (p := ⟨b, off + p * 6 + 3, none⟩) (lt_of_cell hW.x3)
  rw [hW.x3] at hc3
  have hc4 := (hS.ahead h8).cell (p := ⟨b, off + p * 6 + 4, none⟩) (lt_of_cell hW.x4)
  rw [hW.x4] at hc4
  have hc5 := (hS.ahead h8).cell (p := ⟨b, off + p * 6 + 5, none⟩) (lt_of_cell hW.x5)
  rw [hW.x5] at hc5
  refine steps_value (d := 57) ho rfl (by rw [hb.size]; decide) hw (v := .agg #[.int .i64 p0, .bool p1, .int .i64 p2, .string p3, .slice pa pn pc, .slice pb pm pd]) ?_ rfl (hS.lift _ (by decide) (by decide) (by decide) (by decide))
  generalize c.eval = ρ at *
  clear hA hb hW hw ho hS hcl hli
  go_simp
set_option maxRecDepth 10000 in
theorem oK11_6 : stepK11 bx b off kl kc p n kv xs p0 p1 p2 p3 pa pn pc pb pm pd T base w0 Q 6 := by
  intro l c w hb hW hli hcl hA hS
  have ho : RK11[6]? = some ({ dst := some 58, op := Op.call { callee := Callee.value (Operand.func 19), args := #[Operand.tmp 57], argTypes := #[26] }, type := 26, pos := "value.go:39", after := #[{ on := 5, ground := Ground.data }], guard := none } : Oper) := by kernel_rfl
  have e57 : c.eval (.tmp 57) = .agg #[.int .i64 p0, .bool p1, .int .i64 p2, .string p3, .slice pa pn pc, .slice pb pm pd] := by have h := (hA 5 (by decide)).2; rw [val_eq (show slotOf RK11 5 = some 57 by kernel_rfl)] at h; exact h
  have hw := wnK11 (c := c) ho rfl
  have ec : ∀ v, c.eval (.const v) = v := fun _ => rfl
  have ef : ∀ f, c.eval (.func f) = .func (.func f) #[] #[] := fun _ => rfl
  have h8 : l 8 = false := by
    cases h : l 8 with
    | false => rfl
    | true => have := hcl 8 h 6 (by decide); rw [hli] at this; cases this
  have h10 : l 10 = false := by
    cases h : l 10 with
    | false => rfl
    | true => have := hcl 10 h 6 (by decide); rw [hli] at this; cases this
  have hbel := hS.ahead h8
  refine steps_call (d := 58) ho rfl (by rw [hb.size]; decide) hw (f := 19) (args := #[.agg #[.int .i64 p0, .bool p1, .int .i64 p2, .string p3, .slice pa pn pc, .slice pb pm pd]]) ?_ ?_
  · generalize c.eval = ρ at *
    clear hA hb hW hw ho hS hcl hli
    go_simp
  · refine (copy_any T w0.heap.size _ w hbel.size (hW.lies.below hbel) hW.small).mono ?_
    rintro e w' ⟨v', rfl, hl, hb'⟩
    have hl2 : LiesR w0.heap.size w'.heap.size w' v' T := hl.mono hbel.size (Nat.le_refl _)
    refine ⟨v', rfl, ?_, ?_⟩
    · obtain ⟨q0, q1, q2, q3, q4, q5⟩ := T
      simp only [LiesR] at hl
      obtain ⟨ka, kc', la, lc, rfl, -⟩ := hl
      exact ⟨_, _, _, _, _, _, rfl, by simp [Value.oneCell']⟩
    · have a7 : upd l 6 true 7 = false := by
        rw [upd_other _ _ (by decide)]
        cases h : l 7 with
        | false => rfl
        | true => have := hcl 7 h 6 (by decide); rw [hli] at this; cases this
      refine ⟨fun _ => hbel.trans (hb'.mono hbel.size), fun _ _ => by rw [upd_same]; exact hl2, fun _ h => (by rw [a7] at h; cases h), fun h => ?_, fun h => ?_⟩
      · rw [upd_other _ _ (by decide), h8] at h; cases h
      · rw [upd_other _ _ (by decide), h10] at h; cases h
set_option maxRecDepth 10000 in
theorem oK11_7 : stepK11 bx b off kl kc p n kv xs p0 p1 p2 p3 pa pn pc pb pm pd T base w0 Q 7 := by
  intro l c w hb hW hli hcl hA hS
  have ho : RK11[7]? = some ({ dst := some 59, op := Op.buildSlice 24 1 #[(0, Operand.tmp 58)], type := 24, pos := "value.go:39", after := #[{ on := 6, ground := Ground.data }], guard := none } : Oper) := by kernel_rfl
  have e58 : c.eval (.tmp 58) = val RK11 c 6 := (val_eq (show slotOf RK11 6 = some 58 by kernel_rfl)).symm
  have hw := wnK11 (c := c) ho rfl
  have ec : ∀ v, c.eval (.const v) = v := fun _ => rfl
  have ef : ∀ f, c.eval (.func f) = .func (.func f) #[] #[] := fun _ => rfl
  have h8 : l 8 = false := by
    cases h : l 8 with
    | false => rfl
    | true => have := hcl 8 h 7 (by decide); rw [hli] at this; cases this
  have h10 : l 10 = false := by
    cases h : l 10 with
    | false => rfl
    | true => have := hcl 10 h 7 (by decide); rw [hli] at this; cases this
  have hbel := hS.ahead h8
  have h6 : l 6 = true := (hA 6 (by decide)).1
  have hcop := hS.copied h8 h6
  obtain ⟨c0, c1, c2, c3, c4, c5, hv6, hone⟩ := (hA 6 (by decide)).2
  rw [hv6] at e58
  refine steps_value (d := 59) ho rfl (by rw [hb.size]; decide) hw (v := .slice (some ⟨w.heap.size, 0, none⟩) 1 1) (w' := w.alloc (.cells #[c0, c1, c2, c3, c4, c5] 26)) ?_ ⟨_, rfl⟩ ?_
  · have o0 := hone c0 (by simp)
    generalize c.eval = ρ at *
    clear hA hb hW hw ho hS hcl hli hcop
    go_simp
  · have hba : Below w.heap.size w (w.alloc (.cells #[c0, c1, c2, c3, c4, c5] 26)) := (Below.refl _ _).alloc (Nat.le_refl _) _
    refine ⟨fun _ => hbel.alloc hbel.size _, fun _ _ => ?_, fun _ _ => ⟨w.heap.size, c0, c1, c2, c3, c4, c5, by rw [upd_same], by rw [upd_other _ _ (by decide)]; exact hv6, ?_, hone⟩, fun h => ?_, fun h => ?_⟩
    · rw [upd_other _ _ (by decide)]
      exact (hcop.keep (keeps_below hba (Nat.le_refl _))).mono (Nat.le_refl _) hba.size
    · intro j u hj
      exact cell_new _ _ _ j _ (by simpa using hj)
    · rw [upd_other _ _ (by decide), h8] at h; cases h
    · rw [upd_other _ _ (by decide), h10] at h; cases h
set_option maxRecDepth 10000 in
theorem oK11_8 : stepK11 bx b off kl kc p n kv xs p0 p1 p2 p3 pa pn pc pb pm pd T base w0 Q 8 := by
  intro l c w hb hW hli hcl hA hS
  have ho : RK11[8]? = some ({ dst := some 60, op := Op.call { callee := Callee.builtin Builtin.append, args := #[Operand.tmp 53, Operand.tmp 59], argTypes := #[24, 24] }, type := 24, pos := "value.go:39", after := #[{ on := 1, ground := Ground.data }, { on := 7, ground := Ground.data }, { on := 6, ground := Ground.chain }], guard := none } : Oper) := by kernel_rfl
  have e53 : c.eval (.tmp 53) = kv := by have h := (hA 1 (by decide)).2; rw [val_eq (show slotOf RK11 1 = some 53 by kernel_rfl)] at h; exact h
  have e59 : c.eval (.tmp 59) = val RK11 c 7 := (val_eq (show slotOf RK11 7 = some 59 by kernel_rfl)).symm
  have hw := wnK11 (c := c) ho rfl
  have ec : ∀ v, c.eval (.const v) = v := fun _ => rfl
  have ef : ∀ f, c.eval (.func f) = .func (.func f) #[] #[] := fun _ => rfl
  have h10 : l 10 = false := by
    cases h : l 10 with
    | false => rfl
    | true => have := hcl 10 h 8 (by decide); rw [hli] at this; cases this
  have h6 : l 6 = true := (hA 6 (by decide)).1
  have h7 : l 7 = true := (hA 7 (by decide)).1
  obtain ⟨t, c0, c1, c2, c3, c4, c5, ht, hv6, hcell, hone⟩ := hS.laid hli h7
  have hbel := hS.ahead hli
  have hcop := hS.copied hli h6
  obtain ⟨i0, hi, hz0, hz1, hz2⟩ := info_parts Tryz.info26
  have hown : w.ownsRow base 26 6 kv n xs := by
    obtain ⟨g1, ⟨g2, g3⟩ | ⟨g, cap, cur, g2, g3, g4, g5⟩⟩ := hW.own
    · exact ⟨g1, .inl ⟨g2, g3⟩⟩
    · refine ⟨g1, .inr ⟨g, cap, cur, g2, g3, ?_, g5⟩⟩
      have hg : g < w0.heap.size := by
        rcases Nat.lt_or_ge g w0.heap.size with h | h
        · exact h
        · rw [Array.getElem?_eq_none h] at g4; cases g4
      rw [hbel.block g hg]; exact g4
  refine steps_law (d := 60) ho rfl (by rw [hb.size]; decide) fun K hK => ?_
  refine step_append_lies w rfl (.tmp 53) (.tmp 59) 24 rfl base 26 i0 (.agg #[.int .i64 0, .bool false, .int .i64 0, .string ⟨#[]⟩, .slice none 0 0, .slice none 0 0]) 6 88 Tryz.underlying24 hi hz0 hz1 hz2 rfl (by decide) kv n xs e53 hown ⟨t, 0, none⟩ 1 1 [c0, c1, c2, c3, c4, c5] (e59.trans ht) rfl ?_ hone (by decide) (by have := hW.few; unfold maxLen; omega) (by have := hW.few; omega) (Nat.le_trans hW.low hbel.size) w.heap.size rfl ?_
  · intro j u hj
    rw [add_plain, Nat.zero_add]; exact hcell j u hj
  · intro g cap w' g1 g2 g3 g4
    refine hK _ _ ⟨g, cap, rfl⟩ ⟨fun h => ?_, fun h => ?_, fun h => ?_, fun _ _ => ?_, fun h => ?_⟩
    · rw [upd_same] at h; cases h
    · rw [upd_same] at h; cases h
    · rw [upd_same] at h; cases h
    · rw [upd_same, upd_other _ _ (by decide)]
      refine ⟨c0, c1, c2, c3, c4, c5, w.heap.size, hv6, g1, ⟨g2.os.trans hbel.os, g2.tape.trans hbel.tape, g2.output.trans hbel.output, Nat.le_trans hbel.size g2.size, fun k hk hne => (g2.block k (Nat.lt_of_lt_of_le hk hbel.size) hne).trans (hbel.block k hk)⟩, ?_, g2.size, ?_⟩
      · refine hcop.keep fun q o q1 q2 => World.cell?_of_block (g2.block q q2 fun e => ?_)
        have := (hW.own.lt q e.symm).2
        omega
      · rcases g3 with g3 | g3
        · exact .inl (by rw [g3]; rfl)
        · exact .inr ⟨g, rfl, by omega⟩
    · rw [upd_other _ _ (by decide), h10] at h; cases h
set_option maxRecDepth 10000 in
theorem oK11_9 : stepK11 bx b off kl kc p n kv xs p0 p1 p2 p3 pa pn pc pb pm pd T base w0 Q 9 := by
  intro l c w hb hW hli hcl hA hS
  have ho : RK11[9]? = some ({ dst := some 61, op := Op.fieldAddr 26 (Operand.tmp 6) 5, type := 0, pos := "value.go:39", after := #[{ on := 0, ground := Ground.phase }, { on := 1, ground := Ground.phase }, { on := 2, ground := Ground.phase }, { on := 3, ground := Ground.phase }, { on := 4, ground := Ground.phase }, { on := 5, ground := Ground.phase }, { on := 6, ground := Ground.phase }, { on := 7, ground := Ground.phase }, { on := 8, ground := Ground.phase }], guard := none } : Oper) := by kernel_rfl
  have e6 := hb.t6
  have hw := wnK11 (c := c) ho rfl
  have ec : ∀ v, c.eval (.const v) = v := fun _ => rfl
  have ef : ∀ f, c.eval (.func f) = .func (.func f) #[] #[] := fun _ => rfl
  refine steps_value (d := 61) ho rfl (by rw [hb.size]; decide) hw (v := .pointer (some ⟨bx, 5, none⟩)) ?_ rfl (hS.lift _ (by decide) (by decide) (by decide) (by decide))
  generalize c.eval = ρ at *
  clear hA hb hW hw ho hS hcl hli
  go_simp
set_option maxRecDepth 10000 in
theorem oK11_10 : stepK11 bx b off kl kc p n kv xs p0 p1 p2 p3 pa pn pc pb pm pd T base w0 Q 10 := by
  intro l c w hb hW hli hcl hA hS
  have ho : RK11[10]? = some ({ dst := none, op := Op.store 24 (Operand.tmp 61) (Operand.tmp 60), type := 0, pos := "value.go:39", after := #[{ on := 9, ground := Ground.data }, { on := 8, ground := Ground.data }, { on := 8, ground := Ground.chain }, { on := 0, ground := Ground.phase }, { on := 1, ground := Ground.phase }, { on := 2, ground := Ground.phase }, { on := 3, ground := Ground.phase }, { on := 4, ground := Ground.phase }, { on := 5, ground := Ground.phase }, { on := 6, ground := Ground.phase }, { on := 7, ground := Ground.phase }, { on := 8, ground := Ground.phase }], guard := none } : Oper) := by kernel_rfl
  have e60 : c.eval (.tmp 60) = val RK11 c 8 := (val_eq (show slotOf RK11 8 = some 60 by kernel_rfl)).symm
  have e61 : c.eval (.tmp 61) = .pointer (some ⟨bx, 5, none⟩) := by have h := (hA 9 (by decide)).2; rw [val_eq (show slotOf RK11 9 = some 61 by kernel_rfl)] at h; exact h
  have hw := wnK11 (c := c) ho rfl
  have ec : ∀ v, c.eval (.const v) = v := fun _ => rfl
  have ef : ∀ f, c.eval (.func f) = .func (.func f) #[] #[] := fun _ => rfl
  have h8 : l 8 = true := (hA 8 (by decide)).1
  obtain ⟨c0, c1, c2, c3, c4, c5, hi, hv6, hown, hgr, hl, hhi, hob⟩ := hS.done h8 hli
  obtain ⟨g, cap, hg⟩ := (hA 8 (by decide)).2
  have hbx : bx < w0.heap.size := lt_of_cell hW.box
  have hne : some bx ≠ kv.ownBlock := fun e => by
    have := (hW.own.lt bx e.symm).1
    have := hW.under
    omega
  have hc : w.cell? ⟨bx, 5, none⟩ = some kv := (World.cell?_of_block (hgr.block bx hbx hne)).trans hW.box
  have hf : w.frozen? ⟨bx, 5, none⟩ = false := (World.frozen?_of_block (hgr.block bx hbx hne)).trans hW.free
  refine steps_store ho rfl hw (w' := w.setCell ⟨bx, 5, none⟩ (val RK11 c 8)) ?_ trivial ⟨fun h => ?_, fun h => ?_, fun h => ?_, fun _ h => ?_, fun _ => ?_⟩
  · rw [hg] at e60 ⊢
    generalize c.eval = ρ at *
    clear hA hb hW hw ho hS hcl hli hown hgr hne hl hob
    go_simp
  · rw [upd_other _ _ (by decide), h8] at h; cases h
  · rw [upd_other _ _ (by decide), h8] at h; cases h
  · rw [upd_other _ _ (by decide), h8] at h; cases h
  · rw [upd_same] at h; cases h
  · rw [upd_other _ _ (by decide), upd_other _ _ (by decide)]
    exact ⟨w, c0, c1, c2, c3, c4, c5, hi, hv6, hown, hgr, hl, hhi, hob, rfl⟩
end
set_option maxRecDepth 100000 in
theorem allK11 (bx b off kl kc p n : Nat) (kv : Value) (xs : List Value) (p0 : Int) (p1 : Bool) (p2 : Int) (p3 : ByteArray) (pa : Option Addr) (pn pc : Nat) (pb : Option Addr) (pm pd : Nat) (T : Tree) (base : Nat) (w0 : World) (Q : Exit → Act → World → Prop) (hW : WK11 bx b off kl kc p n kv xs p0 p1 p2 p3 pa pn pc pb pm pd T base w0) : ∀ i, i < 11 → (fun i => ∀ l c w, BK11 bx b off kl kc p n kv xs p0 p1 p2 p3 pa pn pc pb pm pd T base w0 c → l i = false → (∀ k, l k = true → ∀ j ∈ ancK11 k, l j = true) → (∀ j ∈ ancK11 i, l j = true ∧ gK11 bx b off kl kc p n kv p0 p1 p2 p3 pa pn pc pb pm pd j (val RK11 c j)) → SK11 bx b off kl kc p n kv xs p0 p1 p2 p3 pa pn pc pb pm pd T base w0 l (val RK11 c) w → Steps' Tryz.prog RK11 Q (gK11 bx b off kl kc p n kv p0 p1 p2 p3 pa pn pc pb pm pd) (SK11 bx b off kl kc p n kv xs p0 p1 p2 p3 pa pn pc pb pm pd T base w0) i l c w) i := by
  refine below_succ ?_ (fun l c w hb => oK11_10 bx b off kl kc p n kv xs p0 p1 p2 p3 pa pn pc pb pm pd T base w0 Q l c w hb hW)
  refine below_succ ?_ (fun l c w hb => oK11_9 bx b off kl kc p n kv xs p0 p1 p2 p3 pa pn pc pb pm pd T base w0 Q l c w hb hW)
  refine below_succ ?_ (fun l c w hb => oK11_8 bx b off kl kc p n kv xs p0 p1 p2 p3 pa pn pc pb pm pd T base w0 Q l c w hb hW)
  refine below_succ ?_ (fun l c w hb => oK11_7 bx b off kl kc p n kv xs p0 p1 p2 p3 pa pn pc pb pm pd T base w0 Q l c w hb hW)
  refine below_succ ?_ (fun l c w hb => oK11_6 bx b off kl kc p n kv xs p0 p1 p2 p3 pa pn pc pb pm pd T base w0 Q l c w hb hW)
  refine below_succ ?_ (fun l c w hb => oK11_5 bx b off kl kc p n kv xs p0 p1 p2 p3 pa pn pc pb pm pd T base w0 Q l c w hb hW)
  refine below_succ ?_ (fun l c w hb => oK11_4 bx b off kl kc p n kv xs p0 p1 p2 p3 pa pn pc pb pm pd T base w0 Q l c w hb hW)
  refine below_succ ?_ (fun l c w hb => oK11_3 bx b off kl kc p n kv xs p0 p1 p2 p3 pa pn pc pb pm pd T base w0 Q l c w hb hW)
  refine below_succ ?_ (fun l c w hb => oK11_2 bx b off kl kc p n kv xs p0 p1 p2 p3 pa pn pc pb pm pd T base w0 Q l c w hb hW)
  refine below_succ ?_ (fun l c w hb => oK11_1 bx b off kl kc p n kv xs p0 p1 p2 p3 pa pn pc pb pm pd T base w0 Q l c w hb hW)
  refine below_succ ?_ (fun l c w hb => oK11_0 bx b off kl kc p n kv xs p0 p1 p2 p3 pa pn pc pb pm pd T base w0 Q l c w hb hW)
  exact below_zero
/-- The statement 'v.List = append(v.List, Copy(l[at]))'. -/
theorem regionK11 (bx b off kl kc p n : Nat) (kv : Value) (xs : List Value) (p0 : Int) (p1 : Bool) (p2 : Int) (p3 : ByteArray) (pa : Option Addr) (pn pc : Nat) (pb : Option Addr) (pm pd : Nat) (T : Tree) (base : Nat) (w0 : World) (Q : Exit → Act → World → Prop) (frame : Act) (hb : BK11 bx b off kl kc p n kv xs p0 p1 p2 p3 pa pn pc pb pm pd T base w0 frame) (hW : WK11 bx b off kl kc p n kv xs p0 p1 p2 p3 pa pn pc pb pm pd T base w0)
    (hQ : ∀ c g cap W c0 c1 c2 c3 c4 c5 hi, Same RK11 frame c → W.ownsRow base 26 6 (.slice (some ⟨g, 0, none⟩) (n + 1) cap) (n + 1) (xs ++ [c0, c1, c2, c3, c4, c5]) → w0.grownBy W kv.ownBlock → LiesR w0.heap.size hi W (.agg #[c0, c1, c2, c3, c4, c5]) T → hi ≤ W.heap.size → (some g = kv.ownBlock ∨ hi ≤ g) →
      Q .normal c (W.setCell ⟨bx, 5, none⟩ (.slice (some ⟨g, 0, none⟩) (n + 1) cap))) :
    (Code.region 11 RK11 true).wp Tryz.prog Q frame w0 := by
  refine writes_rule (A := ancK11) (G := gK11 bx b off kl kc p n kv p0 p1 p2 p3 pa pn pc pb pm pd) (S := SK11 bx b off kl kc p n kv xs p0 p1 p2 p3 pa pn pc pb pm pd T base w0) (by kernel_rfl) (by rw [hb.size]; kernel_rfl) ?_ ?_ ?_
  · exact ⟨fun _ => (Below.refl _ _).drew, (fun _ h => by cases h), (fun _ h => by cases h), (fun h => by cases h), (fun h => by cases h)⟩
  · intro i hi l c w hS hli hcl hA hst
    exact allK11 bx b off kl kc p n kv xs p0 p1 p2 p3 pa pn pc pb pm pd T base w0 Q hW i (by rwa [show RK11.size = 11 by kernel_rfl] at hi) l c w ⟨(same_eval hS (by kernel_rfl)).trans hb.t1, (same_eval hS (by kernel_rfl)).trans hb.t6, (same_eval hS (by kernel_rfl)).trans hb.t8, hS.2.1.trans hb.size⟩ hli hcl hA hst
  · intro l c w hS hall hst
    have hsz : RK11.size = 11 := by kernel_rfl
    obtain ⟨W, c0, c1, c2, c3, c4, c5, hi, h6, h1, h2, h3, h4, h5, rfl⟩ := hst.last (hall 10 (by rw [hsz]; omega)).1
    obtain ⟨g, cap, hg⟩ := (hall 8 (by rw [hsz]; omega)).2
    rw [hg] at h1 h5 ⊢
    rw [h6] at h3
    refine hQ c g cap W c0 c1 c2 c3 c4 c5 hi hS h1 h2 h3 h4 ?_
    rcases h5 with h5 | ⟨g', e, h5⟩
    · exact .inl h5
    · have : g = g' := by simpa [Value.ownBlock] using e
      exact .inr (this ▸ h5)
end Go.Proofs.YtbpmhgcjefpigaaGreatDoor
