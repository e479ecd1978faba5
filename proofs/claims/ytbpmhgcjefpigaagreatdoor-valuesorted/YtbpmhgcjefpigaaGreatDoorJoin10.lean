/- One value is put behind those that were: the statement of Map, operation by operation, in whatever order. The order of values is total: turned about it is its opposite, and it leads on. -/
import Derived.Test.YtbpmhgcjefpigaaGreatDoorJoin9
import Derived.Test.YtbpmhgcjefpigaaGreatDoorJoin6
namespace Go.Proofs.YtbpmhgcjefpigaaGreatDoor
open Go.RowKit Go.Shelf Go.WideShapes
set_option linter.unusedVariables false
set_option linter.unusedSimpArgs false

noncomputable def RK11 : Array Oper := regionAt Tryz.f50 11
def ancK11 (i : Nat) : List Nat := ([[], [0], [], [], [2, 3], [2, 3, 4], [2, 3, 4, 5], [2, 3, 4, 5, 6], [0, 1, 2, 3, 4, 5, 6, 7], [0, 1, 2, 3, 4, 5, 6, 7, 8], [0, 1, 2, 3, 4, 5, 6, 7, 8, 9]] : List (List Nat)).getD i []
def gK11 (bx b off kl kc p n : Nat) (kv : Value) (p0 : Int) (p1 : Bool) (p2 : Int) (p3 : ByteArray) (pa : Option Addr) (pn pc : Nat) (pb : Option Addr) (pm pd : Nat) (i : Nat) (v : Value) : Prop :=
  ([fun v => v = (.pointer (some ⟨bx, 5, none⟩)), fun v => v = (kv), fun v => v = (.slice (some ⟨b, off, none⟩) kl kc), fun v => v = (.int .i64 (p : Int)), fun v => v = (.pointer (some ⟨b, off + p * 6, none⟩)), fun v => v = (.agg #[.int .i64 p0, .bool p1, .int .i64 p2, .string p3, .slice pa pn pc, .slice pb pm pd]), fun v => ∃ c0 c1 c2 c3 c4 c5, v = .agg #[c0, c1, c2, c3, c4, c5] ∧ ∀ u ∈ [c0, c1, c2, c3, c4, c5], u.oneCell' = true, fun v => ∃ t, v = .slice (some ⟨t, 0, none⟩) 1 1, fun v => ∃ g cap, v = .slice (some ⟨g, 0, none⟩) (n + 1) cap, fun v => v = (.pointer (some ⟨bx, 5, none⟩)), fun _ => True] : List (Value → Prop)).getD i (fun _ => True) v
structure SK11 (bx b off kl kc p n : Nat) (kv : Value) (xs : List Value) (p0 : Int) (p1 : Bool) (p2 : Int) (p3 : ByteArray) (pa : Option Addr) (pn pc : Nat) (pb : Option Addr) (pm pd : Nat) (T : Tree) (base : Nat) (w0 : World) (l : Nat → Bool) (vs : Nat → Value) (w : World) : Prop where
  ahead : l 8 = false → Below w0.heap.size w0 w
  copied : l 8 = false → l 6 = true → LiesR w0.heap.size w.heap.size w (vs 6) T
  laid : l 8 = false → l 7 = true → ∃ t c0 c1 c2 c3 c4 c5, vs 7 = .slice (some ⟨t, 0, none⟩) 1 1 ∧ vs 6 = .agg #[c0, c1, c2, c3, c4, c5] ∧ (∀ j u, [c0, c1, c2, c3, c4, c5][j]? = some u → w.cell? ⟨t, j, none⟩ = some u) ∧ (∀ u ∈ [c0, c1, c2, c3, c4, c5], u.oneCell' = true)
  done : l 8 = true → l 10 = false → ∃ c0 c1 c2 c3 c4 c5 hi, vs 6 = .agg #[c0, c1, c2, c3, c4, c5] ∧ w.ownsRow base 26 6 (vs 8) (n + 1) (xs ++ [c0, c1, c2, c3, c4, c5]) ∧ w0.grownBy w kv.ownBlock ∧ LiesR w0.heap.size hi w (vs 6) T ∧ hi ≤ w.heap.size ∧ ((vs 8).ownBlock = kv.ownBlock ∨ ∃ g, (vs 8).ownBlock = some g ∧ hi ≤ g)
  last : l 10 = true → ∃ W c0 c1 c2 c3 c4 c5 hi, vs 6 = .agg #[c0, c1, c2, c3, c4, c5] ∧ W.ownsRow base 26 6 (vs 8) (n + 1) (xs ++ [c0, c1, c2, c3, c4, c5]) ∧ w0.grownBy W kv.ownBlock ∧ LiesR w0.heap.size hi W (vs 6) T ∧ hi ≤ W.heap.size ∧ ((vs 8).ownBlock = kv.ownBlock ∨ ∃ g, (vs 8).ownBlock = some g ∧ hi ≤ g) ∧ w = W.setCell ⟨bx, 5, none⟩ (vs 8)
theorem SK11.lift {bx b off kl kc p n : Nat} {kv : Value} {xs : List Value} {p0 : Int} {p1 : Bool} {p2 : Int} {p3 : ByteArray} {pa : Option Addr} {pn pc : Nat} {pb : Option Addr} {pm pd : Nat} {T : Tree} {base : Nat} {w0 : World} {l : Nat → Bool} {vs : Nat → Value} {w : World} (h : SK11 bx b off kl kc p n kv xs p0 p1 p2 p3 pa pn pc pb pm pd T base w0 l vs w) {i : Nat} (v : Value) (h6 : i ≠ 6) (h7 : i ≠ 7) (h8 : i ≠ 8) (h10 : i ≠ 10) : SK11 bx b off kl kc p n kv xs p0 p1 p2 p3 pa pn pc pb pm pd T base w0 (upd l i true) (upd vs i v) w := by
  have e6 : upd l i true 6 = l 6 := upd_other _ _ (Ne.symm h6)
  have e7 : upd l i true 7 = l 7 := upd_other _ _ (Ne.symm h7)
  have e8 : upd l i true 8 = l 8 := upd_other _ _ (Ne.symm h8)
  have e10 : upd l i true 10 = l 10 := upd_other _ _ (Ne.symm h10)
  have f6 : upd vs i v 6 = vs 6 := upd_other _ _ (Ne.symm h6)
  have f7 : upd vs i v 7 = vs 7 := upd_other _ _ (Ne.symm h7)
  have f8 : upd vs i v 8 = vs 8 := upd_other _ _ (Ne.symm h8)
  exact ⟨by rw [e8]; exact h.ahead, by rw [e8, e6, f6]; exact h.copied, by rw [e8, e7, f7, f6]; exact h.laid, by rw [e8, e10, f8, f6]; exact h.done, by rw [e10, f8, f6]; exact h.last⟩
structure BK11 (bx b off kl kc p n : Nat) (kv : Value) (xs : List Value) (p0 : Int) (p1 : Bool) (p2 : Int) (p3 : ByteArray) (pa : Option Addr) (pn pc : Nat) (pb : Option Addr) (pm pd : Nat) (T : Tree) (base : Nat) (w0 : World) (c : Act) : Prop where
  t1 : c.eval (.tmp 1) = .slice (some ⟨b, off, none⟩) kl kc
  t6 : c.eval (.tmp 6) = .pointer (some ⟨bx, 0, none⟩)
  t8 : c.eval (.tmp 8) = .int .i64 (p : Int)
  size : c.tmps.size = 64
structure WK11 (bx b off kl kc p n : Nat) (kv : Value) (xs : List Value) (p0 : Int) (p1 : Bool) (p2 : Int) (p3 : ByteArray) (pa : Option Addr) (pn pc : Nat) (pb : Option Addr) (pm pd : Nat) (T : Tree) (base : Nat) (w0 : World) : Prop where
  box : w0.cell? ⟨bx, 5, none⟩ = some kv
  free : w0.frozen? ⟨bx, 5, none⟩ = false
  x0 : w0.cell? ⟨b, off + p * 6, none⟩ = some (.int .i64 p0)
  x1 : w0.cell? ⟨b, off + p * 6 + 1, none⟩ = some (.bool p1)
  x2 : w0.cell? ⟨b, off + p * 6 + 2, none⟩ = some (.int .i64 p2)
  x3 : w0.cell? ⟨b, off + p * 6 + 3, none⟩ = some (.string p3)
  x4 : w0.cell? ⟨b, off + p * 6 + 4, none⟩ = some (.slice pa pn pc)
  x5 : w0.cell? ⟨b, off + p * 6 + 5, none⟩ = some (.slice pb pm pd)
  lt : p < kl
  le : kl ≤ 9223372036854775807
  own : w0.ownsRow base 26 6 kv n xs
  few : n ≤ 1000000
  low : base ≤ w0.heap.size
  under : bx < base
  lies : Lies w0.heap.size w0 (.agg #[.int .i64 p0, .bool p1, .int .i64 p2, .string p3, .slice pa pn pc, .slice pb pm pd]) T
  small : T.total ≤ 1000000

def stepK11 (bx b off kl kc p n : Nat) (kv : Value) (xs : List Value) (p0 : Int) (p1 : Bool) (p2 : Int) (p3 : ByteArray) (pa : Option Addr) (pn pc : Nat) (pb : Option Addr) (pm pd : Nat) (T : Tree) (base : Nat) (w0 : World) (Q : Exit → Act → World → Prop) (i : Nat) : Prop := ∀ (l : Nat → Bool) (c : Act) (w : World), (BK11 bx b off kl kc p n kv xs p0 p1 p2 p3 pa pn pc pb pm pd T base w0 c) → (WK11 bx b off kl kc p n kv xs p0 p1 p2 p3 pa pn pc pb pm pd T base w0) → (l i = false) → (∀ k, l k = true → ∀ j ∈ ancK11 k, l j = true) → (∀ j ∈ ancK11 i, l j = true ∧ gK11 bx b off kl kc p n kv p0 p1 p2 p3 pa pn pc pb pm pd j (val RK11 c j)) → (SK11 bx b off kl kc p n kv xs p0 p1 p2 p3 pa pn pc pb pm pd T base w0 l (val RK11 c) w) → Steps' Tryz.prog RK11 Q (gK11 bx b off kl kc p n kv p0 p1 p2 p3 pa pn pc pb pm pd) (SK11 bx b off kl kc p n kv xs p0 p1 p2 p3 pa pn pc pb pm pd T base w0) i l c w
theorem wnK11 {i : Nat} {o : Oper} {c : Act} (ho : RK11[i]? = some o) (h : o.guard = none) : Region.wanted o (yielded RK11 c.tmps) = true := want_none h
section
variable (bx b off kl kc p n : Nat) (kv : Value) (xs : List Value) (p0 : Int) (p1 : Bool) (p2 : Int) (p3 : ByteArray) (pa : Option Addr) (pn pc : Nat) (pb : Option Addr) (pm pd : Nat) (T : Tree) (base : Nat) (w0 : World) (Q : Exit → Act → World → Prop)
set_option maxRecDepth 10000 in
theorem oK11_0 : stepK11 bx b off kl kc p n kv xs p0 p1 p2 p3 pa pn pc pb pm pd T base w0 Q 0 := by
  intro l c w hb hW hli hcl hA hS
  have ho : RK11[0]? = some ({ dst := some 52, op := Op.fieldAddr 26 (Operand.tmp 6) 5, type := 0, pos := "value.go:39", after := #[], guard := none } : Oper) := by kernel_rfl
  have e6 := hb.t6
  have hw := wnK11 (c := c) ho rfl
  have ec : ∀ v, c.eval (.const v) = v := fun _ => rfl
  have ef : ∀ f, c.eval (.func f) = .func (.func f) #[] #[] := fun _ => rfl
  have h8 : l 8 = false := by
    cases h : l 8 with
    | false => rfl
    | true => have := hcl 8 h 0 (by decide); rw [hli] at this; cases this
  refine steps_value (d := 52) ho rfl (by rw [hb.size]; decide) hw (v := .pointer (some ⟨bx, 5, none⟩)) ?_ rfl (hS.lift _ (by decide) (by decide) (by decide) (by decide))
  generalize c.eval = ρ at *
  clear hA hb hW hw ho hS hcl hli
  go_simp

set_option maxRecDepth 10000 in
theorem oK11_1 : stepK11 bx b off kl kc p n kv xs p0 p1 p2 p3 pa pn pc pb pm pd T base w0 Q 1 := by
  intro l c w hb hW hli hcl hA hS
  have ho : RK11[1]? = some ({ dst := some 53, op := Op.load 24 (Operand.tmp 52), type := 24, pos := "value.go:39", after := #[{ on := 0, ground := Ground.data }], guard := none } : Oper) := by kernel_rfl
  have e52 : c.eval (.tmp 52) = .pointer (some ⟨bx, 5, none⟩) := by have h := (hA 0 (by decide)).2; rw [val_eq (show slotOf RK11 0 = some 52 by kernel_rfl)] at h; exact h
  have hw := wnK11 (c := c) ho rfl
  have ec : ∀ v, c.eval (.const v) = v := fun _ => rfl
  have ef : ∀ f, c.eval (.func f) = .func (.func f) #[] #[] := fun _ => rfl
  have h8 : l 8 = false := by
    cases h : l 8 with
    | false => rfl
    | true => have := hcl 8 h 1 (by decide); rw [hli] at this; cases this
  have hc := (hS.ahead h8).cell (p := ⟨bx, 5, none⟩) (lt_of_cell hW.box)
  rw [hW.box] at hc
  refine steps_value (d := 53) ho rfl (by rw [hb.size]; decide) hw (v := kv) ?_ rfl (hS.lift _ (by decide) (by decide) (by decide) (by decide))
  generalize c.eval = ρ at *
  clear hA hb hW hw ho hS hcl hli
  go_simp

set_option maxRecDepth 10000 in
theorem oK11_2 : stepK11 bx b off kl kc p n kv xs p0 p1 p2 p3 pa pn pc pb pm pd T base w0 Q 2 := by
  intro l c w hb hW hli hcl hA hS
  have ho : RK11[2]? = some ({ dst := some 54, op := Op.move (Operand.tmp 1), type := 24, pos := "value.go:39", after := #[], guard := none } : Oper) := by kernel_rfl
  have e1 := hb.t1
  have hw := wnK11 (c := c) ho rfl
  have ec : ∀ v, c.eval (.const v) = v := fun _ => rfl
  have ef : ∀ f, c.eval (.func f) = .func (.func f) #[] #[] := fun _ => rfl
  have h8 : l 8 = false := by
    cases h : l 8 with
    | false => rfl
    | true => have := hcl 8 h 2 (by decide); rw [hli] at this; cases this
  refine steps_value (d := 54) ho rfl (by rw [hb.size]; decide) hw (v := .slice (some ⟨b, off, none⟩) kl kc) ?_ rfl (hS.lift _ (by decide) (by decide) (by decide) (by decide))
  generalize c.eval = ρ at *
  clear hA hb hW hw ho hS hcl hli
  go_simp

set_option maxRecDepth 10000 in
theorem oK11_3 : stepK11 bx b off kl kc p n kv xs p0 p1 p2 p3 pa pn pc pb pm pd T base w0 Q 3 := by
  intro l c w hb hW hli hcl hA hS
  have ho : RK11[3]? = some ({ dst := some 55, op := Op.move (Operand.tmp 8), type := 3, pos := "value.go:39", after := #[], guard := none } : Oper) := by kernel_rfl
  have e8 := hb.t8
  have hw := wnK11 (c := c) ho rfl
  have ec : ∀ v, c.eval (.const v) = v := fun _ => rfl
  have ef : ∀ f, c.eval (.func f) = .func (.func f) #[] #[] := fun _ => rfl
  have h8 : l 8 = false := by
    cases h : l 8 with
    | false => rfl
    | true => have := hcl 8 h 3 (by decide); rw [hli] at this; cases this
  refine steps_value (d := 55) ho rfl (by rw [hb.size]; decide) hw (v := .int .i64 (p : Int)) ?_ rfl (hS.lift _ (by decide) (by decide) (by decide) (by decide))
  generalize c.eval = ρ at *
  clear hA hb hW hw ho hS hcl hli
  go_simp

set_option maxRecDepth 10000 in
theorem oK11_4 : stepK11 bx b off kl kc p n kv xs p0 p1 p2 p3 pa pn pc pb pm pd T base w0 Q 4 := by
  intro l c w hb hW hli hcl hA hS
  have ho : RK11[4]? = some ({ dst := some 56, op := Op.indexAddr 24 (Operand.tmp 54) (Operand.tmp 55), type := 0, pos := "value.go:39", after := #[{ on := 2, ground := Ground.data }, { on := 3, ground := Ground.data }], guard := none } : Oper) := by kernel_rfl
  have e54 : c.eval (.tmp 54) = .slice (some ⟨b, off, none⟩) kl kc := by have h := (hA 2 (by decide)).2; rw [val_eq (show slotOf RK11 2 = some 54 by kernel_rfl)] at h; exact h
  have e55 : c.eval (.tmp 55) = .int .i64 (p : Int) := by have h := (hA 3 (by decide)).2; rw [val_eq (show slotOf RK11 3 = some 55 by kernel_rfl)] at h; exact h
  have hw := wnK11 (c := c) ho rfl
  have ec : ∀ v, c.eval (.const v) = v := fun _ => rfl
  have ef : ∀ f, c.eval (.func f) = .func (.func f) #[] #[] := fun _ => rfl
  have h8 : l 8 = false := by
    cases h : l 8 with
    | false => rfl
    | true => have := hcl 8 h 4 (by decide); rw [hli] at this; cases this
  have h1 := hW.lt
  have h2 := hW.le
  refine steps_value (d := 56) ho rfl (by rw [hb.size]; decide) hw (v := .pointer (some ⟨b, off + p * 6, none⟩)) ?_ rfl (hS.lift _ (by decide) (by decide) (by decide) (by decide))
  generalize c.eval = ρ at *
  clear hA hb hW hw ho hS hcl hli
  go_simp

set_option maxRecDepth 10000 in
theorem oK11_5 : stepK11 bx b off kl kc p n kv xs p0 p1 p2 p3 pa pn pc pb pm pd T base w0 Q 5 := by
  intro l c w hb hW hli hcl hA hS
  have ho : RK11[5]? = some ({ dst := some 57, op := Op.load 26 (Operand.tmp 56), type := 26, pos := "value.go:39", after := #[{ on := 4, ground := Ground.data }], guard := none } : Oper) := by kernel_rfl
  have e56 : c.eval (.tmp 56) = .pointer (some ⟨b, off + p * 6, none⟩) := by have h := (hA 4 (by decide)).2; rw [val_eq (show slotOf RK11 4 = some 56 by kernel_rfl)] at h; exact h
  have hw := wnK11 (c := c) ho rfl
  have ec : ∀ v, c.eval (.const v) = v := fun _ => rfl
  have ef : ∀ f, c.eval (.func f) = .func (.func f) #[] #[] := fun _ => rfl
  have h8 : l 8 = false := by
    cases h : l 8 with
    | false => rfl
    | true => have := hcl 8 h 5 (by decide); rw [hli] at this; cases this
  have hc0 := (hS.ahead h8).cell (p := ⟨b, off + p * 6, none⟩) (lt_of_cell hW.x0)
  rw [hW.x0] at hc0
  have hc1 := (hS.ahead h8).cell (p := ⟨b, off + p * 6 + 1, none⟩) (lt_of_cell hW.x1)
  rw [hW.x1] at hc1
  have hc2 := (hS.ahead h8).cell (p := ⟨b, off + p * 6 + 2, none⟩) (lt_of_cell hW.x2)
  rw [hW.x2] at hc2
  have hc3 := (hS.ahead h8).cell (p := ⟨b, off + p * 6 + 3, none⟩) (lt_of_cell hW.x3)
  rw [hW.x3] at hc3
  have hc4 := (hS.ahead h8).cell (p := ⟨b, off + p * 6 + 4, none⟩) (lt_of_cell hW.x4)
  rw [hW.x4] at hc4
  have hc5 := (hS.ahead h8).cell (p := ⟨b, off + p * 6 + 5, none⟩) (lt_of_cell hW.x5)
  rw [hW.x5] at hc5
  refine steps_value (d := 57) ho rfl (by rw [hb.size]; decide) hw (v := .agg #[.int .i64 p0, .bool p1, .int .i64 p2, .string p3, .slice pa pn pc, .slice pb pm pd]) ?_ rfl (hS.lift _ (by decide) (by decide) (by decide) (by decide))
  generalize c.eval = ρ at *
  clear hA hb hW hw ho hS hcl hli
  go_simp

set_option maxRecDepth 10000 in
theorem oK11_6 : stepK11 bx b off kl kc p n kv xs p0 p1 p2 p3 pa pn pc pb pm pd T base w0 Q 6 := by
  intro l c w hb hW hli hcl hA hS
  have ho : RK11[6]? = some ({ dst := some 58, op := Op.call { callee := Callee.value (Operand.func 19), args := #[Operand.tmp 57], argTypes := #[26] }, type := 26, pos := "value.go:39", after := #[{ on := 5, ground := Ground.data }], guard := none } : Oper) := by kernel_rfl
  have e57 : c.eval (.tmp 57) = .agg #[.int .i64 p0, .bool p1, .int .i64 p2, .string p3, .slice pa pn pc, .slice pb pm pd] := by have h := (hA 5 (by decide)).2; rw [val_eq (show slotOf RK11 5 = some 57 by kernel_rfl)] at h; exact h
  have hw := wnK11 (c := c) ho rfl
  have ec : ∀ v, c.eval (.const v) = v := fun _ => rfl
  have ef : ∀ f, c.eval (.func f) = .func (.func f) #[] #[] := fun _ => rfl
  have h8 : l 8 = false := by
    cases h : l 8 with
    | false => rfl
    | true => have := hcl 8 h 6 (by decide); rw [hli] at this; cases this
  have h10 : l 10 = false := by
    cases h : l 10 with
    | false => rfl
    | true => have := hcl 10 h 6 (by decide); rw [hli] at this; cases this
  have hbel := hS.ahead h8
  refine steps_call (d := 58) ho rfl (by rw [hb.size]; decide) hw (f := 19) (args := #[.agg #[.int .i64 p0, .bool p1, .int .i64 p2, .string p3, .slice pa pn pc, .slice pb pm pd]]) ?_ ?_
  · generalize c.eval = ρ at *
    clear hA hb hW hw ho hS hcl hli
    go_simp
  · refine (copy_any T w0.heap.size _ w hbel.size (hW.lies.below hbel) hW.small).mono ?_
    rintro e w' ⟨v', rfl, hl, hb'⟩
    have hl2 : LiesR w0.heap.size w'.heap.size w' v' T := hl.mono hbel.size (Nat.le_refl _)
    refine ⟨v', rfl, ?_, ?_⟩
    · obtain ⟨q0, q1, q2, q3, q4, q5⟩ := T
      simp only [LiesR] at hl
      obtain ⟨ka, kc', la, lc, rfl, -⟩ := hl
      exact ⟨_, _, _, _, _, _, rfl, by simp [Value.oneCell']⟩
    · have a7 : upd l 6 true 7 = false := by
        rw [upd_other _ _ (by decide)]
        cases h : l 7 with
        | false => rfl
        | true => have := hcl 7 h 6 (by decide); rw [hli] at this; cases this
      refine ⟨fun _ => hbel.trans (hb'.mono hbel.size), fun _ _ => by rw [upd_same]; exact hl2, fun _ h => (by rw [a7] at h; cases h), fun h => ?_, fun h => ?_⟩
      · rw [upd_other _ _ (by decide), h8] at h; cases h
      · rw [upd_other _ _ (by decide), h10] at h; cases h

set_option maxRecDepth 10000 in
theorem oK11_7 : stepK11 bx b off kl kc p n kv xs p0 p1 p2 p3 pa pn pc pb pm pd T base w0 Q 7 := by
  intro l c w hb hW hli hcl hA hS
  have ho : RK11[7]? = some ({ dst := some 59, op := Op.buildSlice 24 1 #[(0, Operand.tmp 58)], type := 24, pos := "value.go:39", after := #[{ on := 6, ground := Ground.data }], guard := none } : Oper) := by kernel_rfl
  have e58 : c.eval (.tmp 58) = val RK11 c 6 := (val_eq (show slotOf RK11 6 = some 58 by kernel_rfl)).symm
  have hw := wnK11 (c := c) ho rfl
  have ec : ∀ v, c.eval (.const v) = v := fun _ => rfl
  have ef : ∀ f, c.eval (.func f) = .func (.func f) #[] #[] := fun _ => rfl
  have h8 : l 8 = false := by
    cases h : l 8 with
    | false => rfl
    | true => have := hcl 8 h 7 (by decide); rw [hli] at this; cases this
  have h10 : l 10 = false := by
    cases h : l 10 with
    | false => rfl
    | true => have := hcl 10 h 7 (by decide); rw [hli] at this; cases this
  have hbel := hS.ahead h8
  have h6 : l 6 = true := (hA 6 (by decide)).1
  have hcop := hS.copied h8 h6
  obtain ⟨c0, c1, c2, c3, c4, c5, hv6, hone⟩ := (hA 6 (by decide)).2
  rw [hv6] at e58
  refine steps_value (d := 59) ho rfl (by rw [hb.size]; decide) hw (v := .slice (some ⟨w.heap.size, 0, none⟩) 1 1) (w' := w.alloc (.cells #[c0, c1, c2, c3, c4, c5] 26)) ?_ ⟨_, rfl⟩ ?_
  · have o0 := hone c0 (by simp)
    generalize c.eval = ρ at *
    clear hA hb hW hw ho hS hcl hli hcop
    go_simp
  · have hba : Below w.heap.size w (w.alloc (.cells #[c0, c1, c2, c3, c4, c5] 26)) := (Below.refl _ _).alloc (Nat.le_refl _) _
    refine ⟨fun _ => hbel.alloc hbel.size _, fun _ _ => ?_, fun _ _ => ⟨w.heap.size, c0, c1, c2, c3, c4, c5, by rw [upd_same], by rw [upd_other _ _ (by decide)]; exact hv6, ?_, hone⟩, fun h => ?_, fun h => ?_⟩
    · rw [upd_other _ _ (by decide)]
      exact (hcop.keep (keeps_below hba (Nat.le_refl _))).mono (Nat.le_refl _) hba.size
    · intro j u hj
      exact cell_new _ _ _ j _ (by simpa using hj)
    · rw [upd_other _ _ (by decide), h8] at h; cases h
    · rw [upd_other _ _ (by decide), h10] at h; cases h

set_option maxRecDepth 10000 in
theorem oK11_8 : stepK11 bx b off kl kc p n kv xs p0 p1 p2 p3 pa pn pc pb pm pd T base w0 Q 8 := by
  intro l c w hb hW hli hcl hA hS
  have ho : RK11[8]? = some ({ dst := some 60, op := Op.call { callee := Callee.builtin Builtin.append, args := #[Operand.tmp 53, Operand.tmp 59], argTypes := #[24, 24] }, type := 24, pos := "value.go:39", after := #[{ on := 1, ground := Ground.data }, { on := 7, ground := Ground.data }, { on := 6, ground := Ground.chain }], guard := none } : Oper) := by kernel_rfl
  have e53 : c.eval (.tmp 53) = kv := by have h := (hA 1 (by decide)).2; rw [val_eq (show slotOf RK11 1 = some 53 by kernel_rfl)] at h; exact h
  have e59 : c.eval (.tmp 59) = val RK11 c 7 := (val_eq (show slotOf RK11 7 = some 59 by kernel_rfl)).symm
  have hw := wnK11 (c := c) ho rfl
  have ec : ∀ v, c.eval (.const v) = v := fun _ => rfl
  have ef : ∀ f, c.eval (.func f) = .func (.func f) #[] #[] := fun _ => rfl
  have h10 : l 10 = false := by
    cases h : l 10 with
    | false => rfl
    | true => have := hcl 10 h 8 (by decide); rw [hli] at this; cases this
  have h6 : l 6 = true := (hA 6 (by decide)).1
  have h7 : l 7 = true := (hA 7 (by decide)).1
  obtain ⟨t, c0, c1, c2, c3, c4, c5, ht, hv6, hcell, hone⟩ := hS.laid hli h7
  have hbel := hS.ahead hli
  have hcop := hS.copied hli h6
  obtain ⟨i0, hi, hz0, hz1, hz2⟩ := info_parts Tryz.info26
  have hown : w.ownsRow base 26 6 kv n xs := by
    obtain ⟨g1, ⟨g2, g3⟩ | ⟨g, cap, cur, g2, g3, g4, g5⟩⟩ := hW.own
    · exact ⟨g1, .inl ⟨g2, g3⟩⟩
    · refine ⟨g1, .inr ⟨g, cap, cur, g2, g3, ?_, g5⟩⟩
      have hg : g < w0.heap.size := by
        rcases Nat.lt_or_ge g w0.heap.size with h | h
        · exact h
        · rw [Array.getElem?_eq_none h] at g4; cases g4
      rw [hbel.block g hg]; exact g4
  refine steps_law (d := 60) ho rfl (by rw [hb.size]; decide) fun K hK => ?_
  refine step_append_lies w rfl (.tmp 53) (.tmp 59) 24 rfl base 26 i0 (.agg #[.int .i64 0, .bool false, .int .i64 0, .string ⟨#[]⟩, .slice none 0 0, .slice none 0 0]) 6 88 Tryz.underlying24 hi hz0 hz1 hz2 rfl (by decide) kv n xs e53 hown ⟨t, 0, none⟩ 1 1 [c0, c1, c2, c3, c4, c5] (e59.trans ht) rfl ?_ hone (by decide) (by have := hW.few; unfold maxLen; omega) (by have := hW.few; omega) (Nat.le_trans hW.low hbel.size) w.heap.size rfl ?_
  · intro j u hj
    rw [add_plain, Nat.zero_add]; exact hcell j u hj
  · intro g cap w' g1 g2 g3 g4
    refine hK _ _ ⟨g, cap, rfl⟩ ⟨fun h => ?_, fun h => ?_, fun h => ?_, fun _ _ => ?_, fun h => ?_⟩
    · rw [upd_same] at h; cases h
    · rw [upd_same] at h; cases h
    · rw [upd_same] at h; cases h
    · rw [upd_same, upd_other _ _ (by decide)]
      refine ⟨c0, c1, c2, c3, c4, c5, w.heap.size, hv6, g1, ⟨g2.os.trans hbel.os, g2.tape.trans hbel.tape, g2.output.trans hbel.output, Nat.le_trans hbel.size g2.size, fun k hk hne => (g2.block k (Nat.lt_of_lt_of_le hk hbel.size) hne).trans (hbel.block k hk)⟩, ?_, g2.size, ?_⟩
      · refine hcop.keep fun q o q1 q2 => World.cell?_of_block (g2.block q q2 fun e => ?_)
        have := (hW.own.lt q e.symm).2
        omega
      · rcases g3 with g3 | g3
        · exact .inl (by rw [g3]; rfl)
        · exact .inr ⟨g, rfl, by omega⟩
    · rw [upd_other _ _ (by decide), h10] at h; cases h

set_option maxRecDepth 10000 in
theorem oK11_9 : stepK11 bx b off kl kc p n kv xs p0 p1 p2 p3 pa pn pc pb pm pd T base w0 Q 9 := by
  intro l c w hb hW hli hcl hA hS
  have ho : RK11[9]? = some ({ dst := some 61, op := Op.fieldAddr 26 (Operand.tmp 6) 5, type := 0, pos := "value.go:39", after := #[{ on := 0, ground := Ground.phase }, { on := 1, ground := Ground.phase }, { on := 2, ground := Ground.phase }, { on := 3, ground := Ground.phase }, { on := 4, ground := Ground.phase }, { on := 5, ground := Ground.phase }, { on := 6, ground := Ground.phase }, { on := 7, ground := Ground.phase }, { on := 8, ground := Ground.phase }], guard := none } : Oper) := by kernel_rfl
  have e6 := hb.t6
  have hw := wnK11 (c := c) ho rfl
  have ec : ∀ v, c.eval (.const v) = v := fun _ => rfl
  have ef : ∀ f, c.eval (.func f) = .func (.func f) #[] #[] := fun _ => rfl
  refine steps_value (d := 61) ho rfl (by rw [hb.size]; decide) hw (v := .pointer (some ⟨bx, 5, none⟩)) ?_ rfl (hS.lift _ (by decide) (by decide) (by decide) (by decide))
  generalize c.eval = ρ at *
  clear hA hb hW hw ho hS hcl hli
  go_simp

set_option maxRecDepth 10000 in
theorem oK11_10 : stepK11 bx b off kl kc p n kv xs p0 p1 p2 p3 pa pn pc pb pm pd T base w0 Q 10 := by
  intro l c w hb hW hli hcl hA hS
  have ho : RK11[10]? = some ({ dst := none, op := Op.store 24 (Operand.tmp 61) (Operand.tmp 60), type := 0, pos := "value.go:39", after := #[{ on := 9, ground := Ground.data }, { on := 8, ground := Ground.data }, { on := 8, ground := Ground.chain }, { on := 0, ground := Ground.phase }, { on := 1, ground := Ground.phase }, { on := 2, ground := Ground.phase }, { on := 3, ground := Ground.phase }, { on := 4, ground := Ground.phase }, { on := 5, ground := Ground.phase }, { on := 6, ground := Ground.phase }, { on := 7, ground := Ground.phase }, { on := 8, ground := Ground.phase }], guard := none } : Oper) := by kernel_rfl
  have e60 : c.eval (.tmp 60) = val RK11 c 8 := (val_eq (show slotOf RK11 8 = some 60 by kernel_rfl)).symm
  have e61 : c.eval (.tmp 61) = .pointer (some ⟨bx, 5, none⟩) := by have h := (hA 9 (by decide)).2; rw [val_eq (show slotOf RK11 9 = some 61 by kernel_rfl)] at h; exact h
  have hw := wnK11 (c := c) ho rfl
  have ec : ∀ v, c.eval (.const v) = v := fun _ => rfl
  have ef : ∀ f, c.eval (.func f) = .func (.func f) #[] #[] := fun _ => rfl
  have h8 : l 8 = true := (hA 8 (by decide)).1
  obtain ⟨c0, c1, c2, c3, c4, c5, hi, hv6, hown, hgr, hl, hhi, hob⟩ := hS.done h8 hli
  obtain ⟨g, cap, hg⟩ := (hA 8 (by decide)).2
  have hbx : bx < w0.heap.size := lt_of_cell hW.box
  have hne : some bx ≠ kv.ownBlock := fun e => by
    have := (hW.own.lt bx e.symm).1
    have := hW.under
    omega
  have hc : w.cell? ⟨bx, 5, none⟩ = some kv := (World.cell?_of_block (hgr.block bx hbx hne)).trans hW.box
  have hf : w.frozen? ⟨bx, 5, none⟩ = false := (World.frozen?_of_block (hgr.block bx hbx hne)).trans hW.free
  refine steps_store ho rfl hw (w' := w.setCell ⟨bx, 5, none⟩ (val RK11 c 8)) ?_ trivial ⟨fun h => ?_, fun h => ?_, fun h => ?_, fun _ h => ?_, fun _ => ?_⟩
  · rw [hg] at e60 ⊢
    generalize c.eval = ρ at *
    clear hA hb hW hw ho hS hcl hli hown hgr hne hl hob
    go_simp
  · rw [upd_other _ _ (by decide), h8] at h; cases h
  · rw [upd_other _ _ (by decide), h8] at h; cases h
  · rw [upd_other _ _ (by decide), h8] at h; cases h
  · rw [upd_same] at h; cases h
  · rw [upd_other _ _ (by decide), upd_other _ _ (by decide)]
    exact ⟨w, c0, c1, c2, c3, c4, c5, hi, hv6, hown, hgr, hl, hhi, hob, rfl⟩

end
set_option maxRecDepth 100000 in
theorem allK11 (bx b off kl kc p n : Nat) (kv : Value) (xs : List Value) (p0 : Int) (p1 : Bool) (p2 : Int) (p3 : ByteArray) (pa : Option Addr) (pn pc : Nat) (pb : Option Addr) (pm pd : Nat) (T : Tree) (base : Nat) (w0 : World) (Q : Exit → Act → World → Prop) (hW : WK11 bx b off kl kc p n kv xs p0 p1 p2 p3 pa pn pc pb pm pd T base w0) : ∀ i, i < 11 → (fun i => ∀ l c w, BK11 bx b off kl kc p n kv xs p0 p1 p2 p3 pa pn pc pb pm pd T base w0 c → l i = false → (∀ k, l k = true → ∀ j ∈ ancK11 k, l j = true) → (∀ j ∈ ancK11 i, l j = true ∧ gK11 bx b off kl kc p n kv p0 p1 p2 p3 pa pn pc pb pm pd j (val RK11 c j)) → SK11 bx b off kl kc p n kv xs p0 p1 p2 p3 pa pn pc pb pm pd T base w0 l (val RK11 c) w → Steps' Tryz.prog RK11 Q (gK11 bx b off kl kc p n kv p0 p1 p2 p3 pa pn pc pb pm pd) (SK11 bx b off kl kc p n kv xs p0 p1 p2 p3 pa pn pc pb pm pd T base w0) i l c w) i := by
  refine below_succ ?_ (fun l c w hb => oK11_10 bx b off kl kc p n kv xs p0 p1 p2 p3 pa pn pc pb pm pd T base w0 Q l c w hb hW)
  refine below_succ ?_ (fun l c w hb => oK11_9 bx b off kl kc p n kv xs p0 p1 p2 p3 pa pn pc pb pm pd T base w0 Q l c w hb hW)
  refine below_succ ?_ (fun l c w hb => oK11_8 bx b off kl kc p n kv xs p0 p1 p2 p3 pa pn pc pb pm pd T base w0 Q l c w hb hW)
  refine below_succ ?_ (fun l c w hb => oK11_7 bx b off kl kc p n kv xs p0 p1 p2 p3 pa pn pc pb pm pd T base w0 Q l c w hb hW)
  refine below_succ ?_ (fun l c w hb => oK11_6 bx b off kl kc p n kv xs p0 p1 p2 p3 pa pn pc pb pm pd T base w0 Q l c w hb hW)
  refine below_succ ?_ (fun l c w hb => oK11_5 bx b off kl kc p n kv xs p0 p1 p2 p3 pa pn pc pb pm pd T base w0 Q l c w hb hW)
  refine below_succ ?_ (fun l c w hb => oK11_4 bx b off kl kc p n kv xs p0 p1 p2 p3 pa pn pc pb pm pd T base w0 Q l c w hb hW)
  refine below_succ ?_ (fun l c w hb => oK11_3 bx b off kl kc p n kv xs p0 p1 p2 p3 pa pn pc pb pm pd T base w0 Q l c w hb hW)
  refine below_succ ?_ (fun l c w hb => oK11_2 bx b off kl kc p n kv xs p0 p1 p2 p3 pa pn pc pb pm pd T base w0 Q l c w hb hW)
  refine below_succ ?_ (fun l c w hb => oK11_1 bx b off kl kc p n kv xs p0 p1 p2 p3 pa pn pc pb pm pd T base w0 Q l c w hb hW)
  refine below_succ ?_ (fun l c w hb => oK11_0 bx b off kl kc p n kv xs p0 p1 p2 p3 pa pn pc pb pm pd T base w0 Q l c w hb hW)
  exact below_zero

/-- The statement 'v.List = append(v.List, Copy(l[at]))'. -/
theorem regionK11 (bx b off kl kc p n : Nat) (kv : Value) (xs : List Value) (p0 : Int) (p1 : Bool) (p2 : Int) (p3 : ByteArray) (pa : Option Addr) (pn pc : Nat) (pb : Option Addr) (pm pd : Nat) (T : Tree) (base : Nat) (w0 : World) (Q : Exit → Act → World → Prop) (frame : Act) (hb : BK11 bx b off kl kc p n kv xs p0 p1 p2 p3 pa pn pc pb pm pd T base w0 frame) (hW : WK11 bx b off kl kc p n kv xs p0 p1 p2 p3 pa pn pc pb pm pd T base w0)
    (hQ : ∀ c g cap W c0 c1 c2 c3 c4 c5 hi, Same RK11 frame c → W.ownsRow base 26 6 (.slice (some ⟨g, 0, none⟩) (n + 1) cap) (n + 1) (xs ++ [c0, c1, c2, c3, c4, c5]) → w0.grownBy W kv.ownBlock → LiesR w0.heap.size hi W (.agg #[c0, c1, c2, c3, c4, c5]) T → hi ≤ W.heap.size → (some g = kv.ownBlock ∨ hi ≤ g) →
      Q .normal c (W.setCell ⟨bx, 5, none⟩ (.slice (some ⟨g, 0, none⟩) (n + 1) cap))) :
    (Code.region 11 RK11 true).wp Tryz.prog Q frame w0 := by
  refine writes_rule (A := ancK11) (G := gK11 bx b off kl kc p n kv p0 p1 p2 p3 pa pn pc pb pm pd) (S := SK11 bx b off kl kc p n kv xs p0 p1 p2 p3 pa pn pc pb pm pd T base w0) (by kernel_rfl) (by rw [hb.size]; kernel_rfl) ?_ ?_ ?_
  · exact ⟨fun _ => (Below.refl _ _).drew, (fun _ h => by cases h), (fun _ h => by cases h), (fun h => by cases h), (fun h => by cases h)⟩
  · intro i hi l c w hS hli hcl hA hst
    exact allK11 bx b off kl kc p n kv xs p0 p1 p2 p3 pa pn pc pb pm pd T base w0 Q hW i (by rwa [show RK11.size = 11 by kernel_rfl] at hi) l c w ⟨(same_eval hS (by kernel_rfl)).trans hb.t1, (same_eval hS (by kernel_rfl)).trans hb.t6, (same_eval hS (by kernel_rfl)).trans hb.t8, hS.2.1.trans hb.size⟩ hli hcl hA hst
  · intro l c w hS hall hst
    have hsz : RK11.size = 11 := by kernel_rfl
    obtain ⟨W, c0, c1, c2, c3, c4, c5, hi, h6, h1, h2, h3, h4, h5, rfl⟩ := hst.last (hall 10 (by rw [hsz]; omega)).1
    obtain ⟨g, cap, hg⟩ := (hall 8 (by rw [hsz]; omega)).2
    rw [hg] at h1 h5 ⊢
    rw [h6] at h3
    refine hQ c g cap W c0 c1 c2 c3 c4 c5 hi hS h1 h2 h3 h4 ?_
    rcases h5 with h5 | ⟨g', e, h5⟩
    · exact .inl h5
    · have : g = g' := by simpa [Value.ownBlock] using e
      exact .inr (this ▸ h5)
end Go.Proofs.YtbpmhgcjefpigaaGreatDoor

namespace Go.Proofs.YtbpmhgcjefpigaaGreatDoor
open Go.RowKit Go.Shelf
set_option linter.unusedVariables false

/-- -1, 0 or 1. -/
def Three (x : Int) : Prop := x = -1 ∨ x = 0 ∨ x = 1
/-- How three comparisons go together: of the first and the second, the second and the third, the first and the third. -/
def Leads (x y z : Int) : Prop := (x = 0 → z = y) ∧ (y = 0 → z = x) ∧ (x = y → z = x)

theorem lex_three {x y : Int} (h1 : Three x) (h2 : x = 0 → Three y) : Three (if x = 0 then y else x) := by
  split
  · exact h2 ‹_›
  · exact h1
theorem lex_leads {x1 x2 x3 y1 y2 y3 : Int} (r1 : Three x1) (r2 : Three x2) (r3 : Three x3) (hx : Leads x1 x2 x3) (hy : x1 = 0 → x2 = 0 → Three y1 ∧ Three y2 ∧ Three y3 ∧ Leads y1 y2 y3) :
    Leads (if x1 = 0 then y1 else x1) (if x2 = 0 then y2 else x2) (if x3 = 0 then y3 else x3) := by
  unfold Three Leads at *
  by_cases h1 : x1 = 0
  · by_cases h2 : x2 = 0
    · obtain ⟨a, b, c, d⟩ := hy h1 h2
      have h3 : x3 = 0 := by omega
      rw [if_pos h1, if_pos h2, if_pos h3]; exact d
    · have h3 : x3 ≠ 0 := by omega
      rw [if_pos h1, if_neg h2, if_neg h3]
      have : x3 = x2 := hx.1 h1
      refine ⟨fun _ => this, fun e => absurd e h2, fun e => ?_⟩
      omega
  · by_cases h2 : x2 = 0
    · have h3 : x3 ≠ 0 := by omega
      rw [if_neg h1, if_pos h2, if_neg h3]
      have : x3 = x1 := hx.2.1 h2
      refine ⟨fun e => absurd e h1, fun _ => this, fun e => ?_⟩
      omega
    · rw [if_neg h1, if_neg h2]
      refine ⟨fun e => absurd e h1, fun e => absurd e h2, fun e => ?_⟩
      have : x3 = x1 := hx.2.2 e
      rw [if_neg (by omega)]; exact this

theorem cmpI_three (a b : Int) : Three (cmpI a b) := by unfold cmpI Three; split <;> (try split) <;> omega
theorem cmpI_turn (a b : Int) : cmpI b a = -cmpI a b := by unfold cmpI; split <;> split <;> (try split) <;> (try split) <;> omega
theorem cmpI_leads (a b c : Int) : Leads (cmpI a b) (cmpI b c) (cmpI a c) := by
  unfold cmpI Leads
  rcases Int.lt_trichotomy a b with h | h | h <;> rcases Int.lt_trichotomy b c with g | g | g <;> rcases Int.lt_trichotomy a c with e | e | e <;> simp_all <;> omega

theorem cmpB_eq (a b : UInt8) (r t : List UInt8) : Lib.compareBytes (a :: r) (b :: t) = if cmpI a.toNat b.toNat = 0 then Lib.compareBytes r t else cmpI a.toNat b.toNat := by
  rw [Lib.compareBytes]
  by_cases h1 : a < b
  · have h : a.toNat < b.toNat := h1
    have : cmpI a.toNat b.toNat = -1 := by unfold cmpI; rw [if_pos (by omega)]
    rw [if_pos h1, this]; rfl
  · have h : ¬ a.toNat < b.toNat := h1
    by_cases h2 : b < a
    · have g : b.toNat < a.toNat := h2
      have : cmpI a.toNat b.toNat = 1 := by unfold cmpI; rw [if_neg (by omega), if_pos (by omega)]
      rw [if_neg h1, if_pos h2, this]; rfl
    · have g : ¬ b.toNat < a.toNat := h2
      have : cmpI a.toNat b.toNat = 0 := by unfold cmpI; rw [if_neg (by omega), if_neg (by omega)]
      rw [if_neg h1, if_neg h2, this]; rfl
theorem cmpB_three : ∀ (a b : List UInt8), Three (Lib.compareBytes a b)
  | [], [] => .inr (.inl rfl)
  | [], _ :: _ => .inl rfl
  | _ :: _, [] => .inr (.inr rfl)
  | a :: r, b :: t => by rw [cmpB_eq]; exact lex_three (cmpI_three _ _) fun _ => cmpB_three r t
theorem cmpB_turn : ∀ (a b : List UInt8), Lib.compareBytes b a = -Lib.compareBytes a b
  | [], [] => rfl
  | [], _ :: _ => rfl
  | _ :: _, [] => rfl
  | a :: r, b :: t => by
    rw [cmpB_eq, cmpB_eq, cmpI_turn, cmpB_turn r t]
    by_cases h : cmpI (a.toNat : Int) b.toNat = 0
    · rw [if_pos (by omega), if_pos h]
    · rw [if_neg (by omega), if_neg h]
theorem leads_ends (x y : Int) (h1 : Three x) (h2 : Three y) : Leads 0 0 0 ∧ Leads (-1) x (-1) ∧ True := ⟨⟨fun _ => rfl, fun _ => rfl, fun _ => rfl⟩, ⟨fun h => by omega, fun _ => rfl, fun _ => rfl⟩, trivial⟩
theorem cmpB_leads : ∀ (a b c : List UInt8), Leads (Lib.compareBytes a b) (Lib.compareBytes b c) (Lib.compareBytes a c)
  | [], [], [] => ⟨fun _ => rfl, fun _ => rfl, fun _ => rfl⟩
  | [], [], _ :: _ => ⟨fun _ => rfl, fun h => by simp [Lib.compareBytes] at h, fun h => by simp [Lib.compareBytes] at h⟩
  | [], _ :: _, [] => ⟨fun h => by simp [Lib.compareBytes] at h, fun h => by simp [Lib.compareBytes] at h, fun h => by simp [Lib.compareBytes] at h⟩
  | _ :: _, [], [] => ⟨fun h => by simp [Lib.compareBytes] at h, fun _ => rfl, fun h => by simp [Lib.compareBytes] at h⟩
  | [], b :: t, c :: u => ⟨fun h => by simp [Lib.compareBytes] at h, fun _ => rfl, fun _ => rfl⟩
  | a :: r, [], c :: u => ⟨fun h => by simp [Lib.compareBytes] at h, fun h => by simp [Lib.compareBytes] at h, fun h => by simp [Lib.compareBytes] at h⟩
  | a :: r, b :: t, [] => by
    have h3 := cmpB_three (a :: r) (b :: t)
    refine ⟨fun _ => rfl, fun h => by simp [Lib.compareBytes] at h, fun h => ?_⟩
    have : Lib.compareBytes (b :: t) [] = 1 := rfl
    rw [this] at h
    rw [h]; rfl
  | a :: r, b :: t, c :: u => by
    rw [cmpB_eq, cmpB_eq, cmpB_eq]
    exact lex_leads (cmpI_three _ _) (cmpI_three _ _) (cmpI_three _ _) (cmpI_leads _ _ _) fun _ _ => ⟨cmpB_three r t, cmpB_three t u, cmpB_three r u, cmpB_leads r t u⟩

theorem agS_three : ∀ (a b : List ByteArray), Three (agS a b)
  | [], [] => .inr (.inl rfl)
  | [], _ :: _ => .inl rfl
  | _ :: _, [] => .inr (.inr rfl)
  | a :: r, b :: t => by rw [agS]; exact lex_three (cmpB_three _ _) fun _ => agS_three r t
theorem agS_turn : ∀ (a b : List ByteArray), agS b a = -agS a b
  | [], [] => rfl
  | [], _ :: _ => rfl
  | _ :: _, [] => rfl
  | a :: r, b :: t => by
    rw [agS, agS, cmpB_turn, agS_turn r t]
    by_cases h : Lib.compareBytes a.data.toList b.data.toList = 0
    · rw [if_pos (by omega), if_pos h]
    · rw [if_neg (by omega), if_neg h]
theorem agS_leads : ∀ (a b c : List ByteArray), Leads (agS a b) (agS b c) (agS a c)
  | [], [], [] => ⟨fun _ => rfl, fun _ => rfl, fun _ => rfl⟩
  | [], [], _ :: _ => ⟨fun _ => rfl, fun h => by simp [agS] at h, fun h => by simp [agS] at h⟩
  | [], _ :: _, [] => ⟨fun h => by simp [agS] at h, fun h => by simp [agS] at h, fun h => by simp [agS] at h⟩
  | _ :: _, [], [] => ⟨fun h => by simp [agS] at h, fun _ => rfl, fun h => by simp [agS] at h⟩
  | [], b :: t, c :: u => ⟨fun h => by simp [agS] at h, fun _ => rfl, fun _ => rfl⟩
  | a :: r, [], c :: u => ⟨fun h => by simp [agS] at h, fun h => by simp [agS] at h, fun h => by simp [agS] at h⟩
  | a :: r, b :: t, [] => by
    refine ⟨fun _ => rfl, fun h => by simp [agS] at h, fun h => ?_⟩
    have : agS (b :: t) [] = 1 := rfl
    rw [this] at h
    rw [h]; rfl
  | a :: r, b :: t, c :: u => by
    rw [agS, agS, agS]
    exact lex_leads (cmpB_three _ _) (cmpB_three _ _) (cmpB_three _ _) (cmpB_leads _ _ _) fun _ _ => ⟨agS_three r t, agS_three t u, agS_three r u, agS_leads r t u⟩

mutual
/-- Every kind is one of the eight. -/
def Known : Tree → Prop
  | .mk k _ _ _ _ ts => (0 ≤ k ∧ k ≤ 7) ∧ KnownL ts
def KnownL : List Tree → Prop
  | [] => True
  | t :: r => Known t ∧ KnownL r
end
theorem rank_inj {k k' : Int} (h : 0 ≤ k ∧ k ≤ 7) (h' : 0 ≤ k' ∧ k' ≤ 7) (e : cmpI (rankN k) (rankN k') = 0) : k = k' := by
  have e' : rankN k = rankN k' := by unfold cmpI at e; split at e <;> (try split at e) <;> omega
  unfold rankN at e'
  obtain ⟨h1, h2⟩ := h
  obtain ⟨g1, g2⟩ := h'
  have hk : k = 0 ∨ k = 1 ∨ k = 2 ∨ k = 3 ∨ k = 4 ∨ k = 5 ∨ k = 6 ∨ k = 7 := by omega
  have gk : k' = 0 ∨ k' = 1 ∨ k' = 2 ∨ k' = 3 ∨ k' = 4 ∨ k' = 5 ∨ k' = 6 ∨ k' = 7 := by omega
  rcases hk with rfl | rfl | rfl | rfl | rfl | rfl | rfl | rfl <;> rcases gk with rfl | rfl | rfl | rfl | rfl | rfl | rfl | rfl <;> first | rfl | (exfalso; revert e'; decide)

/-- What is told of two values of one kind. -/
def inK (k : Int) (b b' : Bool) (n n' : Int) (s s' : ByteArray) (ks ks' : List ByteArray) (ts ts' : List Tree) : Int :=
  if k = 5 then (if agS ks ks' = 0 then ordL ts ts' else agS ks ks') else if k = 4 then ordL ts ts' else if k = 3 then Lib.compareBytes s.data.toList s'.data.toList else if k = 1 then cmpI (truthI b) (truthI b') else cmpI n n'
theorem ordT_eq (k : Int) (b : Bool) (n : Int) (s : ByteArray) (ks : List ByteArray) (ts : List Tree) (k' : Int) (b' : Bool) (n' : Int) (s' : ByteArray) (ks' : List ByteArray) (ts' : List Tree) :
    ordT (.mk k b n s ks ts) (.mk k' b' n' s' ks' ts') = if cmpI (rankN k) (rankN k') = 0 then inK k b b' n n' s s' ks ks' ts ts' else cmpI (rankN k) (rankN k') := by rw [ordT]; rfl

mutual
theorem ordT_three : ∀ (a b : Tree), Three (ordT a b)
  | .mk k b n s ks ts, .mk k' b' n' s' ks' ts' => by
    rw [ordT_eq]
    refine lex_three (cmpI_three _ _) fun _ => ?_
    unfold inK
    split
    · exact lex_three (agS_three _ _) fun _ => ordL_three ts ts'
    split
    · exact ordL_three ts ts'
    split
    · exact cmpB_three _ _
    split
    · exact cmpI_three _ _
    · exact cmpI_three _ _
theorem ordL_three : ∀ (a b : List Tree), Three (ordL a b)
  | [], [] => .inr (.inl rfl)
  | [], _ :: _ => .inl rfl
  | _ :: _, [] => .inr (.inr rfl)
  | a :: r, b :: t => by rw [ordL]; exact lex_three (ordT_three a b) fun _ => ordL_three r t
end
theorem lex_turn {x x' y y' : Int} (h : x' = -x) (g : x = 0 → y' = -y) : (if x' = 0 then y' else x') = -(if x = 0 then y else x) := by
  by_cases e : x = 0
  · rw [if_pos (by omega), if_pos e]; exact g e
  · rw [if_neg (by omega), if_neg e]; exact h
mutual
theorem ordT_turn : ∀ (a b : Tree), Known a → Known b → ordT b a = -ordT a b
  | .mk k b n s ks ts, .mk k' b' n' s' ks' ts', h, h' => by
    simp only [Known] at h h'
    rw [ordT_eq, ordT_eq]
    refine lex_turn (cmpI_turn _ _) fun e => ?_
    have := rank_inj h.1 h'.1 e
    subst this
    unfold inK
    by_cases h5 : k = 5
    · rw [if_pos h5, if_pos h5]; exact lex_turn (agS_turn _ _) fun _ => ordL_turn ts ts' h.2 h'.2
    rw [if_neg h5, if_neg h5]
    by_cases h4 : k = 4
    · rw [if_pos h4, if_pos h4]; exact ordL_turn ts ts' h.2 h'.2
    rw [if_neg h4, if_neg h4]
    by_cases h3 : k = 3
    · rw [if_pos h3, if_pos h3]; exact cmpB_turn _ _
    rw [if_neg h3, if_neg h3]
    by_cases h1 : k = 1
    · rw [if_pos h1, if_pos h1]; exact cmpI_turn _ _
    rw [if_neg h1, if_neg h1]; exact cmpI_turn _ _
theorem ordL_turn : ∀ (a b : List Tree), KnownL a → KnownL b → ordL b a = -ordL a b
  | [], [], _, _ => rfl
  | [], _ :: _, _, _ => rfl
  | _ :: _, [], _, _ => rfl
  | a :: r, b :: t, h, h' => by
    simp only [KnownL] at h h'
    rw [ordL, ordL]
    exact lex_turn (ordT_turn a b h.1 h'.1) fun _ => ordL_turn r t h.2 h'.2
end
mutual
theorem ordT_leads : ∀ (a b c : Tree), Known a → Known b → Known c → Leads (ordT a b) (ordT b c) (ordT a c)
  | .mk k b n s ks ts, .mk k' b' n' s' ks' ts', .mk k2 b2 n2 s2 ks2 ts2, h, h', h2 => by
    simp only [Known] at h h' h2
    rw [ordT_eq, ordT_eq, ordT_eq]
    refine lex_leads (cmpI_three _ _) (cmpI_three _ _) (cmpI_three _ _) (cmpI_leads _ _ _) fun e1 e2 => ?_
    have := rank_inj h.1 h'.1 e1
    subst this
    have := rank_inj h'.1 h2.1 e2
    subst this
    have t1 := ordT_three (.mk k b n s ks ts) (.mk k b' n' s' ks' ts')
    have t2 := ordT_three (.mk k b' n' s' ks' ts') (.mk k b2 n2 s2 ks2 ts2)
    have t3 := ordT_three (.mk k b n s ks ts) (.mk k b2 n2 s2 ks2 ts2)
    rw [ordT_eq, if_pos e1] at t1
    rw [ordT_eq, if_pos e2] at t2
    rw [ordT_eq, if_pos e2] at t3
    refine ⟨t1, t2, t3, ?_⟩
    unfold inK
    by_cases h5 : k = 5
    · rw [if_pos h5, if_pos h5, if_pos h5]
      exact lex_leads (agS_three _ _) (agS_three _ _) (agS_three _ _) (agS_leads _ _ _) fun _ _ => ⟨ordL_three _ _, ordL_three _ _, ordL_three _ _, ordL_leads ts ts' ts2 h.2 h'.2 h2.2⟩
    rw [if_neg h5, if_neg h5, if_neg h5]
    by_cases h4 : k = 4
    · rw [if_pos h4, if_pos h4, if_pos h4]; exact ordL_leads ts ts' ts2 h.2 h'.2 h2.2
    rw [if_neg h4, if_neg h4, if_neg h4]
    by_cases h3 : k = 3
    · rw [if_pos h3, if_pos h3, if_pos h3]; exact cmpB_leads _ _ _
    rw [if_neg h3, if_neg h3, if_neg h3]
    by_cases h1 : k = 1
    · rw [if_pos h1, if_pos h1, if_pos h1]; exact cmpI_leads _ _ _
    rw [if_neg h1, if_neg h1, if_neg h1]; exact cmpI_leads _ _ _
theorem ordL_leads : ∀ (a b c : List Tree), KnownL a → KnownL b → KnownL c → Leads (ordL a b) (ordL b c) (ordL a c)
  | [], [], [], _, _, _ => ⟨fun _ => rfl, fun _ => rfl, fun _ => rfl⟩
  | [], [], _ :: _, _, _, _ => ⟨fun _ => rfl, fun h => by simp [ordL] at h, fun h => by simp [ordL] at h⟩
  | [], _ :: _, [], _, _, _ => ⟨fun h => by simp [ordL] at h, fun h => by simp [ordL] at h, fun h => by simp [ordL] at h⟩
  | _ :: _, [], [], _, _, _ => ⟨fun h => by simp [ordL] at h, fun _ => rfl, fun h => by simp [ordL] at h⟩
  | [], b :: t, c :: u, _, _, _ => ⟨fun h => by simp [ordL] at h, fun _ => rfl, fun _ => rfl⟩
  | a :: r, [], c :: u, _, _, _ => ⟨fun h => by simp [ordL] at h, fun h => by simp [ordL] at h, fun h => by simp [ordL] at h⟩
  | a :: r, b :: t, [], _, _, _ => by
    refine ⟨fun _ => rfl, fun h => by simp [ordL] at h, fun h => ?_⟩
    have : ordL (b :: t) [] = 1 := rfl
    rw [this] at h
    rw [h]; rfl
  | a :: r, b :: t, c :: u, h, h', h2 => by
    simp only [KnownL] at h h' h2
    rw [ordL, ordL, ordL]
    exact lex_leads (ordT_three _ _) (ordT_three _ _) (ordT_three _ _) (ordT_leads a b c h.1 h'.1 h2.1) fun _ _ => ⟨ordL_three r t, ordL_three t u, ordL_three r u, ordL_leads r t u h.2 h'.2 h2.2⟩
end
theorem ordT_self (a : Tree) (h : Known a) : ordT a a = 0 := by have := ordT_turn a a h h; omega

mutual
theorem known_pre : ∀ (T : Tree) (d : Int), (T.pre d).all (fun x => shapedB x.2) = true → Known T
  | .mk k b n s ks ts, d, h => by
    rw [Tree.pre, List.all_cons, Bool.and_eq_true] at h
    rw [Known]
    refine ⟨?_, knownL_pre ts (d + 1) h.2⟩
    have := h.1
    unfold shapedB at this
    rw [Bool.and_eq_true] at this
    have h1 := this.1
    by_cases g : 0 ≤ k ∧ k ≤ 7
    · exact g
    · rw [if_neg (by omega), if_neg (by omega), if_neg (by omega), if_neg (by omega), if_neg (by omega), if_neg (by omega), if_neg (by omega)] at h1
      cases h1
theorem knownL_pre : ∀ (l : List Tree) (d : Int), (Tree.preL d l).all (fun x => shapedB x.2) = true → KnownL l
  | [], _, _ => by simp only [KnownL]
  | t :: ts, d, h => by
    rw [Tree.preL, List.all_append, Bool.and_eq_true] at h
    rw [KnownL]
    exact ⟨known_pre t d h.1, knownL_pre ts d h.2⟩
end
theorem known_check {T : Tree} (h : checkN T = 0) : Known T := by
  unfold checkN at h
  by_cases g : (T.pre 1).all (fun x => shapedB x.2) = true
  · exact known_pre T 1 g
  · rw [if_neg g] at h; omega
end Go.Proofs.YtbpmhgcjefpigaaGreatDoor

