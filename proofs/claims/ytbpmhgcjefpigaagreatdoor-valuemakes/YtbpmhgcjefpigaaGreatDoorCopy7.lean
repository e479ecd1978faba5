/- The list of a value is copied, with one place more: the last statement of copied, operation by operation, in whatever order. -/
import Derived.Test.YtbpmhgcjefpigaaGreatDoorJoin19
namespace Go.Proofs.YtbpmhgcjefpigaaGreatDoor
open Go.RowKit Go.Shelf Go.WideShapes
set_option linter.unusedVariables false
set_option linter.unusedSimpArgs false
noncomputable def RC7 : Array Oper := regionAt Tryz.f17 7
def ancC7 (i : Nat) : List Nat := ([[], [], [1], [0, 1, 2], [], [4], [4, 5], [0, 1, 2, 3, 4, 5, 6], [0, 1, 2, 3, 4, 5, 6, 7], [0, 1, 2, 3, 4, 5, 6, 7, 8]] : List (List Nat)).getD i []
abbrev six77 : List Value := [.int .i64 77, .bool false, .int .i64 0, .string ⟨#[]⟩, .slice none 0 0, .slice none 0 0]
def gC7 (bx n lc : Nat) (la : Option Addr) (lv : Value) (i : Nat) (v : Value) : Prop :=
  ([fun v => v = (lv), fun v => v = (.agg #[.int .i64 77, .bool false, .int .i64 0, .string ⟨#[]⟩, .slice none 0 0, .slice none 0 0]), fun _ => True, fun v => ∃ g cap, v = .slice (some ⟨g, 0, none⟩) (n + 1) cap ∧ n < cap ∧ cap ≤ maxLen, fun v => v = (.pointer (some ⟨bx, 5, none⟩)), fun v => v = (.slice la n lc), fun v => v = (.int .i64 (n : Int)), fun _ => True, fun v => v = (.pointer (some ⟨bx, 5, none⟩)), fun _ => True] : List (Value → Prop)).getD i (fun _ => True) v
structure SC7 (bx n lc base : Nat) (la : Option Addr) (lv : Value) (xs : List Value) (w0 : World) (l : Nat → Bool) (vs : Nat → Value) (w : World) : Prop where
  ahead : l 3 = false → Below w0.heap.size w0 w
  laid : l 2 = true → l 3 = false → ∃ t, vs 2 = .slice (some ⟨t, 0, none⟩) 1 1 ∧ ∀ j u, six77[j]? = some u → w.cell? ⟨t, j, none⟩ = some u
  done : l 3 = true → l 9 = false → w.ownsRow base 26 6 (vs 3) (n + 1) (xs ++ six77) ∧ w0.grownBy w lv.ownBlock ∧ ((vs 3).ownBlock = lv.ownBlock ∨ ∃ g, (vs 3).ownBlock = some g ∧ w0.heap.size ≤ g)
  cut : l 7 = true → ∃ g cap, vs 3 = .slice (some ⟨g, 0, none⟩) (n + 1) cap ∧ vs 7 = .slice (some ⟨g, 0, none⟩) n cap
  last : l 9 = true → ∃ W, (W.ownsRow base 26 6 (vs 3) (n + 1) (xs ++ six77) ∧ w0.grownBy W lv.ownBlock ∧ ((vs 3).ownBlock = lv.ownBlock ∨ ∃ g, (vs 3).ownBlock = some g ∧ w0.heap.size ≤ g)) ∧ w = W.setCell ⟨bx, 5, none⟩ (vs 7)
theorem SC7.lift {bx n lc base : Nat} {la : Option Addr} {lv : Value} {xs : List Value} {w0 : World} {l : Nat → Bool} {vs : Nat → Value} {w : World} (h : SC7 bx n lc base la lv xs w0 l vs w) {i : Nat} (v : Value) (h2 : i ≠ 2) (h3 : i ≠ 3) (h7 : i ≠ 7) (h9 : i ≠ 9) : SC7 bx n lc base la lv xs w0 (upd l i true) (upd vs i v) w := by
  have e2 : upd l i true 2 = l 2 := upd_other _ _ (Ne.symm h2)
  have e3 : upd l i true 3 = l 3 := upd_other _ _ (Ne.symm h3)
  have e7 : upd l i true 7 = l 7 := upd_other _ _ (Ne.symm h7)
  have e9 : upd l i true 9 = l 9 := upd_other _ _ (Ne.symm h9)
  have f2 : upd vs i v 2 = vs 2 := upd_other _ _ (Ne.symm h2)
  have f3 : upd vs i v 3 = vs 3 := upd_other _ _ (Ne.symm h3)
  have f7 : upd vs i v 7 = vs 7 := upd_other _ _ (Ne.symm h7)
  exact ⟨by rw [e3]; exact h.ahead, by rw [e2, e3, f2]; exact h.laid, by rw [e3, e9, f3]; exact h.done, by rw [e7, f3, f7]; exact h.cut, by rw [e9, f3, f7]; exact h.last⟩
structure BC7 (bx n lc base : Nat) (la : Option Addr) (lv : Value) (xs : List Value) (w0 : World) (c : Act) : Prop where
  t1 : c.eval (.tmp 1) = .pointer (some ⟨bx, 0, none⟩)
  t3 : c.eval (.tmp 3) = lv
  size : c.tmps.size = 42
structure WC7 (bx n lc base : Nat) (la : Option Addr) (lv : Value) (xs : List Value) (w0 : World) : Prop where
  box : w0.cell? ⟨bx, 5, none⟩ = some (.slice la n lc)
  free : w0.frozen? ⟨bx, 5, none⟩ = false
  own : w0.ownsRow base 26 6 lv n xs
  low : base ≤ w0.heap.size
  under : bx < base
  few : n ≤ 900000
theorem WC7.far {bx n lc base : Nat} {la : Option Addr} {lv : Value} {xs : List Value} {w0 : World} (hW : WC7 bx n lc base la lv xs w0) : some bx ≠ lv.ownBlock := fun e => by
  have := (hW.own.lt bx e.symm).1
  have := hW.under
  omega
theorem SC7.box {bx n lc base : Nat} {la : Option Addr} {lv : Value} {xs : List Value} {w0 : World} {l : Nat → Bool} {vs : Nat → Value} {w : World} (hS : SC7 bx n lc base la lv xs w0 l vs w) (hW : WC7 bx n lc base la lv xs w0) (h9 : l 9 = false) : w.cell? ⟨bx, 5, none⟩ = some (.slice la n lc) ∧ w.frozen? ⟨bx, 5, none⟩ = false := by
  have hbx : bx < w0.heap.size := lt_of_cell hW.box
  cases h : l 3 with
  | false => exact ⟨((hS.ahead h).cell (p := ⟨bx, 5, none⟩) hbx).trans hW.box, (World.frozen?_of_block ((hS.ahead h).block bx hbx)).trans hW.free⟩
  | true =>
    obtain ⟨_, hg, _⟩ := hS.done h h9
    exact ⟨(World.cell?_of_block (hg.block bx hbx hW.far)).trans hW.box, (World.frozen?_of_block (hg.block bx hbx hW.far)).trans hW.free⟩
def stepC7 (bx n lc base : Nat) (la : Option Addr) (lv : Value) (xs : List Value) (w0 : World) (Q : Exit → Act → World → Prop) (i : Nat) : Prop := ∀ (l : Nat → Bool) (c : Act) (w : World), (BC7 bx n lc base la lv xs w0 c) → (WC7 bx n lc base la lv xs w0) → (l i = false) → (∀ k, l k = true → ∀ j ∈ ancC7 k, l j = true) → (∀ j ∈ ancC7 i, l j = true ∧ gC7 bx n lc la lv j (val RC7 c j)) → (SC7 bx n lc base la lv xs w0 l (val RC7 c) w) → Steps' Tryz.prog RC7 Q (gC7 bx n lc la lv) (SC7 bx n lc base la lv xs w0) i l c w
theorem wnC7 {i : Nat} {o : Oper} {c : Act} (ho : RC7[i]? = some o) (h : o.guard = none) : Region.wanted o (yielded RC7 c.tmps) = true := want_none h
section
variable (bx n lc base : Nat) (la : Option Addr) (lv : Value) (xs : List Value) (w0 : World) (Q : Exit → Act → World → Prop)
set_option maxRecDepth 10000 in
theorem oC7_0 : stepC7 bx n lc base la lv xs w0 Q 0 := by
  intro l c w hb hW hli hcl hA hS
  have ho : RC7[0]? = some ({ dst := some 32, op := Op.move (Operand.tmp 3), type := 24, pos := "law.go:49", after := #[], guard := none } : Oper) := by kernel_rfl
  have e3 := hb.t3
  have hw := wnC7 (c := c) ho rfl
  have ec : ∀ v, c.eval (.const v) = v := fun _ => rfl
  have h9 : l 9 = false := by
    cases h : l 9 with
    | false => rfl
    | true => have := hcl 9 h 0 (by decide); rw [hli] at this; cases this
  refine steps_value (d := 32) ho rfl (by rw [hb.size]; decide) hw (v := lv) ?_ rfl (hS.lift _ (by decide) (by decide) (by decide) (by decide))
  generalize c.eval = ρ at *
  clear hA hb hW hw ho hS hcl hli
  go_simp
set_option maxRecDepth 10000 in
theorem oC7_1 : stepC7 bx n lc base la lv xs w0 Q 1 := by
  intro l c w hb hW hli hcl hA hS
  have ho : RC7[1]? = some ({ dst := some 33, op := Op.build 26 #[(0, Operand.const (Value.int IntKind.i64 77))], type := 26, pos := "law.go:49", after := #[], guard := none } : Oper) := by kernel_rfl
  have hw := wnC7 (c := c) ho rfl
  have ec : ∀ v, c.eval (.const v) = v := fun _ => rfl
  have h9 : l 9 = false := by
    cases h : l 9 with
    | false => rfl
    | true => have := hcl 9 h 1 (by decide); rw [hli] at this; cases this
  refine steps_value (d := 33) ho rfl (by rw [hb.size]; decide) hw (v := .agg #[.int .i64 77, .bool false, .int .i64 0, .string ⟨#[]⟩, .slice none 0 0, .slice none 0 0]) ?_ rfl (hS.lift _ (by decide) (by decide) (by decide) (by decide))
  generalize c.eval = ρ at *
  clear hA hb hW hw ho hS hcl hli
  go_simp
set_option maxRecDepth 10000 in
theorem oC7_2 : stepC7 bx n lc base la lv xs w0 Q 2 := by
  intro l c w hb hW hli hcl hA hS
  have ho : RC7[2]? = some ({ dst := some 34, op := Op.buildSlice 24 1 #[(0, Operand.tmp 33)], type := 24, pos := "law.go:49", after := #[{ on := 1, ground := Ground.data }], guard := none } : Oper) := by kernel_rfl
  have e33 : c.eval (.tmp 33) = .agg #[.int .i64 77, .bool false, .int .i64 0, .string ⟨#[]⟩, .slice none 0 0, .slice none 0 0] := by have h := (hA 1 (by decide)).2; rw [val_eq (show slotOf RC7 1 = some 33 by kernel_rfl)] at h; exact h
  have hw := wnC7 (c := c) ho rfl
  have ec : ∀ v, c.eval (.const v) = v := fun _ => rfl
  have h9 : l 9 = false := by
    cases h : l 9 with
    | false => rfl
    | true => have := hcl 9 h 2 (by decide); rw [hli] at this; cases this
  have h3 : l 3 = false := by
    cases h : l 3 with
    | false => rfl
    | true => have := hcl 3 h 2 (by decide); rw [hli] at this; cases this
  have h7 : l 7 = false := by
    cases h : l 7 with
    | false => rfl
    | true => have := hcl 7 h 2 (by decide); rw [hli] at this; cases this
  refine steps_value (d := 34) ho rfl (by rw [hb.size]; decide) hw (v := .slice (some ⟨w.heap.size, 0, none⟩) 1 1) (w' := w.alloc (.cells #[.int .i64 77, .bool false, .int .i64 0, .string ⟨#[]⟩, .slice none 0 0, .slice none 0 0] 26)) ?_ trivial ?_
  · generalize c.eval = ρ at *
    clear hA hb hW hw ho hS hcl hli
    go_simp
  · have hbel := hS.ahead h3
    have n3 : upd l 2 true 3 = false := by rw [upd_other _ _ (by decide)]; exact h3
    have n7 : upd l 2 true 7 = false := by rw [upd_other _ _ (by decide)]; exact h7
    have n9 : upd l 2 true 9 = false := by rw [upd_other _ _ (by decide)]; exact h9
    refine ⟨fun _ => hbel.alloc hbel.size _, fun _ _ => ⟨w.heap.size, by rw [upd_same], fun j u hj => cell_new _ _ _ j _ (by simpa using hj)⟩, fun h => (by rw [n3] at h; cases h), fun h => (by rw [n7] at h; cases h), fun h => (by rw [n9] at h; cases h)⟩
set_option maxRecDepth 10000 in
theorem oC7_3 : stepC7 bx n lc base la lv xs w0 Q 3 := by
  intro l c w hb hW hli hcl hA hS
  have ho : RC7[3]? = some ({ dst := some 35, op := Op.call { callee := Callee.builtin Builtin.append, args := #[Operand.tmp 32, Operand.tmp 34], argTypes := #[24, 24] }, type := 24, pos := "law.go:49", after := #[{ on := 0, ground := Ground.data }, { on := 2, ground := Ground.data }], guard := none } : Oper) := by kernel_rfl
  have e32 : c.eval (.tmp 32) = lv := by have h := (hA 0 (by decide)).2; rw [val_eq (show slotOf RC7 0 = some 32 by kernel_rfl)] at h; exact h
  have e34 : c.eval (.tmp 34) = val RC7 c 2 := (val_eq (show slotOf RC7 2 = some 34 by kernel_rfl)).symm
  have hw := wnC7 (c := c) ho rfl
  have ec : ∀ v, c.eval (.const v) = v := fun _ => rfl
  have h9 : l 9 = false := by
    cases h : l 9 with
    | false => rfl
    | true => have := hcl 9 h 3 (by decide); rw [hli] at this; cases this
  have h7 : l 7 = false := by
    cases h : l 7 with
    | false => rfl
    | true => have := hcl 7 h 3 (by decide); rw [hli] at this; cases this
  have h2 : l 2 = true := (hA 2 (by decide)).1
  have hbel := hS.ahead hli
  have hown : w.ownsRow base 26 6 lv n xs := by
    obtain ⟨g1, ⟨g2, g3⟩ | ⟨g, cap, cur, g2, g3, g4, g5⟩⟩ := hW.own
    · exact ⟨g1, .inl ⟨g2, g3⟩⟩
    · exact ⟨g1, .inr ⟨g, cap, cur, g2, g3, (hbel.block g (Array.getElem?_eq_some_iff.1 g4).1).trans g4, g5⟩⟩
  obtain ⟨t, ht, hcell⟩ := hS.laid h2 hli
  obtain ⟨i0, hi, hz0, hz1, hz2⟩ := info_parts Tryz.info26
  refine steps_law (d := 35) ho rfl (by rw [hb.size]; decide) fun K hK => ?_
  refine step_append_lies w rfl (.tmp 32) (.tmp 34) 24 rfl base 26 i0 (.agg #[.int .i64 0, .bool false, .int .i64 0, .string ⟨#[]⟩, .slice none 0 0, .slice none 0 0]) 6 88 Tryz.underlying24 hi hz0 hz1 hz2 rfl (by decide) lv n xs e32 hown ⟨t, 0, none⟩ 1 1 six77 (e34.trans ht) rfl ?_ ?_ (by decide) (by have := hW.few; unfold maxLen; omega) (by have := hW.few; omega) (Nat.le_trans hW.low hbel.size) w.heap.size rfl ?_
  · intro j u hj
    rw [add_plain, Nat.zero_add]; exact hcell j u hj
  · intro u hu
    simp only [six77, List.mem_cons, List.not_mem_nil, or_false] at hu
    rcases hu with rfl | rfl | rfl | rfl | rfl | rfl <;> rfl
  · intro g cap w' g1 g2 g3 g4
    have n7 : upd l 3 true 7 = false := by rw [upd_other _ _ (by decide)]; exact h7
    have n9 : upd l 3 true 9 = false := by rw [upd_other _ _ (by decide)]; exact h9
    refine hK _ _ ⟨g, cap, rfl, ?_⟩ ⟨fun h => (by rw [upd_same] at h; cases h), fun _ h => (by rw [upd_same] at h; cases h), fun _ _ => ?_, fun h => (by rw [n7] at h; cases h), fun h => (by rw [n9] at h; cases h)⟩
    · obtain ⟨_, ⟨q1, _⟩ | ⟨g', cap', cur, q1, q2, q3, q4, q5, _⟩⟩ := g1
      · cases q1
      · injection q1 with _ _ q6
        subst q6
        exact ⟨q4, q5⟩
    · rw [upd_same]
      refine ⟨g1, ⟨g2.os.trans hbel.os, g2.tape.trans hbel.tape, g2.output.trans hbel.output, Nat.le_trans hbel.size g2.size, fun k hk hne => (g2.block k (Nat.lt_of_lt_of_le hk hbel.size) hne).trans (hbel.block k hk)⟩, ?_⟩
      have hle := hbel.size
      rcases g3 with g3 | g3
      · exact .inl (by rw [g3]; rfl)
      · exact .inr ⟨g, rfl, by omega⟩
set_option maxRecDepth 10000 in
theorem oC7_4 : stepC7 bx n lc base la lv xs w0 Q 4 := by
  intro l c w hb hW hli hcl hA hS
  have ho : RC7[4]? = some ({ dst := some 36, op := Op.fieldAddr 26 (Operand.tmp 1) 5, type := 0, pos := "law.go:49", after := #[], guard := none } : Oper) := by kernel_rfl
  have e1 := hb.t1
  have hw := wnC7 (c := c) ho rfl
  have ec : ∀ v, c.eval (.const v) = v := fun _ => rfl
  have h9 : l 9 = false := by
    cases h : l 9 with
    | false => rfl
    | true => have := hcl 9 h 4 (by decide); rw [hli] at this; cases this
  refine steps_value (d := 36) ho rfl (by rw [hb.size]; decide) hw (v := .pointer (some ⟨bx, 5, none⟩)) ?_ rfl (hS.lift _ (by decide) (by decide) (by decide) (by decide))
  generalize c.eval = ρ at *
  clear hA hb hW hw ho hS hcl hli
  go_simp
set_option maxRecDepth 10000 in
theorem oC7_5 : stepC7 bx n lc base la lv xs w0 Q 5 := by
  intro l c w hb hW hli hcl hA hS
  have ho : RC7[5]? = some ({ dst := some 37, op := Op.load 24 (Operand.tmp 36), type := 24, pos := "law.go:49", after := #[{ on := 4, ground := Ground.data }], guard := none } : Oper) := by kernel_rfl
  have e36 : c.eval (.tmp 36) = .pointer (some ⟨bx, 5, none⟩) := by have h := (hA 4 (by decide)).2; rw [val_eq (show slotOf RC7 4 = some 36 by kernel_rfl)] at h; exact h
  have hw := wnC7 (c := c) ho rfl
  have ec : ∀ v, c.eval (.const v) = v := fun _ => rfl
  have h9 : l 9 = false := by
    cases h : l 9 with
    | false => rfl
    | true => have := hcl 9 h 5 (by decide); rw [hli] at this; cases this
  have hc := (hS.box hW h9).1
  refine steps_value (d := 37) ho rfl (by rw [hb.size]; decide) hw (v := .slice la n lc) ?_ rfl (hS.lift _ (by decide) (by decide) (by decide) (by decide))
  generalize c.eval = ρ at *
  clear hA hb hW hw ho hS hcl hli
  go_simp
set_option maxRecDepth 10000 in
theorem oC7_6 : stepC7 bx n lc base la lv xs w0 Q 6 := by
  intro l c w hb hW hli hcl hA hS
  have ho : RC7[6]? = some ({ dst := some 38, op := Op.call { callee := Callee.builtin Builtin.len, args := #[Operand.tmp 37], argTypes := #[24] }, type := 3, pos := "law.go:49", after := #[{ on := 5, ground := Ground.data }], guard := none } : Oper) := by kernel_rfl
  have e37 : c.eval (.tmp 37) = .slice la n lc := by have h := (hA 5 (by decide)).2; rw [val_eq (show slotOf RC7 5 = some 37 by kernel_rfl)] at h; exact h
  have hw := wnC7 (c := c) ho rfl
  have ec : ∀ v, c.eval (.const v) = v := fun _ => rfl
  have h9 : l 9 = false := by
    cases h : l 9 with
    | false => rfl
    | true => have := hcl 9 h 6 (by decide); rw [hli] at this; cases this
  refine steps_value (d := 38) ho rfl (by rw [hb.size]; decide) hw (v := .int .i64 (n : Int)) ?_ rfl (hS.lift _ (by decide) (by decide) (by decide) (by decide))
  generalize c.eval = ρ at *
  clear hA hb hW hw ho hS hcl hli
  go_simp
set_option maxRecDepth 10000 in
theorem oC7_7 : stepC7 bx n lc base la lv xs w0 Q 7 := by
  intro l c w hb hW hli hcl hA hS
  have ho : RC7[7]? = some ({ dst := some 39, op := Op.slice 24 (Operand.tmp 35) none (some (Operand.tmp 38)) none, type := 24, pos := "law.go:49", after := #[{ on := 3, ground := Ground.data }, { on := 6, ground := Ground.data }], guard := none } : Oper) := by kernel_rfl
  have e35 : c.eval (.tmp 35) = val RC7 c 3 := (val_eq (show slotOf RC7 3 = some 35 by kernel_rfl)).symm
  have e38 : c.eval (.tmp 38) = .int .i64 (n : Int) := by have h := (hA 6 (by decide)).2; rw [val_eq (show slotOf RC7 6 = some 38 by kernel_rfl)] at h; exact h
  have hw := wnC7 (c := c) ho rfl
  have ec : ∀ v, c.eval (.const v) = v := fun _ => rfl
  have h9 : l 9 = false := by
    cases h : l 9 with
    | false => rfl
    | true => have := hcl 9 h 7 (by decide); rw [hli] at this; cases this
  have h3 : l 3 = true := (hA 3 (by decide)).1
  obtain ⟨g, cap, hg, hlt, hle⟩ := (hA 3 (by decide)).2
  refine steps_value (d := 39) ho rfl (by rw [hb.size]; decide) hw (v := .slice (some ⟨g, 0, none⟩) n cap) (w' := w) ?_ trivial ?_
  · rw [hg] at e35
    have hle' : cap ≤ 9223372036854775807 := by unfold maxLen at hle; omega
    have hlt' : n ≤ cap := Nat.le_of_lt hlt
    generalize c.eval = ρ at *
    clear hA hb hW hw ho hS hcl hli
    go_simp
  · have m2 : upd l 7 true 2 = l 2 := upd_other _ _ (by decide)
    have m3 : upd l 7 true 3 = l 3 := upd_other _ _ (by decide)
    have m9 : upd l 7 true 9 = l 9 := upd_other _ _ (by decide)
    have f2 : ∀ v, upd (val RC7 c) 7 v 2 = val RC7 c 2 := fun v => upd_other _ _ (by decide)
    have f3 : ∀ v, upd (val RC7 c) 7 v 3 = val RC7 c 3 := fun v => upd_other _ _ (by decide)
    exact ⟨by rw [m3]; exact hS.ahead, by rw [m2, m3, f2]; exact hS.laid, by rw [m3, m9, f3]; exact hS.done, fun _ => ⟨g, cap, by rw [f3]; exact hg, by rw [upd_same]⟩, fun h => (by rw [m9, h9] at h; cases h)⟩
set_option maxRecDepth 10000 in
theorem oC7_8 : stepC7 bx n lc base la lv xs w0 Q 8 := by
  intro l c w hb hW hli hcl hA hS
  have ho : RC7[8]? = some ({ dst := some 40, op := Op.fieldAddr 26 (Operand.tmp 1) 5, type := 0, pos := "law.go:49", after := #[{ on := 0, ground := Ground.phase }, { on := 1, ground := Ground.phase }, { on := 2, ground := Ground.phase }, { on := 3, ground := Ground.phase }, { on := 4, ground := Ground.phase }, { on := 5, ground := Ground.phase }, { on := 6, ground := Ground.phase }, { on := 7, ground := Ground.phase }], guard := none } : Oper) := by kernel_rfl
  have e1 := hb.t1
  have hw := wnC7 (c := c) ho rfl
  have ec : ∀ v, c.eval (.const v) = v := fun _ => rfl
  have h9 : l 9 = false := by
    cases h : l 9 with
    | false => rfl
    | true => have := hcl 9 h 8 (by decide); rw [hli] at this; cases this
  refine steps_value (d := 40) ho rfl (by rw [hb.size]; decide) hw (v := .pointer (some ⟨bx, 5, none⟩)) ?_ rfl (hS.lift _ (by decide) (by decide) (by decide) (by decide))
  generalize c.eval = ρ at *
  clear hA hb hW hw ho hS hcl hli
  go_simp
set_option maxRecDepth 10000 in
theorem oC7_9 : stepC7 bx n lc base la lv xs w0 Q 9 := by
  intro l c w hb hW hli hcl hA hS
  have ho : RC7[9]? = some ({ dst := none, op := Op.store 24 (Operand.tmp 40) (Operand.tmp 39), type := 0, pos := "law.go:49", after := #[{ on := 8, ground := Ground.data }, { on := 7, ground := Ground.data }, { on := 3, ground := Ground.chain }, { on := 0, ground := Ground.phase }, { on := 1, ground := Ground.phase }, { on := 2, ground := Ground.phase }, { on := 3, ground := Ground.phase }, { on := 4, ground := Ground.phase }, { on := 5, ground := Ground.phase }, { on := 6, ground := Ground.phase }, { on := 7, ground := Ground.phase }], guard := none } : Oper) := by kernel_rfl
  have e39 : c.eval (.tmp 39) = val RC7 c 7 := (val_eq (show slotOf RC7 7 = some 39 by kernel_rfl)).symm
  have e40 : c.eval (.tmp 40) = .pointer (some ⟨bx, 5, none⟩) := by have h := (hA 8 (by decide)).2; rw [val_eq (show slotOf RC7 8 = some 40 by kernel_rfl)] at h; exact h
  have hw := wnC7 (c := c) ho rfl
  have ec : ∀ v, c.eval (.const v) = v := fun _ => rfl
  have h3 : l 3 = true := (hA 3 (by decide)).1
  have h7 : l 7 = true := (hA 7 (by decide)).1
  have hdone := hS.done h3 hli
  obtain ⟨g, cap, hg3, hg7⟩ := hS.cut h7
  obtain ⟨hc, hf⟩ := hS.box hW hli
  refine steps_store ho rfl hw (w' := w.setCell ⟨bx, 5, none⟩ (val RC7 c 7)) ?_ trivial ⟨fun h => ?_, fun _ h => ?_, fun _ h => ?_, fun _ => ?_, fun _ => ?_⟩
  · rw [hg7] at e39 ⊢
    generalize c.eval = ρ at *
    clear hA hb hW hw ho hS hcl hli hdone
    go_simp
  · rw [upd_other _ _ (by decide), h3] at h; cases h
  · rw [upd_other _ _ (by decide), h3] at h; cases h
  · rw [upd_same] at h; cases h
  · rw [upd_other _ _ (by decide), upd_other _ _ (by decide)]; exact ⟨g, cap, hg3, hg7⟩
  · rw [upd_other _ _ (by decide), upd_other _ _ (by decide)]; exact ⟨w, hdone, rfl⟩
end
set_option maxRecDepth 100000 in
theorem allC7 (bx n lc base : Nat) (la : Option Addr) (lv : Value) (xs : List Value) (w0 : World) (Q : Exit → Act → World → Prop) (hW : WC7 bx n lc base la lv xs w0) : ∀ i, i < 10 → (fun i => ∀ l c w, BC7 bx n lc base la lv xs w0 c → l i = false → (∀ k, l k = true → ∀ j ∈ ancC7 k, l j = true) → (∀ j ∈ ancC7 i, l j = true ∧ gC7 bx n lc la lv j (val RC7 c j)) → SC7 bx n lc base la lv xs w0 l (val RC7 c) w → Steps' Tryz.prog RC7 Q (gC7 bx n lc la lv) (SC7 bx n lc base la lv xs w0) i l c w) i := by
  refine below_succ ?_ (fun l c w hb => oC7_9 bx n lc base la lv xs w0 Q l c w hb hW)
  refine below_succ ?_ (fun l c w hb => oC7_8 bx n lc base la lv xs w0 Q l c w hb hW)
  refine below_succ ?_ (fun l c w hb => oC7_7 bx n lc base la lv xs w0 Q l c w hb hW)
  refine below_succ ?_ (fun l c w hb => oC7_6 bx n lc base la lv xs w0 Q l c w hb hW)
  refine below_succ ?_ (fun l c w hb => oC7_5 bx n lc base la lv xs w0 Q l c w hb hW)
  refine below_succ ?_ (fun l c w hb => oC7_4 bx n lc base la lv xs w0 Q l c w hb hW)
  refine below_succ ?_ (fun l c w hb => oC7_3 bx n lc base la lv xs w0 Q l c w hb hW)
  refine below_succ ?_ (fun l c w hb => oC7_2 bx n lc base la lv xs w0 Q l c w hb hW)
  refine below_succ ?_ (fun l c w hb => oC7_1 bx n lc base la lv xs w0 Q l c w hb hW)
  refine below_succ ?_ (fun l c w hb => oC7_0 bx n lc base la lv xs w0 Q l c w hb hW)
  exact below_zero
/-- The statement that copies the list. -/
theorem regionC7 (bx n lc base : Nat) (la : Option Addr) (lv : Value) (xs : List Value) (w0 : World) (Q : Exit → Act → World → Prop) (frame : Act) (hb : BC7 bx n lc base la lv xs w0 frame) (hW : WC7 bx n lc base la lv xs w0)
    (hQ : ∀ c g cap W, Same RC7 frame c → W.ownsRow base 26 6 (.slice (some ⟨g, 0, none⟩) (n + 1) cap) (n + 1) (xs ++ six77) → w0.grownBy W lv.ownBlock → (some g = lv.ownBlock ∨ w0.heap.size ≤ g) → n < cap → cap ≤ maxLen → Q .normal c (W.setCell ⟨bx, 5, none⟩ (.slice (some ⟨g, 0, none⟩) n cap))) :
    (Code.region 7 RC7 true).wp Tryz.prog Q frame w0 := by
  refine writes_rule (A := ancC7) (G := gC7 bx n lc la lv) (S := SC7 bx n lc base la lv xs w0) (by kernel_rfl) (by rw [hb.size]; kernel_rfl) ?_ ?_ ?_
  · exact ⟨fun _ => (Below.refl _ _).drew, (fun h => by cases h), (fun h => by cases h), (fun h => by cases h), (fun h => by cases h)⟩
  · intro i hi l c w hS hli hcl hA hst
    exact allC7 bx n lc base la lv xs w0 Q hW i (by rwa [show RC7.size = 10 by kernel_rfl] at hi) l c w ⟨(same_eval hS (by kernel_rfl)).trans hb.t1, (same_eval hS (by kernel_rfl)).trans hb.t3, hS.2.1.trans hb.size⟩ hli hcl hA hst
  · intro l c w hS hall hst
    have hsz : RC7.size = 10 := by kernel_rfl
    obtain ⟨W, ⟨h1, h2, h5⟩, rfl⟩ := hst.last (hall 9 (by rw [hsz]; omega)).1
    obtain ⟨g, cap, hg, hlt, hle⟩ := (hall 3 (by rw [hsz]; omega)).2
    obtain ⟨g', cap', hg3, hg7⟩ := hst.cut (hall 7 (by rw [hsz]; omega)).1
    rw [hg] at hg3 h1 h5
    injection hg3 with q1 _ q3
    injection q1 with q1
    injection q1 with q1
    subst q1
    subst q3
    rw [hg7]
    refine hQ c g cap W hS h1 h2 ?_ hlt hle
    rcases h5 with h5 | ⟨g', e, h5⟩
    · exact .inl h5
    · have : g = g' := by simpa [Value.ownBlock] using e
      exact .inr (this ▸ h5)
end Go.Proofs.YtbpmhgcjefpigaaGreatDoor
