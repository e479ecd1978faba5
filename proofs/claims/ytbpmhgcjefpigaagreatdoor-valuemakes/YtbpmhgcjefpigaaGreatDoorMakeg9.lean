/- The list of a value is copied, with one place more: the last statement of copied, operation by operation, in whatever order. -/
import Derived.Test.YtbpmhgcjefpigaaGreatDoorCopy7
namespace Go.Proofs.YtbpmhgcjefpigaaGreatDoor
open Go.RowKit Go.Shelf Go.WideShapes
set_option linter.unusedVariables false
set_option linter.unusedSimpArgs false
noncomputable def RG9 : Array Oper := regionAt Tryz.f9 9
def ancG9 (i : Nat) : List Nat := ([[], [], [1], [0, 1, 2], [], [4], [4, 5], [0, 1, 2, 3, 4, 5, 6], [0, 1, 2, 3, 4, 5, 6, 7]] : List (List Nat)).getD i []
def gG9 (bx n lc : Nat) (la : Option Addr) (lv : Value) (i : Nat) (v : Value) : Prop :=
  ([fun v => v = (lv), fun v => v = (.agg #[.int .i64 77, .bool false, .int .i64 0, .string ⟨#[]⟩, .slice none 0 0, .slice none 0 0]), fun _ => True, fun v => ∃ g cap, v = .slice (some ⟨g, 0, none⟩) (n + 1) cap ∧ n < cap ∧ cap ≤ maxLen, fun v => v = (.pointer (some ⟨bx, 4, none⟩)), fun v => v = (.slice la n lc), fun v => v = (.int .i64 (n : Int)), fun _ => True, fun _ => True] : List (Value → Prop)).getD i (fun _ => True) v
structure SG9 (bx n lc base : Nat) (la : Option Addr) (lv : Value) (xs : List Value) (w0 : World) (l : Nat → Bool) (vs : Nat → Value) (w : World) : Prop where
  ahead : l 3 = false → Below w0.heap.size w0 w
  laid : l 2 = true → l 3 = false → ∃ t, vs 2 = .slice (some ⟨t, 0, none⟩) 1 1 ∧ ∀ j u, six77[j]? = some u → w.cell? ⟨t, j, none⟩ = some u
  done : l 3 = true → w.ownsRow base 26 6 (vs 3) (n + 1) (xs ++ six77) ∧ w0.grownBy w lv.ownBlock ∧ ((vs 3).ownBlock = lv.ownBlock ∨ ∃ g, (vs 3).ownBlock = some g ∧ w0.heap.size ≤ g)
  cut : l 7 = true → ∃ g cap, vs 3 = .slice (some ⟨g, 0, none⟩) (n + 1) cap ∧ vs 7 = .slice (some ⟨g, 0, none⟩) n cap
  out : l 8 = true → vs 8 = vs 7
  keep : l 8 = false → vs 8 = lv
theorem SG9.lift {bx n lc base : Nat} {la : Option Addr} {lv : Value} {xs : List Value} {w0 : World} {l : Nat → Bool} {vs : Nat → Value} {w : World} (h : SG9 bx n lc base la lv xs w0 l vs w) {i : Nat} (v : Value) (h2 : i ≠ 2) (h3 : i ≠ 3) (h7 : i ≠ 7) (h8 : i ≠ 8) : SG9 bx n lc base la lv xs w0 (upd l i true) (upd vs i v) w := by
  have e2 : upd l i true 2 = l 2 := upd_other _ _ (Ne.symm h2)
  have e3 : upd l i true 3 = l 3 := upd_other _ _ (Ne.symm h3)
  have e7 : upd l i true 7 = l 7 := upd_other _ _ (Ne.symm h7)
  have e8 : upd l i true 8 = l 8 := upd_other _ _ (Ne.symm h8)
  have f8 : upd vs i v 8 = vs 8 := upd_other _ _ (Ne.symm h8)
  have f2 : upd vs i v 2 = vs 2 := upd_other _ _ (Ne.symm h2)
  have f3 : upd vs i v 3 = vs 3 := upd_other _ _ (Ne.symm h3)
  have f7 : upd vs i v 7 = vs 7 := upd_other _ _ (Ne.symm h7)
  exact ⟨by rw [e3]; exact h.ahead, by rw [e2, e3, f2]; exact h.laid, by rw [e3, f3]; exact h.done, by rw [e7, f3, f7]; exact h.cut, by rw [e8, f7, f8]; exact h.out, by rw [e8, f8]; exact h.keep⟩
structure BG9 (bx n lc base : Nat) (la : Option Addr) (lv : Value) (xs : List Value) (w0 : World) (c : Act) : Prop where
  t1 : c.eval (.tmp 1) = .pointer (some ⟨bx, 0, none⟩)
  size : c.tmps.size = 205
structure WG9 (bx n lc base : Nat) (la : Option Addr) (lv : Value) (xs : List Value) (w0 : World) : Prop where
  box : w0.cell? ⟨bx, 4, none⟩ = some (.slice la n lc)
  own : w0.ownsRow base 26 6 lv n xs
  at4 : True
  low : base ≤ w0.heap.size
  under : bx < base
  few : n ≤ 900000
theorem WG9.far {bx n lc base : Nat} {la : Option Addr} {lv : Value} {xs : List Value} {w0 : World} (hW : WG9 bx n lc base la lv xs w0) : some bx ≠ lv.ownBlock := fun e => by
  have := (hW.own.lt bx e.symm).1
  have := hW.under
  omega
theorem SG9.box {bx n lc base : Nat} {la : Option Addr} {lv : Value} {xs : List Value} {w0 : World} {l : Nat → Bool} {vs : Nat → Value} {w : World} (hS : SG9 bx n lc base la lv xs w0 l vs w) (hW : WG9 bx n lc base la lv xs w0) : w.cell? ⟨bx, 4, none⟩ = some (.slice la n lc) := by
  have hbx : bx < w0.heap.size := lt_of_cell hW.box
  cases h : l 3 with
  | false => exact ((hS.ahead h).cell (p := ⟨bx, 4, none⟩) hbx).trans hW.box
  | true =>
    obtain ⟨_, hg, _⟩ := hS.done h
    exact (World.cell?_of_block (hg.block bx hbx hW.far)).trans hW.box
set_option maxRecDepth 10000 in
theorem oG9_0 (bx n lc base : Nat) (la : Option Addr) (lv : Value) (xs : List Value) (w0 : World) (Q : Exit → Act → World → Prop) (l : Nat → Bool) (c : Act) (w : World) (hb : BG9 bx n lc base la lv xs w0 c) (hW : WG9 bx n lc base la lv xs w0) (hli : l 0 = false) (hcl : ∀ k, l k = true → ∀ j ∈ ancG9 k, l j = true) (hA : ∀ j ∈ ancG9 0, l j = true ∧ gG9 bx n lc la lv j (val RG9 c j)) (hS : SG9 bx n lc base la lv xs w0 l (val RG9 c) w) :
    Steps' Tryz.prog RG9 Q (gG9 bx n lc la lv) (SG9 bx n lc base la lv xs w0) 0 l c w := by
  have ho : RG9[0]? = some ({ dst := some 62, op := Op.move (Operand.tmp 4), type := 24, pos := "law.go:219", after := #[], guard := none } : Oper) := by kernel_rfl
  have e4 : c.eval (.tmp 4) = val RG9 c 8 := (val_eq (show slotOf RG9 8 = some 4 by kernel_rfl)).symm
  have hw : Region.wanted ({ dst := some 62, op := Op.move (Operand.tmp 4), type := 24, pos := "law.go:219", after := #[], guard := none } : Oper) (yielded RG9 c.tmps) = true := want_none rfl
  have ec : ∀ v, c.eval (.const v) = v := fun _ => rfl
  have h8 : l 8 = false := by
    cases h : l 8 with
    | false => rfl
    | true => have := hcl 8 h 0 (by decide); rw [hli] at this; cases this
  replace e4 := e4.trans (hS.keep h8)
  refine steps_value (d := 62) ho rfl (by rw [hb.size]; decide) hw (v := lv) ?_ rfl (hS.lift _ (by decide) (by decide) (by decide) (by decide))
  generalize c.eval = ρ at *
  clear hA hb hW hw ho hS hcl hli
  go_simp
set_option maxRecDepth 10000 in
theorem oG9_1 (bx n lc base : Nat) (la : Option Addr) (lv : Value) (xs : List Value) (w0 : World) (Q : Exit → Act → World → Prop) (l : Nat → Bool) (c : Act) (w : World) (hb : BG9 bx n lc base la lv xs w0 c) (hW : WG9 bx n lc base la lv xs w0) (hli : l 1 = false) (hcl : ∀ k, l k = true → ∀ j ∈ ancG9 k, l j = true) (hA : ∀ j ∈ ancG9 1, l j = true ∧ gG9 bx n lc la lv j (val RG9 c j)) (hS : SG9 bx n lc base la lv xs w0 l (val RG9 c) w) :
    Steps' Tryz.prog RG9 Q (gG9 bx n lc la lv) (SG9 bx n lc base la lv xs w0) 1 l c w := by
  have ho : RG9[1]? = some ({ dst := some 63, op := Op.build 26 #[(0, Operand.const (Value.int IntKind.i64 77))], type := 26, pos := "law.go:219", after := #[], guard := none } : Oper) := by kernel_rfl
  have hw : Region.wanted ({ dst := some 63, op := Op.build 26 #[(0, Operand.const (Value.int IntKind.i64 77))], type := 26, pos := "law.go:219", after := #[], guard := none } : Oper) (yielded RG9 c.tmps) = true := want_none rfl
  have ec : ∀ v, c.eval (.const v) = v := fun _ => rfl
  have h8 : l 8 = false := by
    cases h : l 8 with
    | false => rfl
    | true => have := hcl 8 h 1 (by decide); rw [hli] at this; cases this
  refine steps_value (d := 63) ho rfl (by rw [hb.size]; decide) hw (v := .agg #[.int .i64 77, .bool false, .int .i64 0, .string ⟨#[]⟩, .slice none 0 0, .slice none 0 0]) ?_ rfl (hS.lift _ (by decide) (by decide) (by decide) (by decide))
  generalize c.eval = ρ at *
  clear hA hb hW hw ho hS hcl hli
  go_simp
set_option maxRecDepth 10000 in
theorem oG9_2 (bx n lc base : Nat) (la : Option Addr) (lv : Value) (xs : List Value) (w0 : World) (Q : Exit → Act → World → Prop) (l : Nat → Bool) (c : Act) (w : World) (hb : BG9 bx n lc base la lv xs w0 c) (hW : WG9 bx n lc base la lv xs w0) (hli : l 2 = false) (hcl : ∀ k, l k = true → ∀ j ∈ ancG9 k, l j = true) (hA : ∀ j ∈ ancG9 2, l j = true ∧ gG9 bx n lc la lv j (val RG9 c j)) (hS : SG9 bx n lc base la lv xs w0 l (val RG9 c) w) :
    Steps' Tryz.prog RG9 Q (gG9 bx n lc la lv) (SG9 bx n lc base la lv xs w0) 2 l c w := by
  have ho : RG9[2]? = some ({ dst := some 64, op := Op.buildSlice 24 1 #[(0, Operand.tmp 63)], type := 24, pos := "law.go:219", after := #[{ on := 1, ground := Ground.data }], guard := none } : Oper) := by kernel_rfl
  have e63 : c.eval (.tmp 63) = .agg #[.int .i64 77, .bool false, .int .i64 0, .string ⟨#[]⟩, .slice none 0 0, .slice none 0 0] := by have h := (hA 1 (by decide)).2; rw [val_eq (show slotOf RG9 1 = some 63 by kernel_rfl)] at h; exact h
  have hw : Region.wanted ({ dst := some 64, op := Op.buildSlice 24 1 #[(0, Operand.tmp 63)], type := 24, pos := "law.go:219", after := #[{ on := 1, ground := Ground.data }], guard := none } : Oper) (yielded RG9 c.tmps) = true := want_none rfl
  have ec : ∀ v, c.eval (.const v) = v := fun _ => rfl
  have h8 : l 8 = false := by
    cases h : l 8 with
    | false => rfl
    | true => have := hcl 8 h 2 (by decide); rw [hli] at this; cases this
  have h3 : l 3 = false := by
    cases h : l 3 with
    | false => rfl
    | true => have := hcl 3 h 2 (by decide); rw [hli] at this; cases this
  have h7 : l 7 = false := by
    cases h : l 7 with
    | false => rfl
    | true => have := hcl 7 h 2 (by decide); rw [hli] at this; cases this
  refine steps_value (d := 64) ho rfl (by rw [hb.size]; decide) hw (v := .slice (some ⟨w.heap.size, 0, none⟩) 1 1) (w' := w.alloc (.cells #[.int .i64 77, .bool false, .int .i64 0, .string ⟨#[]⟩, .slice none 0 0, .slice none 0 0] 26)) ?_ trivial ?_
  · generalize c.eval = ρ at *
    clear hA hb hW hw ho hS hcl hli
    go_simp
  · have hbel := hS.ahead h3
    have n3 : upd l 2 true 3 = false := by rw [upd_other _ _ (by decide)]; exact h3
    have n7 : upd l 2 true 7 = false := by rw [upd_other _ _ (by decide)]; exact h7
    have n9 : upd l 2 true 8 = false := by rw [upd_other _ _ (by decide)]; exact h8
    have k8 : ∀ v, upd (val RG9 c) 2 v 8 = val RG9 c 8 := fun v => upd_other _ _ (by decide)
    refine ⟨fun _ => hbel.alloc hbel.size _, fun _ _ => ⟨w.heap.size, by rw [upd_same], fun j u hj => cell_new _ _ _ j _ (by simpa using hj)⟩, fun h => (by rw [n3] at h; cases h), fun h => (by rw [n7] at h; cases h), fun h => (by rw [n9] at h; cases h), fun _ => by rw [k8]; exact hS.keep h8⟩
set_option maxRecDepth 10000 in
theorem oG9_3 (bx n lc base : Nat) (la : Option Addr) (lv : Value) (xs : List Value) (w0 : World) (Q : Exit → Act → World → Prop) (l : Nat → Bool) (c : Act) (w : World) (hb : BG9 bx n lc base la lv xs w0 c) (hW : WG9 bx n lc base la lv xs w0) (hli : l 3 = false) (hcl : ∀ k, l k = true → ∀ j ∈ ancG9 k, l j = true) (hA : ∀ j ∈ ancG9 3, l j = true ∧ gG9 bx n lc la lv j (val RG9 c j)) (hS : SG9 bx n lc base la lv xs w0 l (val RG9 c) w) :
    Steps' Tryz.prog RG9 Q (gG9 bx n lc la lv) (SG9 bx n lc base la lv xs w0) 3 l c w := by
  have ho : RG9[3]? = some ({ dst := some 65, op := Op.call { callee := Callee.builtin Builtin.append, args := #[Operand.tmp 62, Operand.tmp 64], argTypes := #[24, 24] }, type := 24, pos := "law.go:219", after := #[{ on := 0, ground := Ground.data }, { on := 2, ground := Ground.data }], guard := none } : Oper) := by kernel_rfl
  have e62 : c.eval (.tmp 62) = lv := by have h := (hA 0 (by decide)).2; rw [val_eq (show slotOf RG9 0 = some 62 by kernel_rfl)] at h; exact h
  have e64 : c.eval (.tmp 64) = val RG9 c 2 := (val_eq (show slotOf RG9 2 = some 64 by kernel_rfl)).symm
  have hw : Region.wanted ({ dst := some 65, op := Op.call { callee := Callee.builtin Builtin.append, args := #[Operand.tmp 62, Operand.tmp 64], argTypes := #[24, 24] }, type := 24, pos := "law.go:219", after := #[{ on := 0, ground := Ground.data }, { on := 2, ground := Ground.data }], guard := none } : Oper) (yielded RG9 c.tmps) = true := want_none rfl
  have ec : ∀ v, c.eval (.const v) = v := fun _ => rfl
  have h8 : l 8 = false := by
    cases h : l 8 with
    | false => rfl
    | true => have := hcl 8 h 3 (by decide); rw [hli] at this; cases this
  have h7 : l 7 = false := by
    cases h : l 7 with
    | false => rfl
    | true => have := hcl 7 h 3 (by decide); rw [hli] at this; cases this
  have h2 : l 2 = true := (hA 2 (by decide)).1
  have hbel := hS.ahead hli
  have hown : w.ownsRow base 26 6 lv n xs := by
    obtain ⟨g1, ⟨g2, g3⟩ | ⟨g, cap, cur, g2, g3, g4, g5⟩⟩ := hW.own
    · exact ⟨g1, .inl ⟨g2, g3⟩⟩
    · exact ⟨g1, .inr ⟨g, cap, cur, g2, g3, (hbel.block g (Array.getElem?_eq_some_iff.1 g4).1).trans g4, g5⟩⟩
  obtain ⟨t, ht, hcell⟩ := hS.laid h2 hli
  obtain ⟨i0, hi, hz0, hz1, hz2⟩ := info_parts Tryz.info26
  refine steps_law (d := 65) ho rfl (by rw [hb.size]; decide) fun K hK => ?_
  refine step_append_lies w rfl (.tmp 62) (.tmp 64) 24 rfl base 26 i0 (.agg #[.int .i64 0, .bool false, .int .i64 0, .string ⟨#[]⟩, .slice none 0 0, .slice none 0 0]) 6 88 Tryz.underlying24 hi hz0 hz1 hz2 rfl (by decide) lv n xs e62 hown ⟨t, 0, none⟩ 1 1 six77 (e64.trans ht) rfl ?_ ?_ (by decide) (by have := hW.few; unfold maxLen; omega) (by have := hW.few; omega) (Nat.le_trans hW.low hbel.size) w.heap.size rfl ?_
  · intro j u hj
    rw [add_plain, Nat.zero_add]; exact hcell j u hj
  · intro u hu
    simp only [six77, List.mem_cons, List.not_mem_nil, or_false] at hu
    rcases hu with rfl | rfl | rfl | rfl | rfl | rfl <;> rfl
  · intro g cap w' g1 g2 g3 g4
    have n7 : upd l 3 true 7 = false := by rw [upd_other _ _ (by decide)]; exact h7
    have n9 : upd l 3 true 8 = false := by rw [upd_other _ _ (by decide)]; exact h8
    have k8 : ∀ v, upd (val RG9 c) 3 v 8 = val RG9 c 8 := fun v => upd_other _ _ (by decide)
    refine hK _ _ ⟨g, cap, rfl, ?_⟩ ⟨fun h => (by rw [upd_same] at h; cases h), fun _ h => (by rw [upd_same] at h; cases h), fun _ => ?_, fun h => (by rw [n7] at h; cases h), fun h => (by rw [n9] at h; cases h), fun _ => by rw [k8]; exact hS.keep h8⟩
    · obtain ⟨_, ⟨q1, _⟩ | ⟨g', cap', cur, q1, q2, q3, q4, q5, _⟩⟩ := g1
      · cases q1
      · injection q1 with _ _ q6
        subst q6
        exact ⟨q4, q5⟩
    · rw [upd_same]
      refine ⟨g1, ⟨g2.os.trans hbel.os, g2.tape.trans hbel.tape, g2.output.trans hbel.output, Nat.le_trans hbel.size g2.size, fun k hk hne => (g2.block k (Nat.lt_of_lt_of_le hk hbel.size) hne).trans (hbel.block k hk)⟩, ?_⟩
      have hle := hbel.size
      rcases g3 with g3 | g3
      · exact .inl (by rw [g3]; rfl)
      · exact .inr ⟨g, rfl, by omega⟩
set_option maxRecDepth 10000 in
theorem oG9_4 (bx n lc base : Nat) (la : Option Addr) (lv : Value) (xs : List Value) (w0 : World) (Q : Exit → Act → World → Prop) (l : Nat → Bool) (c : Act) (w : World) (hb : BG9 bx n lc base la lv xs w0 c) (hW : WG9 bx n lc base la lv xs w0) (hli : l 4 = false) (hcl : ∀ k, l k = true → ∀ j ∈ ancG9 k, l j = true) (hA : ∀ j ∈ ancG9 4, l j = true ∧ gG9 bx n lc la lv j (val RG9 c j)) (hS : SG9 bx n lc base la lv xs w0 l (val RG9 c) w) :
    Steps' Tryz.prog RG9 Q (gG9 bx n lc la lv) (SG9 bx n lc base la lv xs w0) 4 l c w := by
  have ho : RG9[4]? = some ({ dst := some 66, op := Op.fieldAddr 56 (Operand.tmp 1) 4, type := 0, pos := "law.go:219", after := #[], guard := none } : Oper) := by kernel_rfl
  have e1 := hb.t1
  have hw : Region.wanted ({ dst := some 66, op := Op.fieldAddr 56 (Operand.tmp 1) 4, type := 0, pos := "law.go:219", after := #[], guard := none } : Oper) (yielded RG9 c.tmps) = true := want_none rfl
  have ec : ∀ v, c.eval (.const v) = v := fun _ => rfl
  have h8 : l 8 = false := by
    cases h : l 8 with
    | false => rfl
    | true => have := hcl 8 h 4 (by decide); rw [hli] at this; cases this
  refine steps_value (d := 66) ho rfl (by rw [hb.size]; decide) hw (v := .pointer (some ⟨bx, 4, none⟩)) ?_ rfl (hS.lift _ (by decide) (by decide) (by decide) (by decide))
  generalize c.eval = ρ at *
  clear hA hb hW hw ho hS hcl hli
  go_simp
set_option maxRecDepth 10000 in
theorem oG9_5 (bx n lc base : Nat) (la : Option Addr) (lv : Value) (xs : List Value) (w0 : World) (Q : Exit → Act → World → Prop) (l : Nat → Bool) (c : Act) (w : World) (hb : BG9 bx n lc base la lv xs w0 c) (hW : WG9 bx n lc base la lv xs w0) (hli : l 5 = false) (hcl : ∀ k, l k = true → ∀ j ∈ ancG9 k, l j = true) (hA : ∀ j ∈ ancG9 5, l j = true ∧ gG9 bx n lc la lv j (val RG9 c j)) (hS : SG9 bx n lc base la lv xs w0 l (val RG9 c) w) :
    Steps' Tryz.prog RG9 Q (gG9 bx n lc la lv) (SG9 bx n lc base la lv xs w0) 5 l c w := by
  have ho : RG9[5]? = some ({ dst := some 67, op := Op.load 24 (Operand.tmp 66), type := 24, pos := "law.go:219", after := #[{ on := 4, ground := Ground.data }], guard := none } : Oper) := by kernel_rfl
  have e66 : c.eval (.tmp 66) = .pointer (some ⟨bx, 4, none⟩) := by have h := (hA 4 (by decide)).2; rw [val_eq (show slotOf RG9 4 = some 66 by kernel_rfl)] at h; exact h
  have hw : Region.wanted ({ dst := some 67, op := Op.load 24 (Operand.tmp 66), type := 24, pos := "law.go:219", after := #[{ on := 4, ground := Ground.data }], guard := none } : Oper) (yielded RG9 c.tmps) = true := want_none rfl
  have ec : ∀ v, c.eval (.const v) = v := fun _ => rfl
  have h8 : l 8 = false := by
    cases h : l 8 with
    | false => rfl
    | true => have := hcl 8 h 5 (by decide); rw [hli] at this; cases this
  have hc := hS.box hW
  refine steps_value (d := 67) ho rfl (by rw [hb.size]; decide) hw (v := .slice la n lc) ?_ rfl (hS.lift _ (by decide) (by decide) (by decide) (by decide))
  generalize c.eval = ρ at *
  clear hA hb hW hw ho hS hcl hli
  go_simp
set_option maxRecDepth 10000 in
theorem oG9_6 (bx n lc base : Nat) (la : Option Addr) (lv : Value) (xs : List Value) (w0 : World) (Q : Exit → Act → World → Prop) (l : Nat → Bool) (c : Act) (w : World) (hb : BG9 bx n lc base la lv xs w0 c) (hW : WG9 bx n lc base la lv xs w0) (hli : l 6 = false) (hcl : ∀ k, l k = true → ∀ j ∈ ancG9 k, l j = true) (hA : ∀ j ∈ ancG9 6, l j = true ∧ gG9 bx n lc la lv j (val RG9 c j)) (hS : SG9 bx n lc base la lv xs w0 l (val RG9 c) w) :
    Steps' Tryz.prog RG9 Q (gG9 bx n lc la lv) (SG9 bx n lc base la lv xs w0) 6 l c w := by
  have ho : RG9[6]? = some ({ dst := some 68, op := Op.call { callee := Callee.builtin Builtin.len, args := #[Operand.tmp 67], argTypes := #[24] }, type := 3, pos := "law.go:219", after := #[{ on := 5, ground := Ground.data }], guard := none } : Oper) := by kernel_rfl
  have e67 : c.eval (.tmp 67) = .slice la n lc := by have h := (hA 5 (by decide)).2; rw [val_eq (show slotOf RG9 5 = some 67 by kernel_rfl)] at h; exact h
  have hw : Region.wanted ({ dst := some 68, op := Op.call { callee := Callee.builtin Builtin.len, args := #[Operand.tmp 67], argTypes := #[24] }, type := 3, pos := "law.go:219", after := #[{ on := 5, ground := Ground.data }], guard := none } : Oper) (yielded RG9 c.tmps) = true := want_none rfl
  have ec : ∀ v, c.eval (.const v) = v := fun _ => rfl
  have h8 : l 8 = false := by
    cases h : l 8 with
    | false => rfl
    | true => have := hcl 8 h 6 (by decide); rw [hli] at this; cases this
  refine steps_value (d := 68) ho rfl (by rw [hb.size]; decide) hw (v := .int .i64 (n : Int)) ?_ rfl (hS.lift _ (by decide) (by decide) (by decide) (by decide))
  generalize c.eval = ρ at *
  clear hA hb hW hw ho hS hcl hli
  go_simp
set_option maxRecDepth 10000 in
theorem oG9_7 (bx n lc base : Nat) (la : Option Addr) (lv : Value) (xs : List Value) (w0 : World) (Q : Exit → Act → World → Prop) (l : Nat → Bool) (c : Act) (w : World) (hb : BG9 bx n lc base la lv xs w0 c) (hW : WG9 bx n lc base la lv xs w0) (hli : l 7 = false) (hcl : ∀ k, l k = true → ∀ j ∈ ancG9 k, l j = true) (hA : ∀ j ∈ ancG9 7, l j = true ∧ gG9 bx n lc la lv j (val RG9 c j)) (hS : SG9 bx n lc base la lv xs w0 l (val RG9 c) w) :
    Steps' Tryz.prog RG9 Q (gG9 bx n lc la lv) (SG9 bx n lc base la lv xs w0) 7 l c w := by
  have ho : RG9[7]? = some ({ dst := some 69, op := Op.slice 24 (Operand.tmp 65) none (some (Operand.tmp 68)) none, type := 24, pos := "law.go:219", after := #[{ on := 3, ground := Ground.data }, { on := 6, ground := Ground.data }], guard := none } : Oper) := by kernel_rfl
  have e65 : c.eval (.tmp 65) = val RG9 c 3 := (val_eq (show slotOf RG9 3 = some 65 by kernel_rfl)).symm
  have e68 : c.eval (.tmp 68) = .int .i64 (n : Int) := by have h := (hA 6 (by decide)).2; rw [val_eq (show slotOf RG9 6 = some 68 by kernel_rfl)] at h; exact h
  have hw : Region.wanted ({ dst := some 69, op := Op.slice 24 (Operand.tmp 65) none (some (Operand.tmp 68)) none, type := 24, pos := "law.go:219", after := #[{ on := 3, ground := Ground.data }, { on := 6, ground := Ground.data }], guard := none } : Oper) (yielded RG9 c.tmps) = true := want_none rfl
  have ec : ∀ v, c.eval (.const v) = v := fun _ => rfl
  have h8 : l 8 = false := by
    cases h : l 8 with
    | false => rfl
    | true => have := hcl 8 h 7 (by decide); rw [hli] at this; cases this
  have h3 : l 3 = true := (hA 3 (by decide)).1
  obtain ⟨g, cap, hg, hlt, hle⟩ := (hA 3 (by decide)).2
  refine steps_value (d := 69) ho rfl (by rw [hb.size]; decide) hw (v := .slice (some ⟨g, 0, none⟩) n cap) (w' := w) ?_ trivial ?_
  · rw [hg] at e65
    have hle' : cap ≤ 9223372036854775807 := by unfold maxLen at hle; omega
    have hlt' : n ≤ cap := Nat.le_of_lt hlt
    generalize c.eval = ρ at *
    clear hA hb hW hw ho hS hcl hli
    go_simp
  · have m2 : upd l 7 true 2 = l 2 := upd_other _ _ (by decide)
    have m3 : upd l 7 true 3 = l 3 := upd_other _ _ (by decide)
    have m8 : upd l 7 true 8 = false := by rw [upd_other _ _ (by decide)]; exact h8
    have k8 : ∀ v, upd (val RG9 c) 7 v 8 = val RG9 c 8 := fun v => upd_other _ _ (by decide)
    have f2 : ∀ v, upd (val RG9 c) 7 v 2 = val RG9 c 2 := fun v => upd_other _ _ (by decide)
    have f3 : ∀ v, upd (val RG9 c) 7 v 3 = val RG9 c 3 := fun v => upd_other _ _ (by decide)
    exact ⟨by rw [m3]; exact hS.ahead, by rw [m2, m3, f2]; exact hS.laid, by rw [m3, f3]; exact hS.done, fun _ => ⟨g, cap, by rw [f3]; exact hg, by rw [upd_same]⟩, fun h => (by rw [m8] at h; cases h), fun _ => by rw [k8]; exact hS.keep h8⟩
set_option maxRecDepth 10000 in
theorem oG9_8 (bx n lc base : Nat) (la : Option Addr) (lv : Value) (xs : List Value) (w0 : World) (Q : Exit → Act → World → Prop) (l : Nat → Bool) (c : Act) (w : World) (hb : BG9 bx n lc base la lv xs w0 c) (hW : WG9 bx n lc base la lv xs w0) (hli : l 8 = false) (hcl : ∀ k, l k = true → ∀ j ∈ ancG9 k, l j = true) (hA : ∀ j ∈ ancG9 8, l j = true ∧ gG9 bx n lc la lv j (val RG9 c j)) (hS : SG9 bx n lc base la lv xs w0 l (val RG9 c) w) :
    Steps' Tryz.prog RG9 Q (gG9 bx n lc la lv) (SG9 bx n lc base la lv xs w0) 8 l c w := by
  have ho : RG9[8]? = some ({ dst := some 4, op := Op.assign (Operand.tmp 69), type := 24, pos := "law.go:219", after := #[{ on := 7, ground := Ground.data }, { on := 3, ground := Ground.chain }, { on := 0, ground := Ground.phase }, { on := 1, ground := Ground.phase }, { on := 2, ground := Ground.phase }, { on := 3, ground := Ground.phase }, { on := 4, ground := Ground.phase }, { on := 5, ground := Ground.phase }, { on := 6, ground := Ground.phase }, { on := 7, ground := Ground.phase }], guard := none } : Oper) := by kernel_rfl
  have e69 : c.eval (.tmp 69) = val RG9 c 7 := (val_eq (show slotOf RG9 7 = some 69 by kernel_rfl)).symm
  have hw : Region.wanted ({ dst := some 4, op := Op.assign (Operand.tmp 69), type := 24, pos := "law.go:219", after := #[{ on := 7, ground := Ground.data }, { on := 3, ground := Ground.chain }, { on := 0, ground := Ground.phase }, { on := 1, ground := Ground.phase }, { on := 2, ground := Ground.phase }, { on := 3, ground := Ground.phase }, { on := 4, ground := Ground.phase }, { on := 5, ground := Ground.phase }, { on := 6, ground := Ground.phase }, { on := 7, ground := Ground.phase }], guard := none } : Oper) (yielded RG9 c.tmps) = true := want_none rfl
  have ec : ∀ v, c.eval (.const v) = v := fun _ => rfl
  refine steps_value (d := 4) ho rfl (by rw [hb.size]; decide) hw (v := val RG9 c 7) (w' := w) ?_ trivial ?_
  · generalize val RG9 c 7 = v7 at *
    generalize c.eval = ρ at *
    clear hA hb hW hw ho hS hcl hli
    go_simp
  · have m : ∀ k, k ≠ 8 → upd l 8 true k = l k := fun k hk => upd_other _ _ hk
    have f : ∀ v k, k ≠ 8 → upd (val RG9 c) 8 v k = val RG9 c k := fun v k hk => upd_other _ _ hk
    exact ⟨by rw [m 3 (by decide)]; exact hS.ahead, by rw [m 2 (by decide), m 3 (by decide), f _ 2 (by decide)]; exact hS.laid, by rw [m 3 (by decide), f _ 3 (by decide)]; exact hS.done, by rw [m 7 (by decide), f _ 3 (by decide), f _ 7 (by decide)]; exact hS.cut, fun _ => by rw [upd_same, f _ 7 (by decide)], fun h => (by rw [upd_same] at h; cases h)⟩
set_option maxRecDepth 100000 in
theorem allG9 (bx n lc base : Nat) (la : Option Addr) (lv : Value) (xs : List Value) (w0 : World) (Q : Exit → Act → World → Prop) (hW : WG9 bx n lc base la lv xs w0) : ∀ i, i < 9 → (fun i => ∀ l c w, BG9 bx n lc base la lv xs w0 c → l i = false → (∀ k, l k = true → ∀ j ∈ ancG9 k, l j = true) → (∀ j ∈ ancG9 i, l j = true ∧ gG9 bx n lc la lv j (val RG9 c j)) → SG9 bx n lc base la lv xs w0 l (val RG9 c) w → Steps' Tryz.prog RG9 Q (gG9 bx n lc la lv) (SG9 bx n lc base la lv xs w0) i l c w) i := by
  refine below_succ ?_ (fun l c w hb => oG9_8 bx n lc base la lv xs w0 Q l c w hb hW)
  refine below_succ ?_ (fun l c w hb => oG9_7 bx n lc base la lv xs w0 Q l c w hb hW)
  refine below_succ ?_ (fun l c w hb => oG9_6 bx n lc base la lv xs w0 Q l c w hb hW)
  refine below_succ ?_ (fun l c w hb => oG9_5 bx n lc base la lv xs w0 Q l c w hb hW)
  refine below_succ ?_ (fun l c w hb => oG9_4 bx n lc base la lv xs w0 Q l c w hb hW)
  refine below_succ ?_ (fun l c w hb => oG9_3 bx n lc base la lv xs w0 Q l c w hb hW)
  refine below_succ ?_ (fun l c w hb => oG9_2 bx n lc base la lv xs w0 Q l c w hb hW)
  refine below_succ ?_ (fun l c w hb => oG9_1 bx n lc base la lv xs w0 Q l c w hb hW)
  refine below_succ ?_ (fun l c w hb => oG9_0 bx n lc base la lv xs w0 Q l c w hb hW)
  exact below_zero
/-- The statement that copies the list. -/
theorem regionG9 (bx n lc base : Nat) (la : Option Addr) (lv : Value) (xs : List Value) (w0 : World) (Q : Exit → Act → World → Prop) (frame : Act) (hb : BG9 bx n lc base la lv xs w0 frame) (hW : WG9 bx n lc base la lv xs w0)
    (h4 : frame.eval (.tmp 4) = lv) (hQ : ∀ c g cap W, Same RG9 frame c → W.ownsRow base 26 6 (.slice (some ⟨g, 0, none⟩) (n + 1) cap) (n + 1) (xs ++ six77) → w0.grownBy W lv.ownBlock → (some g = lv.ownBlock ∨ w0.heap.size ≤ g) → n < cap → cap ≤ maxLen → c.eval (.tmp 4) = .slice (some ⟨g, 0, none⟩) n cap → Q .normal c W) :
    (Code.region 9 RG9 true).wp Tryz.prog Q frame w0 := by
  refine writes_rule (A := ancG9) (G := gG9 bx n lc la lv) (S := SG9 bx n lc base la lv xs w0) (by kernel_rfl) (by rw [hb.size]; kernel_rfl) ?_ ?_ ?_
  · exact ⟨fun _ => (Below.refl _ _).drew, (fun h => by cases h), (fun h => by cases h), (fun h => by cases h), (fun h => by cases h), fun _ => (val_eq (show slotOf RG9 8 = some 4 by kernel_rfl)).trans h4⟩
  · intro i hi l c w hS hli hcl hA hst
    exact allG9 bx n lc base la lv xs w0 Q hW i (by rwa [show RG9.size = 9 by kernel_rfl] at hi) l c w ⟨(same_eval hS (by kernel_rfl)).trans hb.t1, hS.2.1.trans hb.size⟩ hli hcl hA hst
  · intro l c w hS hall hst
    have hsz : RG9.size = 9 := by kernel_rfl
    obtain ⟨h1, h2, h5⟩ := hst.done (hall 3 (by rw [hsz]; omega)).1
    have h10 := hst.out (hall 8 (by rw [hsz]; omega)).1
    obtain ⟨g, cap, hg, hlt, hle⟩ := (hall 3 (by rw [hsz]; omega)).2
    obtain ⟨g', cap', hg3, hg7⟩ := hst.cut (hall 7 (by rw [hsz]; omega)).1
    rw [hg] at hg3 h1 h5
    injection hg3 with q1 _ q3
    injection q1 with q1
    injection q1 with q1
    subst q1
    subst q3
    rw [hg7, val_eq (show slotOf RG9 8 = some 4 by kernel_rfl)] at h10
    refine hQ c g cap w hS h1 h2 ?_ hlt hle h10
    rcases h5 with h5 | ⟨g', e, h5⟩
    · exact .inl h5
    · have : g = g' := by simpa [Value.ownBlock] using e
      exact .inr (this ▸ h5)
end Go.Proofs.YtbpmhgcjefpigaaGreatDoor
