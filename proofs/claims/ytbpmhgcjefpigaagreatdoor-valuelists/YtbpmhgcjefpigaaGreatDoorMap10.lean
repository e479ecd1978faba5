/- One key is put behind those that were: the statement of Map, operation by operation, in whatever order. -/
import Derived.Test.YtbpmhgcjefpigaaGreatDoorJoin13
import Derived.Deep.AppendLies
namespace Go.Proofs.YtbpmhgcjefpigaaGreatDoor
open Go.RowKit Go.Shelf Go.WideShapes
set_option linter.unusedVariables false
set_option linter.unusedSimpArgs false
theorem Tryz.info9 : (Tryz.prog.info? 9).map (fun i => (i.zero, i.size, i.bytes)) = some (some (.string ⟨#[]⟩), 1, 16) := by kernel_rfl
noncomputable def RK10 : Array Oper := regionAt Tryz.f50 10
def ancK10 (i : Nat) : List Nat := ([[], [0], [], [], [2, 3], [2, 3, 4], [2, 3, 4, 5], [0, 1, 2, 3, 4, 5, 6], [0, 1, 2, 3, 4, 5, 6, 7], [0, 1, 2, 3, 4, 5, 6, 7, 8]] : List (List Nat)).getD i []
def gK10 (bx b off kl kc p n : Nat) (kv : Value) (y : ByteArray) (i : Nat) (v : Value) : Prop :=
 ([fun v => v = (.pointer (some ⟨bx, 4, none⟩)), fun v => v = (kv), fun v => v = (.slice (some ⟨b, off, none⟩) kl kc), fun v => v = (.int .i64 (p : Int)), fun v => v = (.pointer (some ⟨b, off + p, none⟩)), fun v => v = (.string y), fun v => ∃ t, v = .slice (some ⟨t, 0, none⟩) 1 1, fun v => ∃ g cap, v = .slice (some ⟨g, 0, none⟩) (n + 1) cap, fun v => v = (.pointer (some ⟨bx, 4, none⟩)), fun _ => True] : List (Value → Prop)).getD i (fun _ => True) v
structure SK10 (bx b off kl kc p n : Nat) (kv : Value) (xs : List Value) (y : ByteArray) (base : Nat) (w0 : World) (l : Nat → Bool) (vs : Nat → Value) (w : World) : Prop where
 ahead : l 7 = false → Below w0.heap.size w0 w
 laid : l 7 = false → l 6 = true → ∃ t, vs 6 = .slice (some ⟨t, 0, none⟩) 1 1 ∧ w.cell? ⟨t, 0, none⟩ = some (.string y)
 done : l 7 = true → l 9 = false → w.ownsRow base 9 1 (vs 7) (n + 1) (xs ++ [.string y]) ∧ w0.grownBy w kv.ownBlock ∧ ((vs 7).ownBlock = kv.ownBlock ∨ ∃ g, (vs 7).ownBlock = some g ∧ w0.heap.size ≤ g)
 last : l 9 = true → ∃ W, W.ownsRow base 9 1 (vs 7) (n + 1) (xs ++ [.string y]) ∧ w0.grownBy W kv.ownBlock ∧ ((vs 7).ownBlock = kv.ownBlock ∨ ∃ g, (vs 7).ownBlock = some g ∧ w0.heap.size ≤ g) ∧ w = W.setCell ⟨bx, 4, none⟩ (vs 7)
theorem SK10.lift {bx b off kl kc p n : Nat} {kv : Value} {xs : List Value} {y : ByteArray} {base : Nat} {w0 : World} {l : Nat → Bool} {vs : Nat → Value} {w : World} (h : SK10 bx b off kl kc p n kv xs y base w0 l vs w) {i : Nat} (v : Value) (h6 : i ≠ 6) (h7 : i ≠ 7) (h9 : i ≠ 9) : SK10 bx b off kl kc p n kv xs y base w0 (upd l i true) (upd vs i v) w := by
 have e6 : upd l i true 6 = l 6 := upd_other _ _ (Ne.symm h6)
 have e7 : upd l i true 7 = l 7 := upd_other _ _ (Ne.symm h7)
 have e9 : upd l i true 9 = l 9 := upd_other _ _ (Ne.symm h9)
 have f6 : upd vs i v 6 = vs 6 := upd_other _ _ (Ne.symm h6)
 have f7 : upd vs i v 7 = vs 7 := upd_other _ _ (Ne.symm h7)
 exact ⟨by rw [e7]; exact h.ahead, by rw [e7, e6, f6]; exact h.laid, by rw [e7, e9, f7]; exact h.done, by rw [e9, f7]; exact h.last⟩
structure BK10 (bx b off kl kc p n : Nat) (kv : Value) (xs : List Value) (y : ByteArray) (base : Nat) (w0 : World) (c : Act) : Prop where
 t0 : c.eval (.tmp 0) = .slice (some ⟨b, off, none⟩) kl kc
 t6 : c.eval (.tmp 6) = .pointer (some ⟨bx, 0, none⟩)
 t8 : c.eval (.tmp 8) = .int .i64 (p : Int)
 size : c.tmps.size = 64
structure WK10 (bx b off kl kc p n : Nat) (kv : Value) (xs : List Value) (y : ByteArray) (base : Nat) (w0 : World) : Prop where
 box : w0.cell? ⟨bx, 4, none⟩ = some kv
 free : w0.frozen? ⟨bx, 4, none⟩ = false
 key : w0.cell? ⟨b, off + p, none⟩ = some (.string y)
 lt : p < kl
 le : kl ≤ 9223372036854775807
 own : w0.ownsRow base 9 1 kv n xs
 few : n ≤ 1000000
 low : base ≤ w0.heap.size
 under : bx < base
def stepK10 (bx b off kl kc p n : Nat) (kv : Value) (xs : List Value) (y : ByteArray) (base : Nat) (w0 : World) (Q : Exit → Act → World → Prop) (i : Nat) : Prop := ∀ (l : Nat → Bool) (c : Act) (w : World), (BK10 bx b off kl kc p n kv xs y base w0 c) → (WK10 bx b off kl kc p n kv xs y base w0) → (l i = false) → (∀ k, l k = true → ∀ j ∈ ancK10 k, l j = true) → (∀ j ∈ ancK10 i, l j = true ∧ gK10 bx b off kl kc p n kv y j (val RK10 c j)) → (SK10 bx b off kl kc p n kv xs y base w0 l (val RK10 c) w) → Steps' Tryz.prog RK10 Q (gK10 bx b off kl kc p n kv y) (SK10 bx b off kl kc p n kv xs y base w0) i l c w
theorem wnK10 {i : Nat} {o : Oper} {c : Act} (ho : RK10[i]? = some o) (h : o.guard = none) : Region.wanted o (yielded RK10 c.tmps) = true := want_none h
section
variable (bx b off kl kc p n : Nat) (kv : Value) (xs : List Value) (y : ByteArray) (base : Nat) (w0 : World) (Q : Exit → Act → World → Prop)
set_option maxRecDepth 10000 in
theorem oK10_0 : stepK10 bx b off kl kc p n kv xs y base w0 Q 0 := by
 intro l c w hb hW hli hcl hA hS
 have ho : RK10[0]? = some (⟨some 43, .fieldAddr 26 (.tmp 6) 4, 0, "value.go:38", #[], none⟩ : Oper) := by kernel_rfl
 have e6 := hb.t6
 have hw := wnK10 (c := c) ho rfl
 have ec : ∀ v, c.eval (.const v) = v := fun _ => rfl
 have h7 : l 7 = false := by
  cases h : l 7 with
  | false => rfl
  | true => have := hcl 7 h 0 (by decide); rw [hli] at this; cases this
 refine steps_value (d := 43) ho rfl (by rw [hb.size]; decide) hw (v := .pointer (some ⟨bx, 4, none⟩)) ?_ rfl (hS.lift _ (by decide) (by decide) (by decide))
 generalize c.eval = ρ at *
 clear hA hb hW hw ho hS hcl hli
 go_simp
set_option maxRecDepth 10000 in
theorem oK10_1 : stepK10 bx b off kl kc p n kv xs y base w0 Q 1 := by
 intro l c w hb hW hli hcl hA hS
 have ho : RK10[1]? = some (⟨some 44, .load 23 (.tmp 43), 23, "value.go:38", #[⟨0, .data⟩], none⟩ : Oper) := by kernel_rfl
 have e43 : c.eval (.tmp 43) = .pointer (some ⟨bx, 4, none⟩) := by have h := (hA 0 (by decide)).2; rw [val_eq (show slotOf RK10 0 = some 43 by kernel_rfl)] at h; exact h
 have hw := wnK10 (c := c) ho rfl
 have ec : ∀ v, c.eval (.const v) = v := fun _ => rfl
 have h7 : l 7 = false := by
  cases h : l 7 with
  | false => rfl
  | true => have := hcl 7 h 1 (by decide); rw [hli] at this; cases this
 have hc := (hS.ahead h7).cell (p := ⟨bx, 4, none⟩) (lt_of_cell hW.box)
 rw [hW.box] at hc
 refine steps_value (d := 44) ho rfl (by rw [hb.size]; decide) hw (v := kv) ?_ rfl (hS.lift _ (by decide) (by decide) (by decide))
 generalize c.eval = ρ at *
 clear hA hb hW hw ho hS hcl hli
 go_simp
set_option maxRecDepth 10000 in
theorem oK10_2 : stepK10 bx b off kl kc p n kv xs y base w0 Q 2 := by
 intro l c w hb hW hli hcl hA hS
 have ho : RK10[2]? = some (⟨some 45, .move (.tmp 0), 23, "value.go:38", #[], none⟩ : Oper) := by kernel_rfl
 have e0 := hb.t0
 have hw := wnK10 (c := c) ho rfl
 have ec : ∀ v, c.eval (.const v) = v := fun _ => rfl
 have h7 : l 7 = false := by
  cases h : l 7 with
  | false => rfl
  | true => have := hcl 7 h 2 (by decide); rw [hli] at this; cases this
 refine steps_value (d := 45) ho rfl (by rw [hb.size]; decide) hw (v := .slice (some ⟨b, off, none⟩) kl kc) ?_ rfl (hS.lift _ (by decide) (by decide) (by decide))
 generalize c.eval = ρ at *
 clear hA hb hW hw ho hS hcl hli
 go_simp
set_option maxRecDepth 10000 in
theorem oK10_3 : stepK10 bx b off kl kc p n kv xs y base w0 Q 3 := by
 intro l c w hb hW hli hcl hA hS
 have ho : RK10[3]? = some (⟨some 46, .move (.tmp 8), 3, "value.go:38", #[], none⟩ : Oper) := by kernel_rfl
 have e8 := hb.t8
 have hw := wnK10 (c := c) ho rfl
 have ec : ∀ v, c.eval (.const v) = v := fun _ => rfl
 have h7 : l 7 = false := by
  cases h : l 7 with
  | false => rfl
  | true => have := hcl 7 h 3 (by decide); rw [hli] at this; cases this
 refine steps_value (d := 46) ho rfl (by rw [hb.size]; decide) hw (v := .int .i64 (p : Int)) ?_ rfl (hS.lift _ (by decide) (by decide) (by decide))
 generalize c.eval = ρ at *
 clear hA hb hW hw ho hS hcl hli
 go_simp
set_option maxRecDepth 10000 in
theorem oK10_4 : stepK10 bx b off kl kc p n kv xs y base w0 Q 4 := by
 intro l c w hb hW hli hcl hA hS
 have ho : RK10[4]? = some (⟨some 47, .indexAddr 23 (.tmp 45) (.tmp 46), 0, "value.go:38", #[⟨2, .data⟩, ⟨3, .data⟩], none⟩ : Oper) := by kernel_rfl
 have e45 : c.eval (.tmp 45) = .slice (some ⟨b, off, none⟩) kl kc := by have h := (hA 2 (by decide)).2; rw [val_eq (show slotOf RK10 2 = some 45 by kernel_rfl)] at h; exact h
 have e46 : c.eval (.tmp 46) = .int .i64 (p : Int) := by have h := (hA 3 (by decide)).2; rw [val_eq (show slotOf RK10 3 = some 46 by kernel_rfl)] at h; exact h
 have hw := wnK10 (c := c) ho rfl
 have ec : ∀ v, c.eval (.const v) = v := fun _ => rfl
 have h7 : l 7 = false := by
  cases h : l 7 with
  | false => rfl
  | true => have := hcl 7 h 4 (by decide); rw [hli] at this; cases this
 have h1 := hW.lt
 have h2 := hW.le
 refine steps_value (d := 47) ho rfl (by rw [hb.size]; decide) hw (v := .pointer (some ⟨b, off + p, none⟩)) ?_ rfl (hS.lift _ (by decide) (by decide) (by decide))
 generalize c.eval = ρ at *
 clear hA hb hW hw ho hS hcl hli
 go_simp
set_option maxRecDepth 10000 in
theorem oK10_5 : stepK10 bx b off kl kc p n kv xs y base w0 Q 5 := by
 intro l c w hb hW hli hcl hA hS
 have ho : RK10[5]? = some (⟨some 48, .load 9 (.tmp 47), 9, "value.go:38", #[⟨4, .data⟩], none⟩ : Oper) := by kernel_rfl
 have e47 : c.eval (.tmp 47) = .pointer (some ⟨b, off + p, none⟩) := by have h := (hA 4 (by decide)).2; rw [val_eq (show slotOf RK10 4 = some 47 by kernel_rfl)] at h; exact h
 have hw := wnK10 (c := c) ho rfl
 have ec : ∀ v, c.eval (.const v) = v := fun _ => rfl
 have h7 : l 7 = false := by
  cases h : l 7 with
  | false => rfl
  | true => have := hcl 7 h 5 (by decide); rw [hli] at this; cases this
 have hc := (hS.ahead h7).cell (p := ⟨b, off + p, none⟩) (lt_of_cell hW.key)
 rw [hW.key] at hc
 refine steps_value (d := 48) ho rfl (by rw [hb.size]; decide) hw (v := .string y) ?_ rfl (hS.lift _ (by decide) (by decide) (by decide))
 generalize c.eval = ρ at *
 clear hA hb hW hw ho hS hcl hli
 go_simp
set_option maxRecDepth 10000 in
theorem oK10_6 : stepK10 bx b off kl kc p n kv xs y base w0 Q 6 := by
 intro l c w hb hW hli hcl hA hS
 have ho : RK10[6]? = some (⟨some 49, .buildSlice 23 1 #[(0, .tmp 48)], 23, "value.go:38", #[⟨5, .data⟩], none⟩ : Oper) := by kernel_rfl
 have e48 : c.eval (.tmp 48) = .string y := by have h := (hA 5 (by decide)).2; rw [val_eq (show slotOf RK10 5 = some 48 by kernel_rfl)] at h; exact h
 have hw := wnK10 (c := c) ho rfl
 have ec : ∀ v, c.eval (.const v) = v := fun _ => rfl
 have h7 : l 7 = false := by
  cases h : l 7 with
  | false => rfl
  | true => have := hcl 7 h 6 (by decide); rw [hli] at this; cases this
 refine steps_value (d := 49) ho rfl (by rw [hb.size]; decide) hw (v := .slice (some ⟨w.heap.size, 0, none⟩) 1 1) (w' := w.alloc (.cells #[.string y] 9)) ?_ ⟨_, rfl⟩ ?_
 ·generalize c.eval = ρ at *
  clear hA hb hW hw ho hS hcl hli
  go_simp
 ·have n7 : upd l 6 true 7 = false := by rw [upd_other _ _ (by decide)]; exact h7
  refine ⟨fun _ => (hS.ahead h7).alloc (hS.ahead h7).size _, fun _ _ => ⟨w.heap.size, by rw [upd_same], cell_new _ _ _ 0 _ rfl⟩, (fun h => by rw [n7] at h; cases h), fun h => ?_⟩
  have h9 : l 9 = true := by rwa [upd_other _ _ (by decide)] at h
  have := hcl 9 h9 6 (by decide)
  rw [hli] at this; cases this
set_option maxRecDepth 10000 in
theorem oK10_7 : stepK10 bx b off kl kc p n kv xs y base w0 Q 7 := by
 intro l c w hb hW hli hcl hA hS
 have ho : RK10[7]? = some (⟨some 50, .call { callee := .builtin .append, args := #[.tmp 44, .tmp 49], argTypes := #[23, 23] }, 23, "value.go:38", #[⟨1, .data⟩, ⟨6, .data⟩], none⟩ : Oper) := by kernel_rfl
 have e44 : c.eval (.tmp 44) = kv := by have h := (hA 1 (by decide)).2; rw [val_eq (show slotOf RK10 1 = some 44 by kernel_rfl)] at h; exact h
 have e49 : c.eval (.tmp 49) = val RK10 c 6 := (val_eq (show slotOf RK10 6 = some 49 by kernel_rfl)).symm
 have hw := wnK10 (c := c) ho rfl
 have ec : ∀ v, c.eval (.const v) = v := fun _ => rfl
 have h6 : l 6 = true := (hA 6 (by decide)).1
 obtain ⟨t, ht, hcell⟩ := hS.laid hli h6
 have hbel := hS.ahead hli
 obtain ⟨i0, hi, hz0, hz1, hz2⟩ := info_parts Tryz.info9
 have hown : w.ownsRow base 9 1 kv n xs := by
  obtain ⟨g1, ⟨g2, g3⟩ | ⟨g, cap, cur, g2, g3, g4, g5⟩⟩ := hW.own
  ·exact ⟨g1, .inl ⟨g2, g3⟩⟩
  ·refine ⟨g1, .inr ⟨g, cap, cur, g2, g3, ?_, g5⟩⟩
   have hg : g < w0.heap.size := by
    rcases Nat.lt_or_ge g w0.heap.size with h | h
    ·exact h
    ·rw [Array.getElem?_eq_none h] at g4; cases g4
   rw [hbel.block g hg]; exact g4
 refine steps_law (d := 50) ho rfl (by rw [hb.size]; decide) fun K hK => ?_
 refine step_append_lies w rfl (.tmp 44) (.tmp 49) 23 rfl base 9 i0 (.string ⟨#[]⟩) 1 16 Tryz.underlying23 hi hz0 hz1 hz2 rfl (by decide) kv n xs e44 hown ⟨t, 0, none⟩ 1 1 [.string y] (e49.trans ht) rfl ?_ ?_ (by decide) (by have := hW.few; unfold maxLen; omega) (by have := hW.few; omega) (Nat.le_trans hW.low hbel.size) w.heap.size rfl ?_
 ·intro j u hj
  match j, hj with
  | 0, hj =>
   simp only [List.getElem?_cons_zero, Option.some.injEq] at hj
   subst hj
   rw [add_plain]; exact hcell
 ·intro u hu
  simp only [List.mem_cons, List.not_mem_nil, or_false] at hu
  subst hu; rfl
 ·intro g cap w' g1 g2 g3 g4
  refine hK _ _ ⟨g, cap, rfl⟩ ⟨fun h => ?_, fun h => ?_, fun _ _ => ?_, fun h => ?_⟩
  ·rw [upd_same] at h; cases h
  ·rw [upd_same] at h; cases h
  ·rw [upd_same]
   refine ⟨g1, ⟨g2.os.trans hbel.os, g2.tape.trans hbel.tape, g2.output.trans hbel.output, Nat.le_trans hbel.size g2.size, fun k hk hne => (g2.block k (Nat.lt_of_lt_of_le hk hbel.size) hne).trans (hbel.block k hk)⟩, ?_⟩
   have hle := hbel.size
   rcases g3 with g3 | g3
   ·exact .inl (by rw [g3]; rfl)
   ·exact .inr ⟨g, rfl, by omega⟩
  ·have h9 : l 9 = true := by rwa [upd_other _ _ (by decide)] at h
   have := hcl 9 h9 7 (by decide)
   rw [hli] at this; cases this
set_option maxRecDepth 10000 in
theorem oK10_8 : stepK10 bx b off kl kc p n kv xs y base w0 Q 8 := by
 intro l c w hb hW hli hcl hA hS
 have ho : RK10[8]? = some (⟨some 51, .fieldAddr 26 (.tmp 6) 4, 0, "value.go:38", #[⟨0, .phase⟩, ⟨1, .phase⟩, ⟨2, .phase⟩, ⟨3, .phase⟩, ⟨4, .phase⟩, ⟨5, .phase⟩, ⟨6, .phase⟩, ⟨7, .phase⟩], none⟩ : Oper) := by kernel_rfl
 have e6 := hb.t6
 have hw := wnK10 (c := c) ho rfl
 have ec : ∀ v, c.eval (.const v) = v := fun _ => rfl
 refine steps_value (d := 51) ho rfl (by rw [hb.size]; decide) hw (v := .pointer (some ⟨bx, 4, none⟩)) ?_ rfl (hS.lift _ (by decide) (by decide) (by decide))
 generalize c.eval = ρ at *
 clear hA hb hW hw ho hS hcl hli
 go_simp
set_option maxRecDepth 10000 in
theorem oK10_9 : stepK10 bx b off kl kc p n kv xs y base w0 Q 9 := by
 intro l c w hb hW hli hcl hA hS
 have ho : RK10[9]? = some (⟨none, .store 23 (.tmp 51) (.tmp 50), 0, "value.go:38", #[⟨8, .data⟩, ⟨7, .data⟩, ⟨7, .chain⟩, ⟨0, .phase⟩, ⟨1, .phase⟩, ⟨2, .phase⟩, ⟨3, .phase⟩, ⟨4, .phase⟩, ⟨5, .phase⟩, ⟨6, .phase⟩, ⟨7, .phase⟩], none⟩ : Oper) := by kernel_rfl
 have e50 : c.eval (.tmp 50) = val RK10 c 7 := (val_eq (show slotOf RK10 7 = some 50 by kernel_rfl)).symm
 have e51 : c.eval (.tmp 51) = .pointer (some ⟨bx, 4, none⟩) := by have h := (hA 8 (by decide)).2; rw [val_eq (show slotOf RK10 8 = some 51 by kernel_rfl)] at h; exact h
 have hw := wnK10 (c := c) ho rfl
 have ec : ∀ v, c.eval (.const v) = v := fun _ => rfl
 have h7 : l 7 = true := (hA 7 (by decide)).1
 obtain ⟨hown, hgr, hob⟩ := hS.done h7 hli
 obtain ⟨g, cap, hg⟩ := (hA 7 (by decide)).2
 have hbx : bx < w0.heap.size := lt_of_cell hW.box
 have hne : some bx ≠ kv.ownBlock := fun e => by
  have := (hW.own.lt bx e.symm).1
  have := hW.under
  omega
 have hc : w.cell? ⟨bx, 4, none⟩ = some kv := (World.cell?_of_block (hgr.block bx hbx hne)).trans hW.box
 have hf : w.frozen? ⟨bx, 4, none⟩ = false := (World.frozen?_of_block (hgr.block bx hbx hne)).trans hW.free
 refine steps_store ho rfl hw (w' := w.setCell ⟨bx, 4, none⟩ (val RK10 c 7)) ?_ trivial ⟨fun h => ?_, fun h => ?_, fun _ h => ?_, fun _ => ?_⟩
 ·rw [hg] at e50 ⊢
  generalize c.eval = ρ at *
  clear hA hb hW hw ho hS hcl hli hown hgr hne hob
  go_simp
 ·rw [upd_other _ _ (by decide), h7] at h; cases h
 ·rw [upd_other _ _ (by decide), h7] at h; cases h
 ·rw [upd_same] at h; cases h
 ·rw [upd_other _ _ (by decide)]
  exact ⟨w, hown, hgr, hob, rfl⟩
end
set_option maxRecDepth 100000 in
theorem allK10 (bx b off kl kc p n : Nat) (kv : Value) (xs : List Value) (y : ByteArray) (base : Nat) (w0 : World) (Q : Exit → Act → World → Prop) (hW : WK10 bx b off kl kc p n kv xs y base w0) : ∀ i, i < 10 → (fun i => ∀ l c w, BK10 bx b off kl kc p n kv xs y base w0 c → l i = false → (∀ k, l k = true → ∀ j ∈ ancK10 k, l j = true) → (∀ j ∈ ancK10 i, l j = true ∧ gK10 bx b off kl kc p n kv y j (val RK10 c j)) → SK10 bx b off kl kc p n kv xs y base w0 l (val RK10 c) w → Steps' Tryz.prog RK10 Q (gK10 bx b off kl kc p n kv y) (SK10 bx b off kl kc p n kv xs y base w0) i l c w) i := by
 refine below_succ ?_ (fun l c w hb => oK10_9 bx b off kl kc p n kv xs y base w0 Q l c w hb hW)
 refine below_succ ?_ (fun l c w hb => oK10_8 bx b off kl kc p n kv xs y base w0 Q l c w hb hW)
 refine below_succ ?_ (fun l c w hb => oK10_7 bx b off kl kc p n kv xs y base w0 Q l c w hb hW)
 refine below_succ ?_ (fun l c w hb => oK10_6 bx b off kl kc p n kv xs y base w0 Q l c w hb hW)
 refine below_succ ?_ (fun l c w hb => oK10_5 bx b off kl kc p n kv xs y base w0 Q l c w hb hW)
 refine below_succ ?_ (fun l c w hb => oK10_4 bx b off kl kc p n kv xs y base w0 Q l c w hb hW)
 refine below_succ ?_ (fun l c w hb => oK10_3 bx b off kl kc p n kv xs y base w0 Q l c w hb hW)
 refine below_succ ?_ (fun l c w hb => oK10_2 bx b off kl kc p n kv xs y base w0 Q l c w hb hW)
 refine below_succ ?_ (fun l c w hb => oK10_1 bx b off kl kc p n kv xs y base w0 Q l c w hb hW)
 refine below_succ ?_ (fun l c w hb => oK10_0 bx b off kl kc p n kv xs y base w0 Q l c w hb hW)
 exact below_zero
theorem regionK10 (bx b off kl kc p n : Nat) (kv : Value) (xs : List Value) (y : ByteArray) (base : Nat) (w0 : World) (Q : Exit → Act → World → Prop) (frame : Act) (hb : BK10 bx b off kl kc p n kv xs y base w0 frame) (hW : WK10 bx b off kl kc p n kv xs y base w0)
  (hQ : ∀ c g cap W, Same RK10 frame c → W.ownsRow base 9 1 (.slice (some ⟨g, 0, none⟩) (n + 1) cap) (n + 1) (xs ++ [.string y]) → w0.grownBy W kv.ownBlock → (some g = kv.ownBlock ∨ w0.heap.size ≤ g) → Q .normal c (W.setCell ⟨bx, 4, none⟩ (.slice (some ⟨g, 0, none⟩) (n + 1) cap))) :
  (Code.region 10 RK10 true).wp Tryz.prog Q frame w0 := by
 refine writes_rule (A := ancK10) (G := gK10 bx b off kl kc p n kv y) (S := SK10 bx b off kl kc p n kv xs y base w0) (by kernel_rfl) (by rw [hb.size]; kernel_rfl) ?_ ?_ ?_
 ·exact ⟨fun _ => (Below.refl _ _).drew, (fun _ h => by cases h), (fun h => by cases h), (fun h => by cases h)⟩
 ·intro i hi l c w hS hli hcl hA hst
  exact allK10 bx b off kl kc p n kv xs y base w0 Q hW i (by rwa [show RK10.size = 10 by kernel_rfl] at hi) l c w ⟨(same_eval hS (by kernel_rfl)).trans hb.t0, (same_eval hS (by kernel_rfl)).trans hb.t6, (same_eval hS (by kernel_rfl)).trans hb.t8, hS.2.1.trans hb.size⟩ hli hcl hA hst
 ·intro l c w hS hall hst
  have hsz : RK10.size = 10 := by kernel_rfl
  obtain ⟨W, h1, h2, h5, rfl⟩ := hst.last (hall 9 (by rw [hsz]; omega)).1
  obtain ⟨g, cap, hg⟩ := (hall 7 (by rw [hsz]; omega)).2
  rw [hg] at h1 h5 ⊢
  refine hQ c g cap W hS h1 h2 ?_
  rcases h5 with h5 | ⟨g', e, h5⟩
  ·exact .inl h5
  ·have : g = g' := by simpa [Value.ownBlock] using e
   exact .inr (this ▸ h5)
end Go.Proofs.YtbpmhgcjefpigaaGreatDoor
