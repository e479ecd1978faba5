/- The keys of a value are copied, with one place more: the statement of copied, operation by operation, in whatever order. -/
import Derived.Test.YtbpmhgcjefpigaaGreatDoorJoin19
namespace Go.Proofs.YtbpmhgcjefpigaaGreatDoor
open Go.RowKit Go.Shelf Go.WideShapes
set_option linter.unusedVariables false
set_option linter.unusedSimpArgs false
noncomputable def RG3 : Array Oper := regionAt Tryz.f9 3
def ancG3 (i : Nat) : List Nat := ([[], [], [1], [0, 1, 2], [], [0, 1, 2, 3, 4], [], [6], [6, 7], [0, 1, 2, 3, 4, 5, 6, 7, 8], [0, 1, 2, 3, 4, 5, 6, 7, 8, 9]] : List (List Nat)).getD i []
def gG3 (bx kc : Nat) (ka : Option Addr) (ks : List ByteArray) (i : Nat) (v : Value) : Prop :=
  ([fun _ => True, fun v => v = (.pointer (some ⟨bx, 3, none⟩)), fun v => v = (.slice ka ks.length kc), fun _ => True, fun _ => True, fun v => ∃ g cap, v = .slice (some ⟨g, 0, none⟩) (ks.length + 1) cap ∧ ks.length < cap ∧ cap ≤ maxLen, fun v => v = (.pointer (some ⟨bx, 3, none⟩)), fun v => v = (.slice ka ks.length kc), fun v => v = (.int .i64 (ks.length : Int)), fun _ => True, fun _ => True] : List (Value → Prop)).getD i (fun _ => True) v
structure SG3 (bx B kc : Nat) (ka : Option Addr) (ks : List ByteArray) (w0 : World) (l : Nat → Bool) (vs : Nat → Value) (w : World) : Prop where
  ahead : Below w0.heap.size w0 w
  first : l 0 = true → l 3 = false → w.ownsRow w0.heap.size 9 1 (vs 0) 0 []
  row : l 3 = true → l 5 = false → w.ownsRow w0.heap.size 9 1 (vs 3) ks.length (ks.map .string)
  laid : l 4 = true → l 5 = false → ∃ t, vs 4 = .slice (some ⟨t, 0, none⟩) 1 1 ∧ w.cell? ⟨t, 0, none⟩ = some (.string spareB) ∧ (l 0 = true → l 3 = false → (vs 0).ownBlock ≠ some t) ∧ (l 3 = true → (vs 3).ownBlock ≠ some t)
  done : l 5 = true → w.ownsRow w0.heap.size 9 1 (vs 5) (ks.length + 1) (ks.map .string ++ [.string spareB])
  cut : l 9 = true → ∃ g cap, vs 5 = .slice (some ⟨g, 0, none⟩) (ks.length + 1) cap ∧ vs 9 = .slice (some ⟨g, 0, none⟩) ks.length cap
  out : l 10 = true → vs 10 = vs 9
theorem SG3.lift {bx B kc : Nat} {ka : Option Addr} {ks : List ByteArray} {w0 : World} {l : Nat → Bool} {vs : Nat → Value} {w : World} (h : SG3 bx B kc ka ks w0 l vs w) {i : Nat} (v : Value) (h0 : i ≠ 0) (h3 : i ≠ 3) (h4 : i ≠ 4) (h5 : i ≠ 5) (h9 : i ≠ 9) (h10 : i ≠ 10) : SG3 bx B kc ka ks w0 (upd l i true) (upd vs i v) w := by
  have e0 : upd l i true 0 = l 0 := upd_other _ _ (Ne.symm h0)
  have e3 : upd l i true 3 = l 3 := upd_other _ _ (Ne.symm h3)
  have e4 : upd l i true 4 = l 4 := upd_other _ _ (Ne.symm h4)
  have e5 : upd l i true 5 = l 5 := upd_other _ _ (Ne.symm h5)
  have e9 : upd l i true 9 = l 9 := upd_other _ _ (Ne.symm h9)
  have e10 : upd l i true 10 = l 10 := upd_other _ _ (Ne.symm h10)
  have f0 : upd vs i v 0 = vs 0 := upd_other _ _ (Ne.symm h0)
  have f3 : upd vs i v 3 = vs 3 := upd_other _ _ (Ne.symm h3)
  have f4 : upd vs i v 4 = vs 4 := upd_other _ _ (Ne.symm h4)
  have f5 : upd vs i v 5 = vs 5 := upd_other _ _ (Ne.symm h5)
  have f9 : upd vs i v 9 = vs 9 := upd_other _ _ (Ne.symm h9)
  have f10 : upd vs i v 10 = vs 10 := upd_other _ _ (Ne.symm h10)
  exact ⟨h.ahead, by rw [e0, e3, f0]; exact h.first, by rw [e3, e5, f3]; exact h.row, by rw [e4, e5, e0, e3, f0, f3, f4]; exact h.laid, by rw [e5, f5]; exact h.done, by rw [e9, f5, f9]; exact h.cut, by rw [e10, f9, f10]; exact h.out⟩
structure BG3 (bx B kc : Nat) (ka : Option Addr) (ks : List ByteArray) (w0 : World) (c : Act) : Prop where
  t1 : c.eval (.tmp 1) = .pointer (some ⟨bx, 0, none⟩)
  size : c.tmps.size = 205
structure WG3 (bx B kc : Nat) (ka : Option Addr) (ks : List ByteArray) (w0 : World) : Prop where
  box : w0.cell? ⟨bx, 3, none⟩ = some (.slice ka ks.length kc)
  keys : KeysLie B w0 ka ks
  under : B ≤ w0.heap.size
  few : ks.length ≤ 900000
set_option maxRecDepth 10000 in
theorem oG3_0 (bx B kc : Nat) (ka : Option Addr) (ks : List ByteArray) (w0 : World) (Q : Exit → Act → World → Prop) (l : Nat → Bool) (c : Act) (w : World) (hb : BG3 bx B kc ka ks w0 c) (hW : WG3 bx B kc ka ks w0) (hli : l 0 = false) (hcl : ∀ k, l k = true → ∀ j ∈ ancG3 k, l j = true) (hA : ∀ j ∈ ancG3 0, l j = true ∧ gG3 bx kc ka ks j (val RG3 c j)) (hS : SG3 bx B kc ka ks w0 l (val RG3 c) w) :
    Steps' Tryz.prog RG3 Q (gG3 bx kc ka ks) (SG3 bx B kc ka ks w0) 0 l c w := by
  have ho : RG3[0]? = some ({ dst := some 36, op := Op.buildSlice 23 0 #[], type := 23, pos := "law.go:214", after := #[], guard := none } : Oper) := by kernel_rfl
  have hw : Region.wanted ({ dst := some 36, op := Op.buildSlice 23 0 #[], type := 23, pos := "law.go:214", after := #[], guard := none } : Oper) (yielded RG3 c.tmps) = true := want_none rfl
  have ec : ∀ v, c.eval (.const v) = v := fun _ => rfl
  have h10 : l 10 = false := by
    cases h : l 10 with
    | false => rfl
    | true => have := hcl 10 h 0 (by decide); rw [hli] at this; cases this
  have h3 : l 3 = false := by
    cases h : l 3 with
    | false => rfl
    | true => have := hcl 3 h 0 (by decide); rw [hli] at this; cases this
  have h5 : l 5 = false := by
    cases h : l 5 with
    | false => rfl
    | true => have := hcl 5 h 0 (by decide); rw [hli] at this; cases this
  have h9 : l 9 = false := by
    cases h : l 9 with
    | false => rfl
    | true => have := hcl 9 h 0 (by decide); rw [hli] at this; cases this
  refine steps_value (d := 36) ho rfl (by rw [hb.size]; decide) hw (v := .slice (some ⟨w.heap.size, 0, none⟩) 0 0) (w' := w.alloc (.cells #[] 9)) ?_ trivial ?_
  · generalize c.eval = ρ at *
    clear hA hb hW hw ho hS hcl hli
    go_simp
  · have hbel := hS.ahead
    have n3 : upd l 0 true 3 = false := by rw [upd_other _ _ (by decide)]; exact h3
    have n4 : upd l 0 true 4 = l 4 := upd_other _ _ (by decide)
    have n5 : upd l 0 true 5 = false := by rw [upd_other _ _ (by decide)]; exact h5
    have n9 : upd l 0 true 9 = false := by rw [upd_other _ _ (by decide)]; exact h9
    have n11 : upd l 0 true 10 = false := by rw [upd_other _ _ (by decide)]; exact h10
    refine ⟨hbel.alloc hbel.size _, fun _ _ => ?_, fun h => (by rw [n3] at h; cases h), fun h _ => ?_, fun h => (by rw [n5] at h; cases h), fun h => (by rw [n9] at h; cases h), fun h => (by rw [n11] at h; cases h)⟩
    · rw [upd_same]; exact World.ownsRow_made w #[] 0 hbel.size (by decide) rfl
    · obtain ⟨t, ht, hcell, _, _⟩ := hS.laid (n4 ▸ h) h5
      have htl : t < w.heap.size := lt_of_cell hcell
      refine ⟨t, by rw [upd_other _ _ (by decide)]; exact ht, ?_, fun _ _ => ?_, fun h => (by rw [n3] at h; cases h)⟩
      · exact (((Below.refl w.heap.size w).alloc (Nat.le_refl _) _).cell (p := ⟨t, 0, none⟩) htl).trans hcell
      · rw [upd_same]; simp only [Value.ownBlock, ne_eq, Option.some.injEq]; omega
set_option maxRecDepth 10000 in
theorem oG3_1 (bx B kc : Nat) (ka : Option Addr) (ks : List ByteArray) (w0 : World) (Q : Exit → Act → World → Prop) (l : Nat → Bool) (c : Act) (w : World) (hb : BG3 bx B kc ka ks w0 c) (hW : WG3 bx B kc ka ks w0) (hli : l 1 = false) (hcl : ∀ k, l k = true → ∀ j ∈ ancG3 k, l j = true) (hA : ∀ j ∈ ancG3 1, l j = true ∧ gG3 bx kc ka ks j (val RG3 c j)) (hS : SG3 bx B kc ka ks w0 l (val RG3 c) w) :
    Steps' Tryz.prog RG3 Q (gG3 bx kc ka ks) (SG3 bx B kc ka ks w0) 1 l c w := by
  have ho : RG3[1]? = some ({ dst := some 37, op := Op.fieldAddr 56 (Operand.tmp 1) 3, type := 0, pos := "law.go:214", after := #[], guard := none } : Oper) := by kernel_rfl
  have e1 := hb.t1
  have hw : Region.wanted ({ dst := some 37, op := Op.fieldAddr 56 (Operand.tmp 1) 3, type := 0, pos := "law.go:214", after := #[], guard := none } : Oper) (yielded RG3 c.tmps) = true := want_none rfl
  have ec : ∀ v, c.eval (.const v) = v := fun _ => rfl
  have h10 : l 10 = false := by
    cases h : l 10 with
    | false => rfl
    | true => have := hcl 10 h 1 (by decide); rw [hli] at this; cases this
  refine steps_value (d := 37) ho rfl (by rw [hb.size]; decide) hw (v := .pointer (some ⟨bx, 3, none⟩)) ?_ rfl (hS.lift _ (by decide) (by decide) (by decide) (by decide) (by decide) (by decide))
  generalize c.eval = ρ at *
  clear hA hb hW hw ho hS hcl hli
  go_simp
set_option maxRecDepth 10000 in
theorem oG3_2 (bx B kc : Nat) (ka : Option Addr) (ks : List ByteArray) (w0 : World) (Q : Exit → Act → World → Prop) (l : Nat → Bool) (c : Act) (w : World) (hb : BG3 bx B kc ka ks w0 c) (hW : WG3 bx B kc ka ks w0) (hli : l 2 = false) (hcl : ∀ k, l k = true → ∀ j ∈ ancG3 k, l j = true) (hA : ∀ j ∈ ancG3 2, l j = true ∧ gG3 bx kc ka ks j (val RG3 c j)) (hS : SG3 bx B kc ka ks w0 l (val RG3 c) w) :
    Steps' Tryz.prog RG3 Q (gG3 bx kc ka ks) (SG3 bx B kc ka ks w0) 2 l c w := by
  have ho : RG3[2]? = some ({ dst := some 38, op := Op.load 23 (Operand.tmp 37), type := 23, pos := "law.go:214", after := #[{ on := 1, ground := Ground.data }], guard := none } : Oper) := by kernel_rfl
  have e37 : c.eval (.tmp 37) = .pointer (some ⟨bx, 3, none⟩) := by have h := (hA 1 (by decide)).2; rw [val_eq (show slotOf RG3 1 = some 37 by kernel_rfl)] at h; exact h
  have hw : Region.wanted ({ dst := some 38, op := Op.load 23 (Operand.tmp 37), type := 23, pos := "law.go:214", after := #[{ on := 1, ground := Ground.data }], guard := none } : Oper) (yielded RG3 c.tmps) = true := want_none rfl
  have ec : ∀ v, c.eval (.const v) = v := fun _ => rfl
  have h10 : l 10 = false := by
    cases h : l 10 with
    | false => rfl
    | true => have := hcl 10 h 2 (by decide); rw [hli] at this; cases this
  have hc := (hS.ahead).cell (p := ⟨bx, 3, none⟩) (lt_of_cell hW.box)
  rw [hW.box] at hc
  refine steps_value (d := 38) ho rfl (by rw [hb.size]; decide) hw (v := .slice ka ks.length kc) ?_ rfl (hS.lift _ (by decide) (by decide) (by decide) (by decide) (by decide) (by decide))
  generalize c.eval = ρ at *
  clear hA hb hW hw ho hS hcl hli
  go_simp
set_option maxRecDepth 10000 in
theorem oG3_3 (bx B kc : Nat) (ka : Option Addr) (ks : List ByteArray) (w0 : World) (Q : Exit → Act → World → Prop) (l : Nat → Bool) (c : Act) (w : World) (hb : BG3 bx B kc ka ks w0 c) (hW : WG3 bx B kc ka ks w0) (hli : l 3 = false) (hcl : ∀ k, l k = true → ∀ j ∈ ancG3 k, l j = true) (hA : ∀ j ∈ ancG3 3, l j = true ∧ gG3 bx kc ka ks j (val RG3 c j)) (hS : SG3 bx B kc ka ks w0 l (val RG3 c) w) :
    Steps' Tryz.prog RG3 Q (gG3 bx kc ka ks) (SG3 bx B kc ka ks w0) 3 l c w := by
  have ho : RG3[3]? = some ({ dst := some 39, op := Op.call { callee := Callee.builtin Builtin.append, args := #[Operand.tmp 36, Operand.tmp 38], argTypes := #[23, 23] }, type := 23, pos := "law.go:214", after := #[{ on := 0, ground := Ground.data }, { on := 2, ground := Ground.data }], guard := none } : Oper) := by kernel_rfl
  have e36 : c.eval (.tmp 36) = val RG3 c 0 := (val_eq (show slotOf RG3 0 = some 36 by kernel_rfl)).symm
  have e38 : c.eval (.tmp 38) = .slice ka ks.length kc := by have h := (hA 2 (by decide)).2; rw [val_eq (show slotOf RG3 2 = some 38 by kernel_rfl)] at h; exact h
  have hw : Region.wanted ({ dst := some 39, op := Op.call { callee := Callee.builtin Builtin.append, args := #[Operand.tmp 36, Operand.tmp 38], argTypes := #[23, 23] }, type := 23, pos := "law.go:214", after := #[{ on := 0, ground := Ground.data }, { on := 2, ground := Ground.data }], guard := none } : Oper) (yielded RG3 c.tmps) = true := want_none rfl
  have ec : ∀ v, c.eval (.const v) = v := fun _ => rfl
  have h10 : l 10 = false := by
    cases h : l 10 with
    | false => rfl
    | true => have := hcl 10 h 3 (by decide); rw [hli] at this; cases this
  have h5 : l 5 = false := by
    cases h : l 5 with
    | false => rfl
    | true => have := hcl 5 h 3 (by decide); rw [hli] at this; cases this
  have h9 : l 9 = false := by
    cases h : l 9 with
    | false => rfl
    | true => have := hcl 9 h 3 (by decide); rw [hli] at this; cases this
  have h0 : l 0 = true := (hA 0 (by decide)).1
  have hbel := hS.ahead
  have hown := hS.first h0 hli
  obtain ⟨v', w', hr, g1, g2, g3⟩ := append_keys (ty := 23) (kc := kc) hown (keys_below hW.keys hbel hW.under) (by have := hW.few; omega) hbel.size
  refine steps_value (d := 39) ho rfl (by rw [hb.size]; decide) hw (v := v') (w' := w') ?_ trivial ?_
  · unfold execOp
    simp only [resolve, invoke, builtin, Sem.run_bind, Sem.run_pure, Result.andThen_ok, List.map_toArray, List.map_cons, List.map_nil, e36, e38, hr]
  · have n4 : upd l 3 true 4 = l 4 := upd_other _ _ (by decide)
    have n5 : upd l 3 true 5 = false := by rw [upd_other _ _ (by decide)]; exact h5
    have n9 : upd l 3 true 9 = false := by rw [upd_other _ _ (by decide)]; exact h9
    have n11 : upd l 3 true 10 = false := by rw [upd_other _ _ (by decide)]; exact h10
    refine ⟨hbel.grown g2 hbel.size fun q h => (hown.lt q h).1, fun _ h => (by rw [upd_same] at h; cases h), fun _ _ => ?_, fun h _ => ?_, fun h => (by rw [n5] at h; cases h), fun h => (by rw [n9] at h; cases h), fun h => (by rw [n11] at h; cases h)⟩
    · rw [upd_same]; simpa using g1
    · obtain ⟨t, ht, hcell, hne, _⟩ := hS.laid (n4 ▸ h) h5
      have htl : t < w.heap.size := lt_of_cell hcell
      refine ⟨t, by rw [upd_other _ _ (by decide)]; exact ht, g2.cell hcell (fun e => hne h0 hli e.symm), fun _ h => (by rw [upd_same] at h; cases h), fun _ => ?_⟩
      rw [upd_same]
      rcases g3 with g3 | g3
      · rw [g3]; exact hne h0 hli
      · rw [g3]; simp only [ne_eq, Option.some.injEq]; omega
set_option maxRecDepth 10000 in
theorem oG3_4 (bx B kc : Nat) (ka : Option Addr) (ks : List ByteArray) (w0 : World) (Q : Exit → Act → World → Prop) (l : Nat → Bool) (c : Act) (w : World) (hb : BG3 bx B kc ka ks w0 c) (hW : WG3 bx B kc ka ks w0) (hli : l 4 = false) (hcl : ∀ k, l k = true → ∀ j ∈ ancG3 k, l j = true) (hA : ∀ j ∈ ancG3 4, l j = true ∧ gG3 bx kc ka ks j (val RG3 c j)) (hS : SG3 bx B kc ka ks w0 l (val RG3 c) w) :
    Steps' Tryz.prog RG3 Q (gG3 bx kc ka ks) (SG3 bx B kc ka ks w0) 4 l c w := by
  have ho : RG3[4]? = some ({ dst := some 40, op := Op.buildSlice 23 1 #[(0, Operand.const (Value.string { data := #[115, 112, 97, 114, 101] }))], type := 23, pos := "law.go:214", after := #[], guard := none } : Oper) := by kernel_rfl
  have hw : Region.wanted ({ dst := some 40, op := Op.buildSlice 23 1 #[(0, Operand.const (Value.string { data := #[115, 112, 97, 114, 101] }))], type := 23, pos := "law.go:214", after := #[], guard := none } : Oper) (yielded RG3 c.tmps) = true := want_none rfl
  have ec : ∀ v, c.eval (.const v) = v := fun _ => rfl
  have h10 : l 10 = false := by
    cases h : l 10 with
    | false => rfl
    | true => have := hcl 10 h 4 (by decide); rw [hli] at this; cases this
  have h5 : l 5 = false := by
    cases h : l 5 with
    | false => rfl
    | true => have := hcl 5 h 4 (by decide); rw [hli] at this; cases this
  have h9 : l 9 = false := by
    cases h : l 9 with
    | false => rfl
    | true => have := hcl 9 h 4 (by decide); rw [hli] at this; cases this
  refine steps_value (d := 40) ho rfl (by rw [hb.size]; decide) hw (v := .slice (some ⟨w.heap.size, 0, none⟩) 1 1) (w' := w.alloc (.cells #[.string spareB] 9)) ?_ trivial ?_
  · generalize c.eval = ρ at *
    clear hA hb hW hw ho hS hcl hli
    unfold spareB
    go_simp
  · have hbel := hS.ahead
    have n0 : upd l 4 true 0 = l 0 := upd_other _ _ (by decide)
    have n3 : upd l 4 true 3 = l 3 := upd_other _ _ (by decide)
    have n5 : upd l 4 true 5 = false := by rw [upd_other _ _ (by decide)]; exact h5
    have n9 : upd l 4 true 9 = false := by rw [upd_other _ _ (by decide)]; exact h9
    have n11 : upd l 4 true 10 = false := by rw [upd_other _ _ (by decide)]; exact h10
    refine ⟨hbel.alloc hbel.size _, fun h g => ?_, fun h _ => ?_, fun _ _ => ⟨w.heap.size, by rw [upd_same], cell_new _ _ _ 0 _ rfl, fun h g e => ?_, fun h e => ?_⟩, fun h => (by rw [n5] at h; cases h), fun h => (by rw [n9] at h; cases h), fun h => (by rw [n11] at h; cases h)⟩
    · rw [upd_other _ _ (by decide)]; exact (hS.first (n0 ▸ h) (n3 ▸ g)).alloc _
    · rw [upd_other _ _ (by decide)]; exact (hS.row (n3 ▸ h) h5).alloc _
    · rw [upd_other _ _ (by decide)] at e
      have := ((hS.first (n0 ▸ h) (n3 ▸ g)).lt _ e).2
      omega
    · rw [upd_other _ _ (by decide)] at e
      have := ((hS.row (n3 ▸ h) h5).lt _ e).2
      omega
set_option maxRecDepth 10000 in
theorem oG3_5 (bx B kc : Nat) (ka : Option Addr) (ks : List ByteArray) (w0 : World) (Q : Exit → Act → World → Prop) (l : Nat → Bool) (c : Act) (w : World) (hb : BG3 bx B kc ka ks w0 c) (hW : WG3 bx B kc ka ks w0) (hli : l 5 = false) (hcl : ∀ k, l k = true → ∀ j ∈ ancG3 k, l j = true) (hA : ∀ j ∈ ancG3 5, l j = true ∧ gG3 bx kc ka ks j (val RG3 c j)) (hS : SG3 bx B kc ka ks w0 l (val RG3 c) w) :
    Steps' Tryz.prog RG3 Q (gG3 bx kc ka ks) (SG3 bx B kc ka ks w0) 5 l c w := by
  have ho : RG3[5]? = some ({ dst := some 41, op := Op.call { callee := Callee.builtin Builtin.append, args := #[Operand.tmp 39, Operand.tmp 40], argTypes := #[23, 23] }, type := 23, pos := "law.go:214", after := #[{ on := 3, ground := Ground.data }, { on := 4, ground := Ground.data }, { on := 3, ground := Ground.chain }], guard := none } : Oper) := by kernel_rfl
  have e39 : c.eval (.tmp 39) = val RG3 c 3 := (val_eq (show slotOf RG3 3 = some 39 by kernel_rfl)).symm
  have e40 : c.eval (.tmp 40) = val RG3 c 4 := (val_eq (show slotOf RG3 4 = some 40 by kernel_rfl)).symm
  have hw : Region.wanted ({ dst := some 41, op := Op.call { callee := Callee.builtin Builtin.append, args := #[Operand.tmp 39, Operand.tmp 40], argTypes := #[23, 23] }, type := 23, pos := "law.go:214", after := #[{ on := 3, ground := Ground.data }, { on := 4, ground := Ground.data }, { on := 3, ground := Ground.chain }], guard := none } : Oper) (yielded RG3 c.tmps) = true := want_none rfl
  have ec : ∀ v, c.eval (.const v) = v := fun _ => rfl
  have h10 : l 10 = false := by
    cases h : l 10 with
    | false => rfl
    | true => have := hcl 10 h 5 (by decide); rw [hli] at this; cases this
  have h9 : l 9 = false := by
    cases h : l 9 with
    | false => rfl
    | true => have := hcl 9 h 5 (by decide); rw [hli] at this; cases this
  have h3 : l 3 = true := (hA 3 (by decide)).1
  have h4 : l 4 = true := (hA 4 (by decide)).1
  have hbel := hS.ahead
  have hown := hS.row h3 hli
  obtain ⟨t, ht, hcell, _, hne⟩ := hS.laid h4 hli
  obtain ⟨i0, hi, hz0, hz1, hz2⟩ := info_parts Tryz.info9
  refine steps_law (d := 41) ho rfl (by rw [hb.size]; decide) fun K hK => ?_
  refine step_append_lies w rfl (.tmp 39) (.tmp 40) 23 rfl w0.heap.size 9 i0 (.string ⟨#[]⟩) 1 16 Tryz.underlying23 hi hz0 hz1 hz2 rfl (by decide) (val RG3 c 3) ks.length (ks.map .string) e39 hown ⟨t, 0, none⟩ 1 1 [.string spareB] (e40.trans ht) rfl ?_ ?_ (by decide) (by have := hW.few; unfold maxLen; omega) (by have := hW.few; omega) hbel.size w.heap.size rfl ?_
  · intro j u hj
    match j, hj with
    | 0, hj =>
      simp only [List.getElem?_cons_zero, Option.some.injEq] at hj
      subst hj
      rw [add_plain]; exact hcell
  · intro u hu
    simp only [List.mem_cons, List.not_mem_nil, or_false] at hu
    subst hu; rfl
  · intro g cap w' g1 g2 g3 g4
    have n9 : upd l 5 true 9 = false := by rw [upd_other _ _ (by decide)]; exact h9
    have n11 : upd l 5 true 10 = false := by rw [upd_other _ _ (by decide)]; exact h10
    refine hK _ _ ⟨g, cap, rfl, ?_⟩ ⟨hbel.grown g2 hbel.size fun q h => (hown.lt q h).1, fun h g => ?_, fun _ h => (by rw [upd_same] at h; cases h), fun _ h => (by rw [upd_same] at h; cases h), fun _ => ?_, fun h => (by rw [n9] at h; cases h), fun h => (by rw [n11] at h; cases h)⟩
    · obtain ⟨_, ⟨q1, _⟩ | ⟨g', cap', cur, q1, q2, q3, q4, q5, _⟩⟩ := g1
      · cases q1
      · injection q1 with _ _ q6
        subst q6
        exact ⟨q4, q5⟩
    · rw [upd_other _ _ (by decide), h3] at g; cases g
    · rw [upd_same]; exact g1
set_option maxRecDepth 10000 in
theorem oG3_6 (bx B kc : Nat) (ka : Option Addr) (ks : List ByteArray) (w0 : World) (Q : Exit → Act → World → Prop) (l : Nat → Bool) (c : Act) (w : World) (hb : BG3 bx B kc ka ks w0 c) (hW : WG3 bx B kc ka ks w0) (hli : l 6 = false) (hcl : ∀ k, l k = true → ∀ j ∈ ancG3 k, l j = true) (hA : ∀ j ∈ ancG3 6, l j = true ∧ gG3 bx kc ka ks j (val RG3 c j)) (hS : SG3 bx B kc ka ks w0 l (val RG3 c) w) :
    Steps' Tryz.prog RG3 Q (gG3 bx kc ka ks) (SG3 bx B kc ka ks w0) 6 l c w := by
  have ho : RG3[6]? = some ({ dst := some 42, op := Op.fieldAddr 56 (Operand.tmp 1) 3, type := 0, pos := "law.go:214", after := #[], guard := none } : Oper) := by kernel_rfl
  have e1 := hb.t1
  have hw : Region.wanted ({ dst := some 42, op := Op.fieldAddr 56 (Operand.tmp 1) 3, type := 0, pos := "law.go:214", after := #[], guard := none } : Oper) (yielded RG3 c.tmps) = true := want_none rfl
  have ec : ∀ v, c.eval (.const v) = v := fun _ => rfl
  have h10 : l 10 = false := by
    cases h : l 10 with
    | false => rfl
    | true => have := hcl 10 h 6 (by decide); rw [hli] at this; cases this
  refine steps_value (d := 42) ho rfl (by rw [hb.size]; decide) hw (v := .pointer (some ⟨bx, 3, none⟩)) ?_ rfl (hS.lift _ (by decide) (by decide) (by decide) (by decide) (by decide) (by decide))
  generalize c.eval = ρ at *
  clear hA hb hW hw ho hS hcl hli
  go_simp
set_option maxRecDepth 10000 in
theorem oG3_7 (bx B kc : Nat) (ka : Option Addr) (ks : List ByteArray) (w0 : World) (Q : Exit → Act → World → Prop) (l : Nat → Bool) (c : Act) (w : World) (hb : BG3 bx B kc ka ks w0 c) (hW : WG3 bx B kc ka ks w0) (hli : l 7 = false) (hcl : ∀ k, l k = true → ∀ j ∈ ancG3 k, l j = true) (hA : ∀ j ∈ ancG3 7, l j = true ∧ gG3 bx kc ka ks j (val RG3 c j)) (hS : SG3 bx B kc ka ks w0 l (val RG3 c) w) :
    Steps' Tryz.prog RG3 Q (gG3 bx kc ka ks) (SG3 bx B kc ka ks w0) 7 l c w := by
  have ho : RG3[7]? = some ({ dst := some 43, op := Op.load 23 (Operand.tmp 42), type := 23, pos := "law.go:214", after := #[{ on := 6, ground := Ground.data }], guard := none } : Oper) := by kernel_rfl
  have e42 : c.eval (.tmp 42) = .pointer (some ⟨bx, 3, none⟩) := by have h := (hA 6 (by decide)).2; rw [val_eq (show slotOf RG3 6 = some 42 by kernel_rfl)] at h; exact h
  have hw : Region.wanted ({ dst := some 43, op := Op.load 23 (Operand.tmp 42), type := 23, pos := "law.go:214", after := #[{ on := 6, ground := Ground.data }], guard := none } : Oper) (yielded RG3 c.tmps) = true := want_none rfl
  have ec : ∀ v, c.eval (.const v) = v := fun _ => rfl
  have h10 : l 10 = false := by
    cases h : l 10 with
    | false => rfl
    | true => have := hcl 10 h 7 (by decide); rw [hli] at this; cases this
  have hc := (hS.ahead).cell (p := ⟨bx, 3, none⟩) (lt_of_cell hW.box)
  rw [hW.box] at hc
  refine steps_value (d := 43) ho rfl (by rw [hb.size]; decide) hw (v := .slice ka ks.length kc) ?_ rfl (hS.lift _ (by decide) (by decide) (by decide) (by decide) (by decide) (by decide))
  generalize c.eval = ρ at *
  clear hA hb hW hw ho hS hcl hli
  go_simp
set_option maxRecDepth 10000 in
theorem oG3_8 (bx B kc : Nat) (ka : Option Addr) (ks : List ByteArray) (w0 : World) (Q : Exit → Act → World → Prop) (l : Nat → Bool) (c : Act) (w : World) (hb : BG3 bx B kc ka ks w0 c) (hW : WG3 bx B kc ka ks w0) (hli : l 8 = false) (hcl : ∀ k, l k = true → ∀ j ∈ ancG3 k, l j = true) (hA : ∀ j ∈ ancG3 8, l j = true ∧ gG3 bx kc ka ks j (val RG3 c j)) (hS : SG3 bx B kc ka ks w0 l (val RG3 c) w) :
    Steps' Tryz.prog RG3 Q (gG3 bx kc ka ks) (SG3 bx B kc ka ks w0) 8 l c w := by
  have ho : RG3[8]? = some ({ dst := some 44, op := Op.call { callee := Callee.builtin Builtin.len, args := #[Operand.tmp 43], argTypes := #[23] }, type := 3, pos := "law.go:214", after := #[{ on := 7, ground := Ground.data }], guard := none } : Oper) := by kernel_rfl
  have e43 : c.eval (.tmp 43) = .slice ka ks.length kc := by have h := (hA 7 (by decide)).2; rw [val_eq (show slotOf RG3 7 = some 43 by kernel_rfl)] at h; exact h
  have hw : Region.wanted ({ dst := some 44, op := Op.call { callee := Callee.builtin Builtin.len, args := #[Operand.tmp 43], argTypes := #[23] }, type := 3, pos := "law.go:214", after := #[{ on := 7, ground := Ground.data }], guard := none } : Oper) (yielded RG3 c.tmps) = true := want_none rfl
  have ec : ∀ v, c.eval (.const v) = v := fun _ => rfl
  have h10 : l 10 = false := by
    cases h : l 10 with
    | false => rfl
    | true => have := hcl 10 h 8 (by decide); rw [hli] at this; cases this
  refine steps_value (d := 44) ho rfl (by rw [hb.size]; decide) hw (v := .int .i64 (ks.length : Int)) ?_ rfl (hS.lift _ (by decide) (by decide) (by decide) (by decide) (by decide) (by decide))
  generalize c.eval = ρ at *
  clear hA hb hW hw ho hS hcl hli
  go_simp
set_option maxRecDepth 10000 in
theorem oG3_9 (bx B kc : Nat) (ka : Option Addr) (ks : List ByteArray) (w0 : World) (Q : Exit → Act → World → Prop) (l : Nat → Bool) (c : Act) (w : World) (hb : BG3 bx B kc ka ks w0 c) (hW : WG3 bx B kc ka ks w0) (hli : l 9 = false) (hcl : ∀ k, l k = true → ∀ j ∈ ancG3 k, l j = true) (hA : ∀ j ∈ ancG3 9, l j = true ∧ gG3 bx kc ka ks j (val RG3 c j)) (hS : SG3 bx B kc ka ks w0 l (val RG3 c) w) :
    Steps' Tryz.prog RG3 Q (gG3 bx kc ka ks) (SG3 bx B kc ka ks w0) 9 l c w := by
  have ho : RG3[9]? = some ({ dst := some 45, op := Op.slice 23 (Operand.tmp 41) none (some (Operand.tmp 44)) none, type := 23, pos := "law.go:214", after := #[{ on := 5, ground := Ground.data }, { on := 8, ground := Ground.data }], guard := none } : Oper) := by kernel_rfl
  have e41 : c.eval (.tmp 41) = val RG3 c 5 := (val_eq (show slotOf RG3 5 = some 41 by kernel_rfl)).symm
  have e44 : c.eval (.tmp 44) = .int .i64 (ks.length : Int) := by have h := (hA 8 (by decide)).2; rw [val_eq (show slotOf RG3 8 = some 44 by kernel_rfl)] at h; exact h
  have hw : Region.wanted ({ dst := some 45, op := Op.slice 23 (Operand.tmp 41) none (some (Operand.tmp 44)) none, type := 23, pos := "law.go:214", after := #[{ on := 5, ground := Ground.data }, { on := 8, ground := Ground.data }], guard := none } : Oper) (yielded RG3 c.tmps) = true := want_none rfl
  have ec : ∀ v, c.eval (.const v) = v := fun _ => rfl
  have h10 : l 10 = false := by
    cases h : l 10 with
    | false => rfl
    | true => have := hcl 10 h 9 (by decide); rw [hli] at this; cases this
  have h5 : l 5 = true := (hA 5 (by decide)).1
  obtain ⟨g, cap, hg, hlt, hle⟩ := (hA 5 (by decide)).2
  have hown := hS.done h5
  refine steps_value (d := 45) ho rfl (by rw [hb.size]; decide) hw (v := .slice (some ⟨g, 0, none⟩) ks.length cap) (w' := w) ?_ trivial ?_
  · rw [hg] at e41
    have hle' : cap ≤ 9223372036854775807 := by unfold maxLen at hle; omega
    have hlt' : ks.length ≤ cap := Nat.le_of_lt hlt
    generalize c.eval = ρ at *
    clear hA hb hW hw ho hS hcl hli hown
    go_simp
  · have m0 : upd l 9 true 0 = l 0 := upd_other _ _ (by decide)
    have m3 : upd l 9 true 3 = l 3 := upd_other _ _ (by decide)
    have m4 : upd l 9 true 4 = l 4 := upd_other _ _ (by decide)
    have m5 : upd l 9 true 5 = l 5 := upd_other _ _ (by decide)
    have m10 : upd l 9 true 10 = false := by rw [upd_other _ _ (by decide)]; exact h10
    have f0 : ∀ v, upd (val RG3 c) 9 v 0 = val RG3 c 0 := fun v => upd_other _ _ (by decide)
    have f3 : ∀ v, upd (val RG3 c) 9 v 3 = val RG3 c 3 := fun v => upd_other _ _ (by decide)
    have f4 : ∀ v, upd (val RG3 c) 9 v 4 = val RG3 c 4 := fun v => upd_other _ _ (by decide)
    have f5 : ∀ v, upd (val RG3 c) 9 v 5 = val RG3 c 5 := fun v => upd_other _ _ (by decide)
    exact ⟨hS.ahead, by rw [m0, m3, f0]; exact hS.first, by rw [m3, m5, f3]; exact hS.row, by rw [m4, m5, m0, m3, f0, f3, f4]; exact hS.laid, by rw [m5, f5]; exact hS.done, fun _ => ⟨g, cap, by rw [f5]; exact hg, by rw [upd_same]⟩, fun h => (by rw [m10] at h; cases h)⟩
set_option maxRecDepth 10000 in
theorem oG3_10 (bx B kc : Nat) (ka : Option Addr) (ks : List ByteArray) (w0 : World) (Q : Exit → Act → World → Prop) (l : Nat → Bool) (c : Act) (w : World) (hb : BG3 bx B kc ka ks w0 c) (hW : WG3 bx B kc ka ks w0) (hli : l 10 = false) (hcl : ∀ k, l k = true → ∀ j ∈ ancG3 k, l j = true) (hA : ∀ j ∈ ancG3 10, l j = true ∧ gG3 bx kc ka ks j (val RG3 c j)) (hS : SG3 bx B kc ka ks w0 l (val RG3 c) w) :
    Steps' Tryz.prog RG3 Q (gG3 bx kc ka ks) (SG3 bx B kc ka ks w0) 10 l c w := by
  have ho : RG3[10]? = some ({ dst := some 3, op := Op.assign (Operand.tmp 45), type := 23, pos := "law.go:214", after := #[{ on := 9, ground := Ground.data }, { on := 5, ground := Ground.chain }, { on := 0, ground := Ground.phase }, { on := 1, ground := Ground.phase }, { on := 2, ground := Ground.phase }, { on := 3, ground := Ground.phase }, { on := 4, ground := Ground.phase }, { on := 5, ground := Ground.phase }, { on := 6, ground := Ground.phase }, { on := 7, ground := Ground.phase }, { on := 8, ground := Ground.phase }, { on := 9, ground := Ground.phase }], guard := none } : Oper) := by kernel_rfl
  have e45 : c.eval (.tmp 45) = val RG3 c 9 := (val_eq (show slotOf RG3 9 = some 45 by kernel_rfl)).symm
  have hw : Region.wanted ({ dst := some 3, op := Op.assign (Operand.tmp 45), type := 23, pos := "law.go:214", after := #[{ on := 9, ground := Ground.data }, { on := 5, ground := Ground.chain }, { on := 0, ground := Ground.phase }, { on := 1, ground := Ground.phase }, { on := 2, ground := Ground.phase }, { on := 3, ground := Ground.phase }, { on := 4, ground := Ground.phase }, { on := 5, ground := Ground.phase }, { on := 6, ground := Ground.phase }, { on := 7, ground := Ground.phase }, { on := 8, ground := Ground.phase }, { on := 9, ground := Ground.phase }], guard := none } : Oper) (yielded RG3 c.tmps) = true := want_none rfl
  have ec : ∀ v, c.eval (.const v) = v := fun _ => rfl
  refine steps_value (d := 3) ho rfl (by rw [hb.size]; decide) hw (v := val RG3 c 9) (w' := w) ?_ trivial ?_
  · generalize val RG3 c 9 = v9 at *
    generalize c.eval = ρ at *
    clear hA hb hW hw ho hS hcl hli
    go_simp
  · have m : ∀ k, k ≠ 10 → upd l 10 true k = l k := fun k hk => upd_other _ _ hk
    have f : ∀ v k, k ≠ 10 → upd (val RG3 c) 10 v k = val RG3 c k := fun v k hk => upd_other _ _ hk
    exact ⟨hS.ahead, by rw [m 0 (by decide), m 3 (by decide), f _ 0 (by decide)]; exact hS.first, by rw [m 3 (by decide), m 5 (by decide), f _ 3 (by decide)]; exact hS.row, by rw [m 4 (by decide), m 5 (by decide), m 0 (by decide), m 3 (by decide), f _ 0 (by decide), f _ 3 (by decide), f _ 4 (by decide)]; exact hS.laid, by rw [m 5 (by decide), f _ 5 (by decide)]; exact hS.done, by rw [m 9 (by decide), f _ 5 (by decide), f _ 9 (by decide)]; exact hS.cut, fun _ => by rw [upd_same, f _ 9 (by decide)]⟩
set_option maxRecDepth 100000 in
theorem allG3 (bx B kc : Nat) (ka : Option Addr) (ks : List ByteArray) (w0 : World) (Q : Exit → Act → World → Prop) (hW : WG3 bx B kc ka ks w0) : ∀ i, i < 11 → (fun i => ∀ l c w, BG3 bx B kc ka ks w0 c → l i = false → (∀ k, l k = true → ∀ j ∈ ancG3 k, l j = true) → (∀ j ∈ ancG3 i, l j = true ∧ gG3 bx kc ka ks j (val RG3 c j)) → SG3 bx B kc ka ks w0 l (val RG3 c) w → Steps' Tryz.prog RG3 Q (gG3 bx kc ka ks) (SG3 bx B kc ka ks w0) i l c w) i := by
  refine below_succ ?_ (fun l c w hb => oG3_10 bx B kc ka ks w0 Q l c w hb hW)
  refine below_succ ?_ (fun l c w hb => oG3_9 bx B kc ka ks w0 Q l c w hb hW)
  refine below_succ ?_ (fun l c w hb => oG3_8 bx B kc ka ks w0 Q l c w hb hW)
  refine below_succ ?_ (fun l c w hb => oG3_7 bx B kc ka ks w0 Q l c w hb hW)
  refine below_succ ?_ (fun l c w hb => oG3_6 bx B kc ka ks w0 Q l c w hb hW)
  refine below_succ ?_ (fun l c w hb => oG3_5 bx B kc ka ks w0 Q l c w hb hW)
  refine below_succ ?_ (fun l c w hb => oG3_4 bx B kc ka ks w0 Q l c w hb hW)
  refine below_succ ?_ (fun l c w hb => oG3_3 bx B kc ka ks w0 Q l c w hb hW)
  refine below_succ ?_ (fun l c w hb => oG3_2 bx B kc ka ks w0 Q l c w hb hW)
  refine below_succ ?_ (fun l c w hb => oG3_1 bx B kc ka ks w0 Q l c w hb hW)
  refine below_succ ?_ (fun l c w hb => oG3_0 bx B kc ka ks w0 Q l c w hb hW)
  exact below_zero
/-- The statement that copies the keys. -/
theorem regionG3 (bx B kc : Nat) (ka : Option Addr) (ks : List ByteArray) (w0 : World) (Q : Exit → Act → World → Prop) (frame : Act) (hb : BG3 bx B kc ka ks w0 frame) (hW : WG3 bx B kc ka ks w0)
    (hQ : ∀ c g cap W, Same RG3 frame c → Below w0.heap.size w0 W → W.ownsRow w0.heap.size 9 1 (.slice (some ⟨g, 0, none⟩) (ks.length + 1) cap) (ks.length + 1) (ks.map .string ++ [.string spareB]) → ks.length < cap → cap ≤ maxLen → c.eval (.tmp 3) = .slice (some ⟨g, 0, none⟩) ks.length cap → Q .normal c W) :
    (Code.region 3 RG3 true).wp Tryz.prog Q frame w0 := by
  refine writes_rule (A := ancG3) (G := gG3 bx kc ka ks) (S := SG3 bx B kc ka ks w0) (by kernel_rfl) (by rw [hb.size]; kernel_rfl) ?_ ?_ ?_
  · exact ⟨(Below.refl _ _).drew, (fun h => by cases h), (fun h => by cases h), (fun h => by cases h), (fun h => by cases h), (fun h => by cases h), (fun h => by cases h)⟩
  · intro i hi l c w hS hli hcl hA hst
    exact allG3 bx B kc ka ks w0 Q hW i (by rwa [show RG3.size = 11 by kernel_rfl] at hi) l c w ⟨(same_eval hS (by kernel_rfl)).trans hb.t1, hS.2.1.trans hb.size⟩ hli hcl hA hst
  · intro l c w hS hall hst
    have hsz : RG3.size = 11 := by kernel_rfl
    obtain ⟨g, cap, hg, hlt, hle⟩ := (hall 5 (by rw [hsz]; omega)).2
    have h2 := hst.done (hall 5 (by rw [hsz]; omega)).1
    obtain ⟨g', cap', hg5, hg9⟩ := hst.cut (hall 9 (by rw [hsz]; omega)).1
    have h10 := hst.out (hall 10 (by rw [hsz]; omega)).1
    rw [hg] at hg5 h2
    injection hg5 with q1 _ q3
    injection q1 with q1
    injection q1 with q1
    subst q1
    subst q3
    rw [hg9, val_eq (show slotOf RG3 10 = some 3 by kernel_rfl)] at h10
    exact hQ c g cap w hS hst.ahead h2 hlt hle h10
end Go.Proofs.YtbpmhgcjefpigaaGreatDoor
