/- List: the values are copied into memory of their own. The keys of a value are copied, with one place more: the statement of copied, operation by operation, in whatever order. -/
import Derived.Test.YtbpmhgcjefpigaaGreatDoorJoin11
import Derived.Test.YtbpmhgcjefpigaaGreatDoorJoin9
import Derived.Test.YtbpmhgcjefpigaaGreatDoorJoin16
namespace Go.Proofs.YtbpmhgcjefpigaaGreatDoor
open Go.RowKit Go.Shelf Go.WideShapes Go.Lib
set_option linter.unusedVariables false
set_option maxHeartbeats 1000000 in
theorem list_anyF (ts : List Tree) (B : Nat) (la : Option Addr) (lc : Nat) (w : World) (hB : B ≤ w.heap.size) (hl : ListLies B w la ts) (h1 : ts.length ≤ lc) (h2 : lc ≤ maxLen) (htot : Tree.totalL ts ≤ 1000000) :
    Calls Tryz.prog 52 #[.slice la ts.length lc] w fun e w' => ∃ v', e = .returned v' ∧ LiesF w.heap.size w'.heap.size w' v' (.mk 4 false 0 ⟨#[]⟩ [] ts) ∧ Below w.heap.size w w' := by
  obtain ⟨W1, hW1⟩ : ∃ W1, w.alloc (.cells #[.int .i64 0, .bool false, .int .i64 0, .string ⟨#[]⟩, .slice none 0 0, .slice none 0 0] 26) = W1 := ⟨_, rfl⟩
  have hb1 : Below w.heap.size w W1 := hW1 ▸ (Below.refl _ _).alloc (Nat.le_refl _) _
  have hsz1 : W1.heap.size = w.heap.size + 1 := by rw [← hW1]; simp
  have HX : Hid (∀ w2, Below W1.heap.size W1 w2 → (∀ i v, (#[Value.int .i64 0, .bool false, .int .i64 0, .string ⟨#[]⟩, .slice none 0 0, .slice none 0 0] : Array Value)[i]? = some v → w2.cell? ⟨w.heap.size, i, none⟩ = some v) ∧ (∀ i, w2.frozen? ⟨w.heap.size, i, none⟩ = false)) := fun w2 hb => by
    have hlt : w.heap.size < W1.heap.size := by omega
    refine ⟨fun i v h => ?_, fun i => ?_⟩
    · rw [hb.cell (p := ⟨w.heap.size, i, none⟩) hlt, ← hW1]
      exact cell_new _ _ _ i _ h
    · rw [hb.frozen (p := ⟨w.heap.size, i, none⟩) hlt, ← hW1]
      exact new_free _ _ _ _
  have hl1 : ListLies W1.heap.size W1 la ts := hl.imp id fun ⟨bl, off, e, h3, h4⟩ => ⟨bl, off, e, by omega, (h4.below (hb1.mono hB) h3).mono (by omega)⟩
  have HC := hidE (copies_anyF ts (fun t _ => copy_anyF t) W1.heap.size la lc W1 (Nat.le_refl _) hl1 h1 h2 htot)
  have HW1 := hidE hW1
  have HB1 := hidE hb1
  clear hW1 hl hl1 hb1
  go_enter Tryz.func52, Tryz.ntmps52
  go_wp2_with fail
  rw [HW1.out]
  refine HC.out.mono ?_
  rintro e w2 ⟨la', lc', rfl, ⟨g1, g2⟩, hlr, hb2⟩
  obtain ⟨hq, hf⟩ := HX.out w2 hb2
  have m0 := hq 0 _ rfl
  have n0 := hf 0
  have m1 := hq 1 _ rfl
  have n1 := hf 1
  have m2 := hq 2 _ rfl
  have n2 := hf 2
  have m3 := hq 3 _ rfl
  have n3 := hf 3
  have m4 := hq 4 _ rfl
  have n4 := hf 4
  have m5 := hq 5 _ rfl
  have n5 := hf 5
  have HLR := hidE hlr
  have HB2 := hidE hb2
  clear hq hf hlr hb2
  go_wp2_with fail
  have HFB : Hid (Below w.heap.size w (six w2 w.heap.size 0 (.int .i64 4) (.bool false) (.int .i64 0) (.string ⟨#[]⟩) (.slice none 0 0) (.slice la' ts.length lc'))) := six_below (HB1.out.trans (HB2.out.mono HB1.out.size)) (Nat.le_refl _) _ _ _ _ _ _
  refine bodyPost_ret (v := .agg #[.int .i64 4, .bool false, .int .i64 0, .string ⟨#[]⟩, .slice none 0 0, .slice la' ts.length lc']) (by simp [results, Tryz.results52, go_sem, m0, m1, m2, m3, m4, m5]) rfl ⟨_, rfl, ?_, HFB.out⟩
  show LiesF w.heap.size (six w2 w.heap.size 0 (.int .i64 4) (.bool false) (.int .i64 0) (.string ⟨#[]⟩) (.slice none 0 0) (.slice la' ts.length lc')).heap.size (six w2 w.heap.size 0 (.int .i64 4) (.bool false) (.int .i64 0) (.string ⟨#[]⟩) (.slice none 0 0) (.slice la' ts.length lc')) _ _
  have hfin : KeepsF W1.heap.size w2.heap.size w2 (six w2 w.heap.size 0 (.int .i64 4) (.bool false) (.int .i64 0) (.string ⟨#[]⟩) (.slice none 0 0) (.slice la' ts.length lc')) := keepsF_of fun b h1 _ => six_heap (by omega)
  rw [six_size]
  simp only [LiesF]
  exact ⟨none, 0, la', lc', rfl, ⟨by show 0 ≤ _; omega, by simp, by unfold maxLen; omega, g1, g2⟩, .inl rfl, (HLR.out.keep hfin).mono (by omega) (Nat.le_refl _)⟩
end Go.Proofs.YtbpmhgcjefpigaaGreatDoor

namespace Go.Proofs.YtbpmhgcjefpigaaGreatDoor
open Go.RowKit Go.Shelf Go.WideShapes
set_option linter.unusedVariables false
set_option linter.unusedSimpArgs false
noncomputable def RC1 : Array Oper := regionAt Tryz.f17 1
def ancC1 (i : Nat) : List Nat := ([[], [], [1], [0, 1, 2], [], [0, 1, 2, 3, 4], [], [6], [6, 7], [0, 1, 2, 3, 4, 5, 6, 7, 8], [0, 1, 2, 3, 4, 5, 6, 7, 8, 9], [0, 1, 2, 3, 4, 5, 6, 7, 8, 9, 10]] : List (List Nat)).getD i []
def gC1 (bx kc : Nat) (ka : Option Addr) (ks : List ByteArray) (i : Nat) (v : Value) : Prop :=
  ([fun _ => True, fun v => v = (.pointer (some ⟨bx, 4, none⟩)), fun v => v = (.slice ka ks.length kc), fun _ => True, fun _ => True, fun v => ∃ g cap, v = .slice (some ⟨g, 0, none⟩) (ks.length + 1) cap ∧ ks.length < cap ∧ cap ≤ maxLen, fun v => v = (.pointer (some ⟨bx, 4, none⟩)), fun v => v = (.slice ka ks.length kc), fun v => v = (.int .i64 (ks.length : Int)), fun _ => True, fun v => v = (.pointer (some ⟨bx, 4, none⟩)), fun _ => True] : List (Value → Prop)).getD i (fun _ => True) v
structure SC1 (bx B kc : Nat) (ka : Option Addr) (ks : List ByteArray) (w0 : World) (l : Nat → Bool) (vs : Nat → Value) (w : World) : Prop where
  ahead : l 11 = false → Below w0.heap.size w0 w
  first : l 0 = true → l 3 = false → w.ownsRow w0.heap.size 9 1 (vs 0) 0 []
  row : l 3 = true → l 5 = false → w.ownsRow w0.heap.size 9 1 (vs 3) ks.length (ks.map .string)
  laid : l 4 = true → l 5 = false → ∃ t, vs 4 = .slice (some ⟨t, 0, none⟩) 1 1 ∧ w.cell? ⟨t, 0, none⟩ = some (.string spareB) ∧ (l 0 = true → l 3 = false → (vs 0).ownBlock ≠ some t) ∧ (l 3 = true → (vs 3).ownBlock ≠ some t)
  done : l 5 = true → l 11 = false → w.ownsRow w0.heap.size 9 1 (vs 5) (ks.length + 1) (ks.map .string ++ [.string spareB])
  cut : l 9 = true → ∃ g cap, vs 5 = .slice (some ⟨g, 0, none⟩) (ks.length + 1) cap ∧ vs 9 = .slice (some ⟨g, 0, none⟩) ks.length cap
  last : l 11 = true → ∃ W, Below w0.heap.size w0 W ∧ W.ownsRow w0.heap.size 9 1 (vs 5) (ks.length + 1) (ks.map .string ++ [.string spareB]) ∧ w = W.setCell ⟨bx, 4, none⟩ (vs 9)
theorem SC1.lift {bx B kc : Nat} {ka : Option Addr} {ks : List ByteArray} {w0 : World} {l : Nat → Bool} {vs : Nat → Value} {w : World} (h : SC1 bx B kc ka ks w0 l vs w) {i : Nat} (v : Value) (h0 : i ≠ 0) (h3 : i ≠ 3) (h4 : i ≠ 4) (h5 : i ≠ 5) (h9 : i ≠ 9) (h11 : i ≠ 11) : SC1 bx B kc ka ks w0 (upd l i true) (upd vs i v) w := by
  have e0 : upd l i true 0 = l 0 := upd_other _ _ (Ne.symm h0)
  have e3 : upd l i true 3 = l 3 := upd_other _ _ (Ne.symm h3)
  have e4 : upd l i true 4 = l 4 := upd_other _ _ (Ne.symm h4)
  have e5 : upd l i true 5 = l 5 := upd_other _ _ (Ne.symm h5)
  have e9 : upd l i true 9 = l 9 := upd_other _ _ (Ne.symm h9)
  have e11 : upd l i true 11 = l 11 := upd_other _ _ (Ne.symm h11)
  have f0 : upd vs i v 0 = vs 0 := upd_other _ _ (Ne.symm h0)
  have f3 : upd vs i v 3 = vs 3 := upd_other _ _ (Ne.symm h3)
  have f4 : upd vs i v 4 = vs 4 := upd_other _ _ (Ne.symm h4)
  have f5 : upd vs i v 5 = vs 5 := upd_other _ _ (Ne.symm h5)
  have f9 : upd vs i v 9 = vs 9 := upd_other _ _ (Ne.symm h9)
  exact ⟨by rw [e11]; exact h.ahead, by rw [e0, e3, f0]; exact h.first, by rw [e3, e5, f3]; exact h.row, by rw [e4, e5, e0, e3, f0, f3, f4]; exact h.laid, by rw [e5, e11, f5]; exact h.done, by rw [e9, f5, f9]; exact h.cut, by rw [e11, f5, f9]; exact h.last⟩
structure BC1 (bx B kc : Nat) (ka : Option Addr) (ks : List ByteArray) (w0 : World) (c : Act) : Prop where
  t1 : c.eval (.tmp 1) = .pointer (some ⟨bx, 0, none⟩)
  size : c.tmps.size = 42
structure WC1 (bx B kc : Nat) (ka : Option Addr) (ks : List ByteArray) (w0 : World) : Prop where
  box : w0.cell? ⟨bx, 4, none⟩ = some (.slice ka ks.length kc)
  free : w0.frozen? ⟨bx, 4, none⟩ = false
  keys : KeysLie B w0 ka ks
  under : B ≤ w0.heap.size
  few : ks.length ≤ 900000
theorem keys_below {B : Nat} {w w' : World} {ka : Option Addr} {ks : List ByteArray} {W : Nat} (hk : KeysLie B w ka ks) (h : Below W w w') (hB : B ≤ W) : KeysLie B w' ka ks := by
  rcases hk with hk | ⟨bk, off, e, hlt, hc⟩
  · exact .inl hk
  · exact .inr ⟨bk, off, e, hlt, fun i hi => ⟨(h.cell (p := ⟨bk, off + i, none⟩) (Nat.lt_of_lt_of_le hlt hB)).trans (hc i hi).1, (hc i hi).2⟩⟩
def stepC1 (bx B kc : Nat) (ka : Option Addr) (ks : List ByteArray) (w0 : World) (Q : Exit → Act → World → Prop) (i : Nat) : Prop := ∀ (l : Nat → Bool) (c : Act) (w : World), (BC1 bx B kc ka ks w0 c) → (WC1 bx B kc ka ks w0) → (l i = false) → (∀ k, l k = true → ∀ j ∈ ancC1 k, l j = true) → (∀ j ∈ ancC1 i, l j = true ∧ gC1 bx kc ka ks j (val RC1 c j)) → (SC1 bx B kc ka ks w0 l (val RC1 c) w) → Steps' Tryz.prog RC1 Q (gC1 bx kc ka ks) (SC1 bx B kc ka ks w0) i l c w
theorem wnC1 {i : Nat} {o : Oper} {c : Act} (ho : RC1[i]? = some o) (h : o.guard = none) : Region.wanted o (yielded RC1 c.tmps) = true := want_none h
section
variable (bx B kc : Nat) (ka : Option Addr) (ks : List ByteArray) (w0 : World) (Q : Exit → Act → World → Prop)
set_option maxRecDepth 10000 in
theorem oC1_0 : stepC1 bx B kc ka ks w0 Q 0 := by
  intro l c w hb hW hli hcl hA hS
  have ho : RC1[0]? = some ({ dst := some 5, op := Op.buildSlice 23 0 #[], type := 23, pos := "law.go:44", after := #[], guard := none } : Oper) := by kernel_rfl
  have hw := wnC1 (c := c) ho rfl
  have ec : ∀ v, c.eval (.const v) = v := fun _ => rfl
  have h11 : l 11 = false := by
    cases h : l 11 with
    | false => rfl
    | true => have := hcl 11 h 0 (by decide); rw [hli] at this; cases this
  have h3 : l 3 = false := by
    cases h : l 3 with
    | false => rfl
    | true => have := hcl 3 h 0 (by decide); rw [hli] at this; cases this
  have h5 : l 5 = false := by
    cases h : l 5 with
    | false => rfl
    | true => have := hcl 5 h 0 (by decide); rw [hli] at this; cases this
  have h9 : l 9 = false := by
    cases h : l 9 with
    | false => rfl
    | true => have := hcl 9 h 0 (by decide); rw [hli] at this; cases this
  refine steps_value (d := 5) ho rfl (by rw [hb.size]; decide) hw (v := .slice (some ⟨w.heap.size, 0, none⟩) 0 0) (w' := w.alloc (.cells #[] 9)) ?_ trivial ?_
  · generalize c.eval = ρ at *
    clear hA hb hW hw ho hS hcl hli
    go_simp
  · have hbel := hS.ahead h11
    have n3 : upd l 0 true 3 = false := by rw [upd_other _ _ (by decide)]; exact h3
    have n4 : upd l 0 true 4 = l 4 := upd_other _ _ (by decide)
    have n5 : upd l 0 true 5 = false := by rw [upd_other _ _ (by decide)]; exact h5
    have n9 : upd l 0 true 9 = false := by rw [upd_other _ _ (by decide)]; exact h9
    have n11 : upd l 0 true 11 = false := by rw [upd_other _ _ (by decide)]; exact h11
    refine ⟨fun _ => hbel.alloc hbel.size _, fun _ _ => ?_, fun h => (by rw [n3] at h; cases h), fun h _ => ?_, fun h => (by rw [n5] at h; cases h), fun h => (by rw [n9] at h; cases h), fun h => (by rw [n11] at h; cases h)⟩
    · rw [upd_same]; exact World.ownsRow_made w #[] 0 hbel.size (by decide) rfl
    · obtain ⟨t, ht, hcell, _, _⟩ := hS.laid (n4 ▸ h) h5
      have htl : t < w.heap.size := lt_of_cell hcell
      refine ⟨t, by rw [upd_other _ _ (by decide)]; exact ht, ?_, fun _ _ => ?_, fun h => (by rw [n3] at h; cases h)⟩
      · exact (((Below.refl w.heap.size w).alloc (Nat.le_refl _) _).cell (p := ⟨t, 0, none⟩) htl).trans hcell
      · rw [upd_same]; simp only [Value.ownBlock, ne_eq, Option.some.injEq]; omega
set_option maxRecDepth 10000 in
theorem oC1_1 : stepC1 bx B kc ka ks w0 Q 1 := by
  intro l c w hb hW hli hcl hA hS
  have ho : RC1[1]? = some ({ dst := some 6, op := Op.fieldAddr 26 (Operand.tmp 1) 4, type := 0, pos := "law.go:44", after := #[], guard := none } : Oper) := by kernel_rfl
  have e1 := hb.t1
  have hw := wnC1 (c := c) ho rfl
  have ec : ∀ v, c.eval (.const v) = v := fun _ => rfl
  have h11 : l 11 = false := by
    cases h : l 11 with
    | false => rfl
    | true => have := hcl 11 h 1 (by decide); rw [hli] at this; cases this
  refine steps_value (d := 6) ho rfl (by rw [hb.size]; decide) hw (v := .pointer (some ⟨bx, 4, none⟩)) ?_ rfl (hS.lift _ (by decide) (by decide) (by decide) (by decide) (by decide) (by decide))
  generalize c.eval = ρ at *
  clear hA hb hW hw ho hS hcl hli
  go_simp
set_option maxRecDepth 10000 in
theorem oC1_2 : stepC1 bx B kc ka ks w0 Q 2 := by
  intro l c w hb hW hli hcl hA hS
  have ho : RC1[2]? = some ({ dst := some 7, op := Op.load 23 (Operand.tmp 6), type := 23, pos := "law.go:44", after := #[{ on := 1, ground := Ground.data }], guard := none } : Oper) := by kernel_rfl
  have e6 : c.eval (.tmp 6) = .pointer (some ⟨bx, 4, none⟩) := by have h := (hA 1 (by decide)).2; rw [val_eq (show slotOf RC1 1 = some 6 by kernel_rfl)] at h; exact h
  have hw := wnC1 (c := c) ho rfl
  have ec : ∀ v, c.eval (.const v) = v := fun _ => rfl
  have h11 : l 11 = false := by
    cases h : l 11 with
    | false => rfl
    | true => have := hcl 11 h 2 (by decide); rw [hli] at this; cases this
  have hc := (hS.ahead h11).cell (p := ⟨bx, 4, none⟩) (lt_of_cell hW.box)
  rw [hW.box] at hc
  refine steps_value (d := 7) ho rfl (by rw [hb.size]; decide) hw (v := .slice ka ks.length kc) ?_ rfl (hS.lift _ (by decide) (by decide) (by decide) (by decide) (by decide) (by decide))
  generalize c.eval = ρ at *
  clear hA hb hW hw ho hS hcl hli
  go_simp
set_option maxRecDepth 10000 in
theorem oC1_3 : stepC1 bx B kc ka ks w0 Q 3 := by
  intro l c w hb hW hli hcl hA hS
  have ho : RC1[3]? = some ({ dst := some 8, op := Op.call { callee := Callee.builtin Builtin.append, args := #[Operand.tmp 5, Operand.tmp 7], argTypes := #[23, 23] }, type := 23, pos := "law.go:44", after := #[{ on := 0, ground := Ground.data }, { on := 2, ground := Ground.data }], guard := none } : Oper) := by kernel_rfl
  have e5 : c.eval (.tmp 5) = val RC1 c 0 := (val_eq (show slotOf RC1 0 = some 5 by kernel_rfl)).symm
  have e7 : c.eval (.tmp 7) = .slice ka ks.length kc := by have h := (hA 2 (by decide)).2; rw [val_eq (show slotOf RC1 2 = some 7 by kernel_rfl)] at h; exact h
  have hw := wnC1 (c := c) ho rfl
  have ec : ∀ v, c.eval (.const v) = v := fun _ => rfl
  have h11 : l 11 = false := by
    cases h : l 11 with
    | false => rfl
    | true => have := hcl 11 h 3 (by decide); rw [hli] at this; cases this
  have h5 : l 5 = false := by
    cases h : l 5 with
    | false => rfl
    | true => have := hcl 5 h 3 (by decide); rw [hli] at this; cases this
  have h9 : l 9 = false := by
    cases h : l 9 with
    | false => rfl
    | true => have := hcl 9 h 3 (by decide); rw [hli] at this; cases this
  have h0 : l 0 = true := (hA 0 (by decide)).1
  have hbel := hS.ahead h11
  have hown := hS.first h0 hli
  obtain ⟨v', w', hr, g1, g2, g3⟩ := append_keys (ty := 23) (kc := kc) hown (keys_below hW.keys hbel hW.under) (by have := hW.few; omega) hbel.size
  refine steps_value (d := 8) ho rfl (by rw [hb.size]; decide) hw (v := v') (w' := w') ?_ trivial ?_
  · unfold execOp
    simp only [resolve, invoke, builtin, Sem.run_bind, Sem.run_pure, Result.andThen_ok, List.map_toArray, List.map_cons, List.map_nil, e5, e7, hr]
  · have n4 : upd l 3 true 4 = l 4 := upd_other _ _ (by decide)
    have n5 : upd l 3 true 5 = false := by rw [upd_other _ _ (by decide)]; exact h5
    have n9 : upd l 3 true 9 = false := by rw [upd_other _ _ (by decide)]; exact h9
    have n11 : upd l 3 true 11 = false := by rw [upd_other _ _ (by decide)]; exact h11
    refine ⟨fun _ => hbel.grown g2 hbel.size fun q h => (hown.lt q h).1, fun _ h => (by rw [upd_same] at h; cases h), fun _ _ => ?_, fun h _ => ?_, fun h => (by rw [n5] at h; cases h), fun h => (by rw [n9] at h; cases h), fun h => (by rw [n11] at h; cases h)⟩
    · rw [upd_same]; simpa using g1
    · obtain ⟨t, ht, hcell, hne, _⟩ := hS.laid (n4 ▸ h) h5
      have htl : t < w.heap.size := lt_of_cell hcell
      refine ⟨t, by rw [upd_other _ _ (by decide)]; exact ht, g2.cell hcell (fun e => hne h0 hli e.symm), fun _ h => (by rw [upd_same] at h; cases h), fun _ => ?_⟩
      rw [upd_same]
      rcases g3 with g3 | g3
      · rw [g3]; exact hne h0 hli
      · rw [g3]; simp only [ne_eq, Option.some.injEq]; omega
set_option maxRecDepth 10000 in
theorem oC1_4 : stepC1 bx B kc ka ks w0 Q 4 := by
  intro l c w hb hW hli hcl hA hS
  have ho : RC1[4]? = some ({ dst := some 9, op := Op.buildSlice 23 1 #[(0, Operand.const (Value.string { data := #[115, 112, 97, 114, 101] }))], type := 23, pos := "law.go:44", after := #[], guard := none } : Oper) := by kernel_rfl
  have hw := wnC1 (c := c) ho rfl
  have ec : ∀ v, c.eval (.const v) = v := fun _ => rfl
  have h11 : l 11 = false := by
    cases h : l 11 with
    | false => rfl
    | true => have := hcl 11 h 4 (by decide); rw [hli] at this; cases this
  have h5 : l 5 = false := by
    cases h : l 5 with
    | false => rfl
    | true => have := hcl 5 h 4 (by decide); rw [hli] at this; cases this
  have h9 : l 9 = false := by
    cases h : l 9 with
    | false => rfl
    | true => have := hcl 9 h 4 (by decide); rw [hli] at this; cases this
  refine steps_value (d := 9) ho rfl (by rw [hb.size]; decide) hw (v := .slice (some ⟨w.heap.size, 0, none⟩) 1 1) (w' := w.alloc (.cells #[.string spareB] 9)) ?_ trivial ?_
  · generalize c.eval = ρ at *
    clear hA hb hW hw ho hS hcl hli
    unfold spareB
    go_simp
  · have hbel := hS.ahead h11
    have n0 : upd l 4 true 0 = l 0 := upd_other _ _ (by decide)
    have n3 : upd l 4 true 3 = l 3 := upd_other _ _ (by decide)
    have n5 : upd l 4 true 5 = false := by rw [upd_other _ _ (by decide)]; exact h5
    have n9 : upd l 4 true 9 = false := by rw [upd_other _ _ (by decide)]; exact h9
    have n11 : upd l 4 true 11 = false := by rw [upd_other _ _ (by decide)]; exact h11
    refine ⟨fun _ => hbel.alloc hbel.size _, fun h g => ?_, fun h _ => ?_, fun _ _ => ⟨w.heap.size, by rw [upd_same], cell_new _ _ _ 0 _ rfl, fun h g e => ?_, fun h e => ?_⟩, fun h => (by rw [n5] at h; cases h), fun h => (by rw [n9] at h; cases h), fun h => (by rw [n11] at h; cases h)⟩
    · rw [upd_other _ _ (by decide)]; exact (hS.first (n0 ▸ h) (n3 ▸ g)).alloc _
    · rw [upd_other _ _ (by decide)]; exact (hS.row (n3 ▸ h) h5).alloc _
    · rw [upd_other _ _ (by decide)] at e
      have := ((hS.first (n0 ▸ h) (n3 ▸ g)).lt _ e).2
      omega
    · rw [upd_other _ _ (by decide)] at e
      have := ((hS.row (n3 ▸ h) h5).lt _ e).2
      omega
set_option maxRecDepth 10000 in
theorem oC1_5 : stepC1 bx B kc ka ks w0 Q 5 := by
  intro l c w hb hW hli hcl hA hS
  have ho : RC1[5]? = some ({ dst := some 10, op := Op.call { callee := Callee.builtin Builtin.append, args := #[Operand.tmp 8, Operand.tmp 9], argTypes := #[23, 23] }, type := 23, pos := "law.go:44", after := #[{ on := 3, ground := Ground.data }, { on := 4, ground := Ground.data }, { on := 3, ground := Ground.chain }], guard := none } : Oper) := by kernel_rfl
  have e8 : c.eval (.tmp 8) = val RC1 c 3 := (val_eq (show slotOf RC1 3 = some 8 by kernel_rfl)).symm
  have e9 : c.eval (.tmp 9) = val RC1 c 4 := (val_eq (show slotOf RC1 4 = some 9 by kernel_rfl)).symm
  have hw := wnC1 (c := c) ho rfl
  have ec : ∀ v, c.eval (.const v) = v := fun _ => rfl
  have h11 : l 11 = false := by
    cases h : l 11 with
    | false => rfl
    | true => have := hcl 11 h 5 (by decide); rw [hli] at this; cases this
  have h9 : l 9 = false := by
    cases h : l 9 with
    | false => rfl
    | true => have := hcl 9 h 5 (by decide); rw [hli] at this; cases this
  have h3 : l 3 = true := (hA 3 (by decide)).1
  have h4 : l 4 = true := (hA 4 (by decide)).1
  have hbel := hS.ahead h11
  have hown := hS.row h3 hli
  obtain ⟨t, ht, hcell, _, hne⟩ := hS.laid h4 hli
  obtain ⟨i0, hi, hz0, hz1, hz2⟩ := info_parts Tryz.info9
  refine steps_law (d := 10) ho rfl (by rw [hb.size]; decide) fun K hK => ?_
  refine step_append_lies w rfl (.tmp 8) (.tmp 9) 23 rfl w0.heap.size 9 i0 (.string ⟨#[]⟩) 1 16 Tryz.underlying23 hi hz0 hz1 hz2 rfl (by decide) (val RC1 c 3) ks.length (ks.map .string) e8 hown ⟨t, 0, none⟩ 1 1 [.string spareB] (e9.trans ht) rfl ?_ ?_ (by decide) (by have := hW.few; unfold maxLen; omega) (by have := hW.few; omega) hbel.size w.heap.size rfl ?_
  · intro j u hj
    match j, hj with
    | 0, hj =>
      simp only [List.getElem?_cons_zero, Option.some.injEq] at hj
      subst hj
      rw [add_plain]; exact hcell
  · intro u hu
    simp only [List.mem_cons, List.not_mem_nil, or_false] at hu
    subst hu; rfl
  · intro g cap w' g1 g2 g3 g4
    have n9 : upd l 5 true 9 = false := by rw [upd_other _ _ (by decide)]; exact h9
    have n11 : upd l 5 true 11 = false := by rw [upd_other _ _ (by decide)]; exact h11
    refine hK _ _ ⟨g, cap, rfl, ?_⟩ ⟨fun _ => hbel.grown g2 hbel.size fun q h => (hown.lt q h).1, fun h g => ?_, fun _ h => (by rw [upd_same] at h; cases h), fun _ h => (by rw [upd_same] at h; cases h), fun _ _ => ?_, fun h => (by rw [n9] at h; cases h), fun h => (by rw [n11] at h; cases h)⟩
    · obtain ⟨_, ⟨q1, _⟩ | ⟨g', cap', cur, q1, q2, q3, q4, q5, _⟩⟩ := g1
      · cases q1
      · injection q1 with _ _ q6
        subst q6
        exact ⟨q4, q5⟩
    · rw [upd_other _ _ (by decide), h3] at g; cases g
    · rw [upd_same]; exact g1
set_option maxRecDepth 10000 in
theorem oC1_6 : stepC1 bx B kc ka ks w0 Q 6 := by
  intro l c w hb hW hli hcl hA hS
  have ho : RC1[6]? = some ({ dst := some 11, op := Op.fieldAddr 26 (Operand.tmp 1) 4, type := 0, pos := "law.go:44", after := #[], guard := none } : Oper) := by kernel_rfl
  have e1 := hb.t1
  have hw := wnC1 (c := c) ho rfl
  have ec : ∀ v, c.eval (.const v) = v := fun _ => rfl
  have h11 : l 11 = false := by
    cases h : l 11 with
    | false => rfl
    | true => have := hcl 11 h 6 (by decide); rw [hli] at this; cases this
  refine steps_value (d := 11) ho rfl (by rw [hb.size]; decide) hw (v := .pointer (some ⟨bx, 4, none⟩)) ?_ rfl (hS.lift _ (by decide) (by decide) (by decide) (by decide) (by decide) (by decide))
  generalize c.eval = ρ at *
  clear hA hb hW hw ho hS hcl hli
  go_simp
set_option maxRecDepth 10000 in
theorem oC1_7 : stepC1 bx B kc ka ks w0 Q 7 := by
  intro l c w hb hW hli hcl hA hS
  have ho : RC1[7]? = some ({ dst := some 12, op := Op.load 23 (Operand.tmp 11), type := 23, pos := "law.go:44", after := #[{ on := 6, ground := Ground.data }], guard := none } : Oper) := by kernel_rfl
  have e11 : c.eval (.tmp 11) = .pointer (some ⟨bx, 4, none⟩) := by have h := (hA 6 (by decide)).2; rw [val_eq (show slotOf RC1 6 = some 11 by kernel_rfl)] at h; exact h
  have hw := wnC1 (c := c) ho rfl
  have ec : ∀ v, c.eval (.const v) = v := fun _ => rfl
  have h11 : l 11 = false := by
    cases h : l 11 with
    | false => rfl
    | true => have := hcl 11 h 7 (by decide); rw [hli] at this; cases this
  have hc := (hS.ahead h11).cell (p := ⟨bx, 4, none⟩) (lt_of_cell hW.box)
  rw [hW.box] at hc
  refine steps_value (d := 12) ho rfl (by rw [hb.size]; decide) hw (v := .slice ka ks.length kc) ?_ rfl (hS.lift _ (by decide) (by decide) (by decide) (by decide) (by decide) (by decide))
  generalize c.eval = ρ at *
  clear hA hb hW hw ho hS hcl hli
  go_simp
set_option maxRecDepth 10000 in
theorem oC1_8 : stepC1 bx B kc ka ks w0 Q 8 := by
  intro l c w hb hW hli hcl hA hS
  have ho : RC1[8]? = some ({ dst := some 13, op := Op.call { callee := Callee.builtin Builtin.len, args := #[Operand.tmp 12], argTypes := #[23] }, type := 3, pos := "law.go:44", after := #[{ on := 7, ground := Ground.data }], guard := none } : Oper) := by kernel_rfl
  have e12 : c.eval (.tmp 12) = .slice ka ks.length kc := by have h := (hA 7 (by decide)).2; rw [val_eq (show slotOf RC1 7 = some 12 by kernel_rfl)] at h; exact h
  have hw := wnC1 (c := c) ho rfl
  have ec : ∀ v, c.eval (.const v) = v := fun _ => rfl
  have h11 : l 11 = false := by
    cases h : l 11 with
    | false => rfl
    | true => have := hcl 11 h 8 (by decide); rw [hli] at this; cases this
  refine steps_value (d := 13) ho rfl (by rw [hb.size]; decide) hw (v := .int .i64 (ks.length : Int)) ?_ rfl (hS.lift _ (by decide) (by decide) (by decide) (by decide) (by decide) (by decide))
  generalize c.eval = ρ at *
  clear hA hb hW hw ho hS hcl hli
  go_simp
set_option maxRecDepth 10000 in
theorem oC1_9 : stepC1 bx B kc ka ks w0 Q 9 := by
  intro l c w hb hW hli hcl hA hS
  have ho : RC1[9]? = some ({ dst := some 14, op := Op.slice 23 (Operand.tmp 10) none (some (Operand.tmp 13)) none, type := 23, pos := "law.go:44", after := #[{ on := 5, ground := Ground.data }, { on := 8, ground := Ground.data }], guard := none } : Oper) := by kernel_rfl
  have e10 : c.eval (.tmp 10) = val RC1 c 5 := (val_eq (show slotOf RC1 5 = some 10 by kernel_rfl)).symm
  have e13 : c.eval (.tmp 13) = .int .i64 (ks.length : Int) := by have h := (hA 8 (by decide)).2; rw [val_eq (show slotOf RC1 8 = some 13 by kernel_rfl)] at h; exact h
  have hw := wnC1 (c := c) ho rfl
  have ec : ∀ v, c.eval (.const v) = v := fun _ => rfl
  have h11 : l 11 = false := by
    cases h : l 11 with
    | false => rfl
    | true => have := hcl 11 h 9 (by decide); rw [hli] at this; cases this
  have h5 : l 5 = true := (hA 5 (by decide)).1
  obtain ⟨g, cap, hg, hlt, hle⟩ := (hA 5 (by decide)).2
  have hown := hS.done h5 h11
  refine steps_value (d := 14) ho rfl (by rw [hb.size]; decide) hw (v := .slice (some ⟨g, 0, none⟩) ks.length cap) (w' := w) ?_ trivial ?_
  · rw [hg] at e10
    have hle' : cap ≤ 9223372036854775807 := by unfold maxLen at hle; omega
    have hlt' : ks.length ≤ cap := Nat.le_of_lt hlt
    generalize c.eval = ρ at *
    clear hA hb hW hw ho hS hcl hli hown
    go_simp
  · have m0 : upd l 9 true 0 = l 0 := upd_other _ _ (by decide)
    have m3 : upd l 9 true 3 = l 3 := upd_other _ _ (by decide)
    have m4 : upd l 9 true 4 = l 4 := upd_other _ _ (by decide)
    have m5 : upd l 9 true 5 = l 5 := upd_other _ _ (by decide)
    have m11 : upd l 9 true 11 = l 11 := upd_other _ _ (by decide)
    have f0 : ∀ v, upd (val RC1 c) 9 v 0 = val RC1 c 0 := fun v => upd_other _ _ (by decide)
    have f3 : ∀ v, upd (val RC1 c) 9 v 3 = val RC1 c 3 := fun v => upd_other _ _ (by decide)
    have f4 : ∀ v, upd (val RC1 c) 9 v 4 = val RC1 c 4 := fun v => upd_other _ _ (by decide)
    have f5 : ∀ v, upd (val RC1 c) 9 v 5 = val RC1 c 5 := fun v => upd_other _ _ (by decide)
    exact ⟨by rw [m11]; exact hS.ahead, by rw [m0, m3, f0]; exact hS.first, by rw [m3, m5, f3]; exact hS.row, by rw [m4, m5, m0, m3, f0, f3, f4]; exact hS.laid, by rw [m5, m11, f5]; exact hS.done, fun _ => ⟨g, cap, by rw [f5]; exact hg, by rw [upd_same]⟩, fun h => (by rw [m11, h11] at h; cases h)⟩
set_option maxRecDepth 10000 in
theorem oC1_10 : stepC1 bx B kc ka ks w0 Q 10 := by
  intro l c w hb hW hli hcl hA hS
  have ho : RC1[10]? = some ({ dst := some 15, op := Op.fieldAddr 26 (Operand.tmp 1) 4, type := 0, pos := "law.go:44", after := #[{ on := 0, ground := Ground.phase }, { on := 1, ground := Ground.phase }, { on := 2, ground := Ground.phase }, { on := 3, ground := Ground.phase }, { on := 4, ground := Ground.phase }, { on := 5, ground := Ground.phase }, { on := 6, ground := Ground.phase }, { on := 7, ground := Ground.phase }, { on := 8, ground := Ground.phase }, { on := 9, ground := Ground.phase }], guard := none } : Oper) := by kernel_rfl
  have e1 := hb.t1
  have hw := wnC1 (c := c) ho rfl
  have ec : ∀ v, c.eval (.const v) = v := fun _ => rfl
  have h11 : l 11 = false := by
    cases h : l 11 with
    | false => rfl
    | true => have := hcl 11 h 10 (by decide); rw [hli] at this; cases this
  refine steps_value (d := 15) ho rfl (by rw [hb.size]; decide) hw (v := .pointer (some ⟨bx, 4, none⟩)) ?_ rfl (hS.lift _ (by decide) (by decide) (by decide) (by decide) (by decide) (by decide))
  generalize c.eval = ρ at *
  clear hA hb hW hw ho hS hcl hli
  go_simp
set_option maxRecDepth 10000 in
theorem oC1_11 : stepC1 bx B kc ka ks w0 Q 11 := by
  intro l c w hb hW hli hcl hA hS
  have ho : RC1[11]? = some ({ dst := none, op := Op.store 23 (Operand.tmp 15) (Operand.tmp 14), type := 0, pos := "law.go:44", after := #[{ on := 10, ground := Ground.data }, { on := 9, ground := Ground.data }, { on := 5, ground := Ground.chain }, { on := 0, ground := Ground.phase }, { on := 1, ground := Ground.phase }, { on := 2, ground := Ground.phase }, { on := 3, ground := Ground.phase }, { on := 4, ground := Ground.phase }, { on := 5, ground := Ground.phase }, { on := 6, ground := Ground.phase }, { on := 7, ground := Ground.phase }, { on := 8, ground := Ground.phase }, { on := 9, ground := Ground.phase }], guard := none } : Oper) := by kernel_rfl
  have e14 : c.eval (.tmp 14) = val RC1 c 9 := (val_eq (show slotOf RC1 9 = some 14 by kernel_rfl)).symm
  have e15 : c.eval (.tmp 15) = .pointer (some ⟨bx, 4, none⟩) := by have h := (hA 10 (by decide)).2; rw [val_eq (show slotOf RC1 10 = some 15 by kernel_rfl)] at h; exact h
  have hw := wnC1 (c := c) ho rfl
  have ec : ∀ v, c.eval (.const v) = v := fun _ => rfl
  have h5 : l 5 = true := (hA 5 (by decide)).1
  have h3 : l 3 = true := (hA 3 (by decide)).1
  have h9 : l 9 = true := (hA 9 (by decide)).1
  have hbel := hS.ahead hli
  have hown := hS.done h5 hli
  obtain ⟨g, cap, hg5, hg9⟩ := hS.cut h9
  have hbx : bx < w0.heap.size := lt_of_cell hW.box
  have hc : w.cell? ⟨bx, 4, none⟩ = some (.slice ka ks.length kc) := (hbel.cell (p := ⟨bx, 4, none⟩) hbx).trans hW.box
  have hf : w.frozen? ⟨bx, 4, none⟩ = false := (World.frozen?_of_block (hbel.block bx hbx)).trans hW.free
  refine steps_store ho rfl hw (w' := w.setCell ⟨bx, 4, none⟩ (val RC1 c 9)) ?_ trivial ⟨fun h => ?_, fun _ h => ?_, fun _ h => ?_, fun _ h => ?_, fun _ h => ?_, fun _ => ?_, fun _ => ?_⟩
  · rw [hg9] at e14 ⊢
    generalize c.eval = ρ at *
    clear hA hb hW hw ho hS hcl hli hown hbel
    go_simp
  · rw [upd_same] at h; cases h
  · rw [upd_other _ _ (by decide), h3] at h; cases h
  · rw [upd_other _ _ (by decide), h5] at h; cases h
  · rw [upd_other _ _ (by decide), h5] at h; cases h
  · rw [upd_same] at h; cases h
  · rw [upd_other _ _ (by decide), upd_other _ _ (by decide)]; exact ⟨g, cap, hg5, hg9⟩
  · rw [upd_other _ _ (by decide), upd_other _ _ (by decide)]; exact ⟨w, hbel, hown, rfl⟩
end
set_option maxRecDepth 100000 in
theorem allC1 (bx B kc : Nat) (ka : Option Addr) (ks : List ByteArray) (w0 : World) (Q : Exit → Act → World → Prop) (hW : WC1 bx B kc ka ks w0) : ∀ i, i < 12 → (fun i => ∀ l c w, BC1 bx B kc ka ks w0 c → l i = false → (∀ k, l k = true → ∀ j ∈ ancC1 k, l j = true) → (∀ j ∈ ancC1 i, l j = true ∧ gC1 bx kc ka ks j (val RC1 c j)) → SC1 bx B kc ka ks w0 l (val RC1 c) w → Steps' Tryz.prog RC1 Q (gC1 bx kc ka ks) (SC1 bx B kc ka ks w0) i l c w) i := by
  refine below_succ ?_ (fun l c w hb => oC1_11 bx B kc ka ks w0 Q l c w hb hW)
  refine below_succ ?_ (fun l c w hb => oC1_10 bx B kc ka ks w0 Q l c w hb hW)
  refine below_succ ?_ (fun l c w hb => oC1_9 bx B kc ka ks w0 Q l c w hb hW)
  refine below_succ ?_ (fun l c w hb => oC1_8 bx B kc ka ks w0 Q l c w hb hW)
  refine below_succ ?_ (fun l c w hb => oC1_7 bx B kc ka ks w0 Q l c w hb hW)
  refine below_succ ?_ (fun l c w hb => oC1_6 bx B kc ka ks w0 Q l c w hb hW)
  refine below_succ ?_ (fun l c w hb => oC1_5 bx B kc ka ks w0 Q l c w hb hW)
  refine below_succ ?_ (fun l c w hb => oC1_4 bx B kc ka ks w0 Q l c w hb hW)
  refine below_succ ?_ (fun l c w hb => oC1_3 bx B kc ka ks w0 Q l c w hb hW)
  refine below_succ ?_ (fun l c w hb => oC1_2 bx B kc ka ks w0 Q l c w hb hW)
  refine below_succ ?_ (fun l c w hb => oC1_1 bx B kc ka ks w0 Q l c w hb hW)
  refine below_succ ?_ (fun l c w hb => oC1_0 bx B kc ka ks w0 Q l c w hb hW)
  exact below_zero
/-- The statement that copies the keys. -/
theorem regionC1 (bx B kc : Nat) (ka : Option Addr) (ks : List ByteArray) (w0 : World) (Q : Exit → Act → World → Prop) (frame : Act) (hb : BC1 bx B kc ka ks w0 frame) (hW : WC1 bx B kc ka ks w0)
    (hQ : ∀ c g cap W, Same RC1 frame c → Below w0.heap.size w0 W → W.ownsRow w0.heap.size 9 1 (.slice (some ⟨g, 0, none⟩) (ks.length + 1) cap) (ks.length + 1) (ks.map .string ++ [.string spareB]) → ks.length < cap → cap ≤ maxLen → Q .normal c (W.setCell ⟨bx, 4, none⟩ (.slice (some ⟨g, 0, none⟩) ks.length cap))) :
    (Code.region 1 RC1 true).wp Tryz.prog Q frame w0 := by
  refine writes_rule (A := ancC1) (G := gC1 bx kc ka ks) (S := SC1 bx B kc ka ks w0) (by kernel_rfl) (by rw [hb.size]; kernel_rfl) ?_ ?_ ?_
  · exact ⟨fun _ => (Below.refl _ _).drew, (fun h => by cases h), (fun h => by cases h), (fun h => by cases h), (fun h => by cases h), (fun h => by cases h), (fun h => by cases h)⟩
  · intro i hi l c w hS hli hcl hA hst
    exact allC1 bx B kc ka ks w0 Q hW i (by rwa [show RC1.size = 12 by kernel_rfl] at hi) l c w ⟨(same_eval hS (by kernel_rfl)).trans hb.t1, hS.2.1.trans hb.size⟩ hli hcl hA hst
  · intro l c w hS hall hst
    have hsz : RC1.size = 12 := by kernel_rfl
    obtain ⟨W, h1, h2, rfl⟩ := hst.last (hall 11 (by rw [hsz]; omega)).1
    obtain ⟨g, cap, hg, hlt, hle⟩ := (hall 5 (by rw [hsz]; omega)).2
    obtain ⟨g', cap', hg5, hg9⟩ := hst.cut (hall 9 (by rw [hsz]; omega)).1
    rw [hg] at hg5 h2
    injection hg5 with q1 _ q3
    injection q1 with q1
    injection q1 with q1
    subst q1
    subst q3
    rw [hg9]
    exact hQ c g cap W hS h1 h2 hlt hle
end Go.Proofs.YtbpmhgcjefpigaaGreatDoor

