/- Whatever order a region draws, where operations write: facts about values, and a state of the world that hangs on what has come up. One key is put behind those that were: the statement of Map, operation by operation, in whatever order. -/
import Derived.Test.YtbpmhgcjefpigaaGreatDoorJoin9
import Derived.Test.YtbpmhgcjefpigaaGreatDoorJoin8
import Derived.Deep.AppendLies
namespace Go.Proofs.YtbpmhgcjefpigaaGreatDoor
open Go.RowKit
set_option linter.unusedVariables false
def upd {α : Type} (f : Nat → α) (i : Nat) (x : α) : Nat → α := fun j => if j = i then x else f j
theorem upd_same {α : Type} (f : Nat → α) (i : Nat) (x : α) : upd f i x i = x := by simp [upd]
theorem upd_other {α : Type} (f : Nat → α) {i j : Nat} (x : α) (h : j ≠ i) : upd f i x j = f j := by simp [upd, h]
section
variable {P : Program} {ops : Array Oper} {Q : Exit → Act → World → Prop}
def writesOk (ops : Array Oper) (n : Nat) (A : Nat → List Nat) : Bool :=
  (List.range ops.size).all fun i =>
    match ops[i]? with
    | none => false
    | some o =>
      (o.after.all fun e => !Region.binds .any e || decide (e.on < i)) &&
      (match o.dst with
        | none => true
        | some d => decide (d < n) && (List.range i).all fun j => slotOf ops j != some d) &&
      (A i).all fun j => o.after.any fun e => Region.binds .any e && (e.on == j || (A e.on).contains j)
def Laid (ops : Array Oper) (n : Nat) (A : Nat → List Nat) : Prop :=
  ∀ i, i < ops.size → ∃ o, ops[i]? = some o ∧ slotOf ops i = o.dst ∧ (∀ d, o.dst = some d → d < n) ∧ (∀ e ∈ o.after, Region.binds .any e = true → e.on < i) ∧
      (∀ j d, j < i → o.dst = some d → slotOf ops j ≠ some d) ∧ (∀ j ∈ A i, ∃ e ∈ o.after, Region.binds .any e = true ∧ (e.on = j ∨ j ∈ A e.on))
theorem laid_of {n : Nat} {A : Nat → List Nat} (hok : writesOk ops n A = true) : Laid ops n A := by
  intro i hi
  have h := List.all_eq_true.1 hok i (List.mem_range.2 hi)
  have hoi : ops[i]? = some ops[i] := by simp [hi]
  rw [hoi] at h
  simp only [Bool.and_eq_true] at h
  obtain ⟨⟨h1, h2⟩, h3⟩ := h
  refine ⟨_, hoi, by simp [slotOf, hoi], ?_, ?_, ?_, ?_⟩
  · intro d hd
    rw [hd] at h2
    simp only [Bool.and_eq_true, decide_eq_true_eq] at h2
    exact h2.1
  · intro e he hb
    have := Array.all_eq_true_iff_forall_mem.1 h1 e he
    simpa [hb] using this
  · intro j d hj hd
    rw [hd] at h2
    simp only [Bool.and_eq_true, decide_eq_true_eq] at h2
    have := List.all_eq_true.1 h2.2 j (List.mem_range.2 hj)
    simpa using this
  · intro j hj
    have := List.all_eq_true.1 h3 j hj
    obtain ⟨k, hk, h⟩ := Array.any_eq_true.1 this
    simp only [Bool.and_eq_true, Bool.or_eq_true, beq_iff_eq, List.contains_iff_mem] at h
    exact ⟨_, Array.getElem_mem hk, h.1, h.2⟩
def WInv (ops : Array Oper) (A : Nat → List Nat) (G : Nat → Value → Prop) (S : (Nat → Bool) → (Nat → Value) → World → Prop) (base : Act) (listed : Array Bool) (a : Act) (w : World) : Prop :=
  listed.size = ops.size ∧ Same ops base a ∧ S (fun j => listed.getD j false) (val ops a) w ∧ ∀ i, listed.getD i false = true → G i (val ops a i) ∧ ∀ j ∈ A i, listed.getD j false = true
/-- What an operation's own step must do. -/
def Steps' (P : Program) (ops : Array Oper) (Q : Exit → Act → World → Prop) (G : Nat → Value → Prop) (S : (Nat → Bool) → (Nat → Value) → World → Prop) (i : Nat) (l : Nat → Bool) (a : Act) (w : World) : Prop :=
  wpOp P ops Q i (fun a' w' => ∃ v, a' = a.put (slotOf ops i) v ∧ G i (val ops a' i) ∧ S (upd l i true) (upd (val ops a) i (val ops a' i)) w') a w
theorem writes_rule {A : Nat → List Nat} {G : Nat → Value → Prop} {S : (Nat → Bool) → (Nat → Value) → World → Prop} {base : Act} {w0 : World} {id : Nat}
    (hm : P.follows .mixedOrders = true) (hok : writesOk ops base.tmps.size A = true)
    (hstart : S (fun _ => false) (val ops base) w0.drew)
    (hop : ∀ i, i < ops.size → ∀ l a w, Same ops base a → l i = false → (∀ k, l k = true → ∀ j ∈ A k, l j = true) → (∀ j ∈ A i, l j = true ∧ G j (val ops a j)) → S l (val ops a) w → Steps' P ops Q G S i l a w)
    (hend : ∀ l a w, Same ops base a → (∀ i, i < ops.size → l i = true ∧ G i (val ops a i)) → S l (val ops a) w → Q .normal a w) :
    (Code.region id ops true).wp P Q base w0 := by
  have hall := laid_of hok
  have hput : ∀ i, i < ops.size → ∀ (a : Act) (v : Value) (j : Nat), j ≠ i → val ops (a.put (slotOf ops i) v) j = val ops a j := by
    intro i hi a v j hji
    unfold val
    cases hj : slotOf ops j with
    | none => rfl
    | some d =>
      have hne : ∀ d', slotOf ops i = some d' → d' ≠ d := by
        intro d' hd' e
        subst e
        have hjs : j < ops.size := by
          rcases Nat.lt_or_ge j ops.size with h | h
          · exact h
          · unfold slotOf at hj; rw [Array.getElem?_eq_none h] at hj; cases hj
        obtain ⟨o, _, hs, _, _, hb, _⟩ := hall i hi
        obtain ⟨o', _, hs', _, _, hb', _⟩ := hall j hjs
        rcases Nat.lt_or_gt_of_ne hji with h | h
        · exact hb j d' h (hs ▸ hd') hj
        · exact hb' i d' h (hs' ▸ hj) hd'
      cases hi' : slotOf ops i with
      | none => simp [Act.put]
      | some d' => simp [Act.put, Act.eval, Array.getD_eq_getD_getElem?, Array.getElem?_setIfInBounds_ne (hne d' hi')]
  refine wp_region_any hm (wpAny_inv (WInv ops A G S base) ?_ ?_ _ _ _ _ (by rw [left_new]; exact Nat.le_refl _) ⟨by simp, ⟨rfl, rfl, fun _ _ => rfl⟩, ?_, ?_⟩)
  · rintro listed a w i ⟨hsz, hS, hSt, hF⟩ hr
    obtain ⟨hun, o', ho', hedges⟩ := mem_ready.1 hr
    have hi : i < ops.size := by
      rcases Nat.lt_or_ge i ops.size with h | h
      · exact h
      · rw [Array.getElem?_eq_none h] at ho'; cases ho'
    obtain ⟨o, ho, hs, hdn, _, _, hA⟩ := hall i hi
    have : o' = o := by rw [ho] at ho'; exact (Option.some.inj ho').symm
    subst this
    have hli : listed.getD i false = false := by simpa [Array.getD, hsz, hi] using hun
    have hAl : ∀ j ∈ A i, listed.getD j false = true := by
      intro j hj
      obtain ⟨e, he, hb, hor⟩ := hA j hj
      have hl := hedges e he hb
      rcases hor with rfl | h
      · exact hl
      · exact (hF _ hl).2 j h
    refine wpOp_mono ?_ (hop i hi (fun j => listed.getD j false) a w hS hli (fun k hk => (hF k hk).2) (fun j hj => ⟨hAl j hj, (hF j (hAl j hj)).1⟩) hSt)
    rintro a' w' ⟨v, rfl, hG, hS'⟩
    have hl' : (fun j => (listed.setIfInBounds i true).getD j false) = upd (fun j => listed.getD j false) i true := by
      funext j
      by_cases hji : j = i
      · subst hji; rw [upd_same]; simp [Array.getD_eq_getD_getElem?, hsz, hi]
      · rw [upd_other _ _ hji]; simp [Array.getD_eq_getD_getElem?, Array.getElem?_setIfInBounds_ne (Ne.symm hji)]
    have hv' : val ops (a.put (slotOf ops i) v) = upd (val ops a) i (val ops (a.put (slotOf ops i) v) i) := by
      funext j
      by_cases hji : j = i
      · subst hji; rw [upd_same]
      · rw [upd_other _ _ hji]; exact hput i hi a v j hji
    refine ⟨by simp [hsz], ⟨?_, ?_, fun k hk => ?_⟩, ?_, fun j hj => ?_⟩
    · cases slotOf ops i <;> simp [Act.put] <;> exact hS.1
    · cases slotOf ops i <;> simp [Act.put] <;> exact hS.2.1
    · have hne := hk i hi
      cases hsi : slotOf ops i with
      | none => simp [Act.put]; exact hS.2.2 k hk
      | some d =>
        have : d ≠ k := fun e => hne (by rw [hsi, e])
        simp only [Act.put, Array.getElem?_setIfInBounds_ne this]
        exact hS.2.2 k hk
    · rw [hl', hv']; exact hS'
    · by_cases hji : j = i
      · subst hji
        refine ⟨hG, fun k hk => ?_⟩
        have := hAl k hk
        by_cases hkj : k = j
        · subst hkj; rw [hli] at this; cases this
        · simpa [Array.getD_eq_getD_getElem?, Array.getElem?_setIfInBounds_ne (Ne.symm hkj)] using this
      · have hj' : listed.getD j false = true := by
          simpa [Array.getD_eq_getD_getElem?, Array.getElem?_setIfInBounds_ne (Ne.symm hji)] using hj
        refine ⟨by rw [hput i hi a v j hji]; exact (hF j hj').1, fun k hk => ?_⟩
        have := (hF j hj').2 k hk
        by_cases hki : k = i
        · subst hki; rw [hli] at this; cases this
        · simpa [Array.getD_eq_getD_getElem?, Array.getElem?_setIfInBounds_ne (Ne.symm hki)] using this
  · rintro listed a w ⟨hsz, hS, hSt, hF⟩ hr
    have hlist : ∀ i, i < ops.size → listed.getD i false = true := by
      intro i
      induction i using Nat.strongRecOn with
      | _ i ih =>
        intro hi
        obtain ⟨o, ho, hs, hdn, hlt, _, _⟩ := hall i hi
        by_cases h : listed.getD i true = true
        · simpa [Array.getD, hsz, hi] using h
        · have hf : listed.getD i true = false := by simpa using h
          have : i ∈ Region.ready .any ops listed := mem_ready.2 ⟨hf, o, ho, fun e he hb => ih _ (hlt e he hb) (Nat.lt_trans (hlt e he hb) hi)⟩
          rw [hr] at this; cases this
    exact hend (fun j => listed.getD j false) a w hS (fun i hi => ⟨hlist i hi, (hF i (hlist i hi)).1⟩) hSt
  · have e : (fun j => (Array.replicate ops.size false).getD j false) = fun _ => false := by
      funext j
      rcases Nat.lt_or_ge j ops.size with h | h
      · simp [Array.getD, h]
      · simp [Array.getD, Nat.not_lt.2 h]
    rw [e]; exact hstart
  · intro i hi
    rcases Nat.lt_or_ge i ops.size with h | h
    · simp [Array.getD, h] at hi
    · simp [Array.getD, Nat.not_lt.2 h] at hi
variable {G : Nat → Value → Prop} {S : (Nat → Bool) → (Nat → Value) → World → Prop} {l : Nat → Bool}
theorem val_put {i : Nat} {o : Oper} {a : Act} {d : Tmp} (ho : ops[i]? = some o) (hd : o.dst = some d) (hn : d < a.tmps.size) (v : Value) : val ops (a.put (slotOf ops i) v) i = v := by
  have hs : slotOf ops i = some d := by simp [slotOf, ho, hd]
  simp [val, hs, Act.put, Act.eval, Array.getD_eq_getD_getElem?, hn]
/-- The operation yields a value. -/
theorem steps_value {i : Nat} {o : Oper} {a : Act} {w w' : World} {v : Value} {d : Tmp} (ho : ops[i]? = some o) (hd : o.dst = some d) (hn : d < a.tmps.size) (hw : Region.wanted o (yielded ops a.tmps) = true)
    (hr : (execOp a.eval o).run P w = .ok (.value v) w') (hG : G i v) (hS : S (upd l i true) (upd (val ops a) i v) w') : Steps' P ops Q G S i l a w := by
  unfold Steps' wpOp
  simp only [ho, hw, if_true]
  refine .inl ?_
  unfold Oper.wp
  rw [hr, Oper.upon_value]
  have hv := val_put ho hd hn v
  have hs : slotOf ops i = o.dst := by simp [slotOf, ho]
  rw [hs] at hv ⊢
  exact ⟨v, rfl, by rw [hv]; exact hG, by rw [hv]; exact hS⟩
/-- The operation stores. -/
theorem steps_store {i : Nat} {o : Oper} {a : Act} {w w' : World} (ho : ops[i]? = some o) (hd : o.dst = none) (hw : Region.wanted o (yielded ops a.tmps) = true)
    (hr : (execOp a.eval o).run P w = .ok .skip w') (hG : G i undef) (hS : S (upd l i true) (upd (val ops a) i undef) w') : Steps' P ops Q G S i l a w := by
  unfold Steps' wpOp
  simp only [ho, hw, if_true]
  refine .inl ?_
  unfold Oper.wp
  rw [hr, Oper.upon_skip]
  have hs : slotOf ops i = none := by simp [slotOf, ho, hd]
  have hv : val ops (a.put o.dst undef) i = undef := by simp [val, hs]
  rw [hs]
  refine ⟨undef, by rw [hd], ?_, ?_⟩
  · rw [hv]; exact hG
  · rw [hv]; exact hS
/-- The operation calls a function. -/
theorem steps_call {i : Nat} {o : Oper} {a : Act} {w : World} {f : FuncId} {args : Array Value} {d : Tmp} (ho : ops[i]? = some o) (hd : o.dst = some d) (hn : d < a.tmps.size) (hw : Region.wanted o (yielded ops a.tmps) = true)
    (hr : (execOp a.eval o).run P w = .ok (.enter f args) w) (hc : Calls P f args w fun e w' => ∃ v, e = .returned v ∧ G i v ∧ S (upd l i true) (upd (val ops a) i v) w') : Steps' P ops Q G S i l a w := by
  unfold Steps' wpOp
  simp only [ho, hw, if_true]
  refine .inl ?_
  unfold Oper.wp
  rw [hr, Oper.upon_enter]
  refine hc.mono ?_
  rintro e w' ⟨v, rfl, hG, hS⟩
  have hv := val_put ho hd hn v
  have hs : slotOf ops i = o.dst := by simp [slotOf, ho]
  rw [hs] at hv ⊢
  exact ⟨v, rfl, by rw [hv]; exact hG, by rw [hv]; exact hS⟩
/-- The operation is met by a law of its own. -/
theorem steps_law {i : Nat} {o : Oper} {a : Act} {w : World} {d : Tmp} (ho : ops[i]? = some o) (hd : o.dst = some d) (hn : d < a.tmps.size)
    (hl : ∀ K : Act → World → Prop, (∀ v w', G i v → S (upd l i true) (upd (val ops a) i v) w' → K (a.put o.dst v) w') → if Region.wanted o (yielded ops a.tmps) = true then Oper.wp P o a w K Q else False) : Steps' P ops Q G S i l a w := by
  unfold Steps' wpOp
  have h := hl (fun a' w' => ∃ v, a' = a.put (slotOf ops i) v ∧ G i (val ops a' i) ∧ S (upd l i true) (upd (val ops a) i (val ops a' i)) w') (fun v w' hG hS => by
    have hv := val_put ho hd hn v
    have hs : slotOf ops i = o.dst := by simp [slotOf, ho]
    rw [hs] at hv ⊢
    exact ⟨v, rfl, by rw [hv]; exact hG, by rw [hv]; exact hS⟩)
  simp only [ho]
  by_cases hw : Region.wanted o (yielded ops a.tmps) = true
  · rw [if_pos hw] at h ⊢; exact .inl h
  · rw [if_neg hw] at h; exact h.elim
end
end Go.Proofs.YtbpmhgcjefpigaaGreatDoor

namespace Go.Proofs.YtbpmhgcjefpigaaGreatDoor
open Go.RowKit Go.Shelf Go.WideShapes
set_option linter.unusedVariables false
set_option linter.unusedSimpArgs false
theorem Tryz.info9 : (Tryz.prog.info? 9).map (fun i => (i.zero, i.size, i.bytes)) = some (some (.string ⟨#[]⟩), 1, 16) := by kernel_rfl
noncomputable def RK10 : Array Oper := regionAt Tryz.f50 10
def ancK10 (i : Nat) : List Nat := ([[], [0], [], [], [2, 3], [2, 3, 4], [2, 3, 4, 5], [0, 1, 2, 3, 4, 5, 6], [0, 1, 2, 3, 4, 5, 6, 7], [0, 1, 2, 3, 4, 5, 6, 7, 8]] : List (List Nat)).getD i []
/-- What each operation leaves. -/
def gK10 (bx b off kl kc p n : Nat) (kv : Value) (y : ByteArray) (i : Nat) (v : Value) : Prop :=
  ([fun v => v = (.pointer (some ⟨bx, 4, none⟩)), fun v => v = (kv), fun v => v = (.slice (some ⟨b, off, none⟩) kl kc), fun v => v = (.int .i64 (p : Int)), fun v => v = (.pointer (some ⟨b, off + p, none⟩)), fun v => v = (.string y), fun v => ∃ t, v = .slice (some ⟨t, 0, none⟩) 1 1, fun v => ∃ g cap, v = .slice (some ⟨g, 0, none⟩) (n + 1) cap, fun v => v = (.pointer (some ⟨bx, 4, none⟩)), fun _ => True] : List (Value → Prop)).getD i (fun _ => True) v
/-- The world ahead of the append, behind it, behind the store. -/
structure SK10 (bx b off kl kc p n : Nat) (kv : Value) (xs : List Value) (y : ByteArray) (base : Nat) (w0 : World) (l : Nat → Bool) (vs : Nat → Value) (w : World) : Prop where
  ahead : l 7 = false → Below w0.heap.size w0 w
  laid : l 7 = false → l 6 = true → ∃ t, vs 6 = .slice (some ⟨t, 0, none⟩) 1 1 ∧ w.cell? ⟨t, 0, none⟩ = some (.string y)
  done : l 7 = true → l 9 = false → w.ownsRow base 9 1 (vs 7) (n + 1) (xs ++ [.string y]) ∧ w0.grownBy w kv.ownBlock ∧ ((vs 7).ownBlock = kv.ownBlock ∨ ∃ g, (vs 7).ownBlock = some g ∧ w0.heap.size ≤ g)
  last : l 9 = true → ∃ W, W.ownsRow base 9 1 (vs 7) (n + 1) (xs ++ [.string y]) ∧ w0.grownBy W kv.ownBlock ∧ ((vs 7).ownBlock = kv.ownBlock ∨ ∃ g, (vs 7).ownBlock = some g ∧ w0.heap.size ≤ g) ∧ w = W.setCell ⟨bx, 4, none⟩ (vs 7)
theorem SK10.lift {bx b off kl kc p n : Nat} {kv : Value} {xs : List Value} {y : ByteArray} {base : Nat} {w0 : World} {l : Nat → Bool} {vs : Nat → Value} {w : World} (h : SK10 bx b off kl kc p n kv xs y base w0 l vs w) {i : Nat} (v : Value) (h6 : i ≠ 6) (h7 : i ≠ 7) (h9 : i ≠ 9) : SK10 bx b off kl kc p n kv xs y base w0 (upd l i true) (upd vs i v) w := by
  have e6 : upd l i true 6 = l 6 := upd_other _ _ (Ne.symm h6)
  have e7 : upd l i true 7 = l 7 := upd_other _ _ (Ne.symm h7)
  have e9 : upd l i true 9 = l 9 := upd_other _ _ (Ne.symm h9)
  have f6 : upd vs i v 6 = vs 6 := upd_other _ _ (Ne.symm h6)
  have f7 : upd vs i v 7 = vs 7 := upd_other _ _ (Ne.symm h7)
  exact ⟨by rw [e7]; exact h.ahead, by rw [e7, e6, f6]; exact h.laid, by rw [e7, e9, f7]; exact h.done, by rw [e9, f7]; exact h.last⟩
/-- What stands in the frame and lies in the world ahead. -/
structure BK10 (bx b off kl kc p n : Nat) (kv : Value) (xs : List Value) (y : ByteArray) (base : Nat) (w0 : World) (c : Act) : Prop where
  t0 : c.eval (.tmp 0) = .slice (some ⟨b, off, none⟩) kl kc
  t6 : c.eval (.tmp 6) = .pointer (some ⟨bx, 0, none⟩)
  t8 : c.eval (.tmp 8) = .int .i64 (p : Int)
  size : c.tmps.size = 64
structure WK10 (bx b off kl kc p n : Nat) (kv : Value) (xs : List Value) (y : ByteArray) (base : Nat) (w0 : World) : Prop where
  box : w0.cell? ⟨bx, 4, none⟩ = some kv
  free : w0.frozen? ⟨bx, 4, none⟩ = false
  key : w0.cell? ⟨b, off + p, none⟩ = some (.string y)
  lt : p < kl
  le : kl ≤ 9223372036854775807
  own : w0.ownsRow base 9 1 kv n xs
  few : n ≤ 1000000
  low : base ≤ w0.heap.size
  under : bx < base
def stepK10 (bx b off kl kc p n : Nat) (kv : Value) (xs : List Value) (y : ByteArray) (base : Nat) (w0 : World) (Q : Exit → Act → World → Prop) (i : Nat) : Prop := ∀ (l : Nat → Bool) (c : Act) (w : World), (BK10 bx b off kl kc p n kv xs y base w0 c) → (WK10 bx b off kl kc p n kv xs y base w0) → (l i = false) → (∀ k, l k = true → ∀ j ∈ ancK10 k, l j = true) → (∀ j ∈ ancK10 i, l j = true ∧ gK10 bx b off kl kc p n kv y j (val RK10 c j)) → (SK10 bx b off kl kc p n kv xs y base w0 l (val RK10 c) w) → Steps' Tryz.prog RK10 Q (gK10 bx b off kl kc p n kv y) (SK10 bx b off kl kc p n kv xs y base w0) i l c w
theorem wnK10 {i : Nat} {o : Oper} {c : Act} (ho : RK10[i]? = some o) (h : o.guard = none) : Region.wanted o (yielded RK10 c.tmps) = true := want_none h
section
variable (bx b off kl kc p n : Nat) (kv : Value) (xs : List Value) (y : ByteArray) (base : Nat) (w0 : World) (Q : Exit → Act → World → Prop)
set_option maxRecDepth 10000 in
theorem oK10_0 : stepK10 bx b off kl kc p n kv xs y base w0 Q 0 := by
  intro l c w hb hW hli hcl hA hS
  have ho : RK10[0]? = some ({ dst := some 43, op := Op.fieldAddr 26 (Operand.tmp 6) 4, type := 0, pos := "value.go:38", after := #[], guard := none } : Oper) := by kernel_rfl
  have e6 := hb.t6
  have hw := wnK10 (c := c) ho rfl
  have ec : ∀ v, c.eval (.const v) = v := fun _ => rfl
  have h7 : l 7 = false := by
    cases h : l 7 with
    | false => rfl
    | true => have := hcl 7 h 0 (by decide); rw [hli] at this; cases this
  refine steps_value (d := 43) ho rfl (by rw [hb.size]; decide) hw (v := .pointer (some ⟨bx, 4, none⟩)) ?_ rfl (hS.lift _ (by decide) (by decide) (by decide))
  generalize c.eval = ρ at *
  clear hA hb hW hw ho hS hcl hli
  go_simp
set_option maxRecDepth 10000 in
theorem oK10_1 : stepK10 bx b off kl kc p n kv xs y base w0 Q 1 := by
  intro l c w hb hW hli hcl hA hS
  have ho : RK10[1]? = some ({ dst := some 44, op := Op.load 23 (Operand.tmp 43), type := 23, pos := "value.go:38", after := #[{ on := 0, ground := Ground.data }], guard := none } : Oper) := by kernel_rfl
  have e43 : c.eval (.tmp 43) = .pointer (some ⟨bx, 4, none⟩) := by have h := (hA 0 (by decide)).2; rw [val_eq (show slotOf RK10 0 = some 43 by kernel_rfl)] at h; exact h
  have hw := wnK10 (c := c) ho rfl
  have ec : ∀ v, c.eval (.const v) = v := fun _ => rfl
  have h7 : l 7 = false := by
    cases h : l 7 with
    | false => rfl
    | true => have := hcl 7 h 1 (by decide); rw [hli] at this; cases this
  have hc := (hS.ahead h7).cell (p := ⟨bx, 4, none⟩) (lt_of_cell hW.box)
  rw [hW.box] at hc
  refine steps_value (d := 44) ho rfl (by rw [hb.size]; decide) hw (v := kv) ?_ rfl (hS.lift _ (by decide) (by decide) (by decide))
  generalize c.eval = ρ at *
  clear hA hb hW hw ho hS hcl hli
  go_simp
set_option maxRecDepth 10000 in
theorem oK10_2 : stepK10 bx b off kl kc p n kv xs y base w0 Q 2 := by
  intro l c w hb hW hli hcl hA hS
  have ho : RK10[2]? = some ({ dst := some 45, op := Op.move (Operand.tmp 0), type := 23, pos := "value.go:38", after := #[], guard := none } : Oper) := by kernel_rfl
  have e0 := hb.t0
  have hw := wnK10 (c := c) ho rfl
  have ec : ∀ v, c.eval (.const v) = v := fun _ => rfl
  have h7 : l 7 = false := by
    cases h : l 7 with
    | false => rfl
    | true => have := hcl 7 h 2 (by decide); rw [hli] at this; cases this
  refine steps_value (d := 45) ho rfl (by rw [hb.size]; decide) hw (v := .slice (some ⟨b, off, none⟩) kl kc) ?_ rfl (hS.lift _ (by decide) (by decide) (by decide))
  generalize c.eval = ρ at *
  clear hA hb hW hw ho hS hcl hli
  go_simp
set_option maxRecDepth 10000 in
theorem oK10_3 : stepK10 bx b off kl kc p n kv xs y base w0 Q 3 := by
  intro l c w hb hW hli hcl hA hS
  have ho : RK10[3]? = some ({ dst := some 46, op := Op.move (Operand.tmp 8), type := 3, pos := "value.go:38", after := #[], guard := none } : Oper) := by kernel_rfl
  have e8 := hb.t8
  have hw := wnK10 (c := c) ho rfl
  have ec : ∀ v, c.eval (.const v) = v := fun _ => rfl
  have h7 : l 7 = false := by
    cases h : l 7 with
    | false => rfl
    | true => have := hcl 7 h 3 (by decide); rw [hli] at this; cases this
  refine steps_value (d := 46) ho rfl (by rw [hb.size]; decide) hw (v := .int .i64 (p : Int)) ?_ rfl (hS.lift _ (by decide) (by decide) (by decide))
  generalize c.eval = ρ at *
  clear hA hb hW hw ho hS hcl hli
  go_simp
set_option maxRecDepth 10000 in
theorem oK10_4 : stepK10 bx b off kl kc p n kv xs y base w0 Q 4 := by
  intro l c w hb hW hli hcl hA hS
  have ho : RK10[4]? = some ({ dst := some 47, op := Op.indexAddr 23 (Operand.tmp 45) (Operand.tmp 46), type := 0, pos := "value.go:38", after := #[{ on := 2, ground := Ground.data }, { on := 3, ground := Ground.data }], guard := none } : Oper) := by kernel_rfl
  have e45 : c.eval (.tmp 45) = .slice (some ⟨b, off, none⟩) kl kc := by have h := (hA 2 (by decide)).2; rw [val_eq (show slotOf RK10 2 = some 45 by kernel_rfl)] at h; exact h
  have e46 : c.eval (.tmp 46) = .int .i64 (p : Int) := by have h := (hA 3 (by decide)).2; rw [val_eq (show slotOf RK10 3 = some 46 by kernel_rfl)] at h; exact h
  have hw := wnK10 (c := c) ho rfl
  have ec : ∀ v, c.eval (.const v) = v := fun _ => rfl
  have h7 : l 7 = false := by
    cases h : l 7 with
    | false => rfl
    | true => have := hcl 7 h 4 (by decide); rw [hli] at this; cases this
  have h1 := hW.lt
  have h2 := hW.le
  refine steps_value (d := 47) ho rfl (by rw [hb.size]; decide) hw (v := .pointer (some ⟨b, off + p, none⟩)) ?_ rfl (hS.lift _ (by decide) (by decide) (by decide))
  generalize c.eval = ρ at *
  clear hA hb hW hw ho hS hcl hli
  go_simp
set_option maxRecDepth 10000 in
theorem oK10_5 : stepK10 bx b off kl kc p n kv xs y base w0 Q 5 := by
  intro l c w hb hW hli hcl hA hS
  have ho : RK10[5]? = some ({ dst := some 48, op := Op.load 9 (Operand.tmp 47), type := 9, pos := "value.go:38", after := #[{ on := 4, ground := Ground.data }], guard := none } : Oper) := by kernel_rfl
  have e47 : c.eval (.tmp 47) = .pointer (some ⟨b, off + p, none⟩) := by have h := (hA 4 (by decide)).2; rw [val_eq (show slotOf RK10 4 = some 47 by kernel_rfl)] at h; exact h
  have hw := wnK10 (c := c) ho rfl
  have ec : ∀ v, c.eval (.const v) = v := fun _ => rfl
  have h7 : l 7 = false := by
    cases h : l 7 with
    | false => rfl
    | true => have := hcl 7 h 5 (by decide); rw [hli] at this; cases this
  have hc := (hS.ahead h7).cell (p := ⟨b, off + p, none⟩) (lt_of_cell hW.key)
  rw [hW.key] at hc
  refine steps_value (d := 48) ho rfl (by rw [hb.size]; decide) hw (v := .string y) ?_ rfl (hS.lift _ (by decide) (by decide) (by decide))
  generalize c.eval = ρ at *
  clear hA hb hW hw ho hS hcl hli
  go_simp
set_option maxRecDepth 10000 in
theorem oK10_6 : stepK10 bx b off kl kc p n kv xs y base w0 Q 6 := by
  intro l c w hb hW hli hcl hA hS
  have ho : RK10[6]? = some ({ dst := some 49, op := Op.buildSlice 23 1 #[(0, Operand.tmp 48)], type := 23, pos := "value.go:38", after := #[{ on := 5, ground := Ground.data }], guard := none } : Oper) := by kernel_rfl
  have e48 : c.eval (.tmp 48) = .string y := by have h := (hA 5 (by decide)).2; rw [val_eq (show slotOf RK10 5 = some 48 by kernel_rfl)] at h; exact h
  have hw := wnK10 (c := c) ho rfl
  have ec : ∀ v, c.eval (.const v) = v := fun _ => rfl
  have h7 : l 7 = false := by
    cases h : l 7 with
    | false => rfl
    | true => have := hcl 7 h 6 (by decide); rw [hli] at this; cases this
  refine steps_value (d := 49) ho rfl (by rw [hb.size]; decide) hw (v := .slice (some ⟨w.heap.size, 0, none⟩) 1 1) (w' := w.alloc (.cells #[.string y] 9)) ?_ ⟨_, rfl⟩ ?_
  · generalize c.eval = ρ at *
    clear hA hb hW hw ho hS hcl hli
    go_simp
  · have n7 : upd l 6 true 7 = false := by rw [upd_other _ _ (by decide)]; exact h7
    refine ⟨fun _ => (hS.ahead h7).alloc (hS.ahead h7).size _, fun _ _ => ⟨w.heap.size, by rw [upd_same], cell_new _ _ _ 0 _ rfl⟩, (fun h => by rw [n7] at h; cases h), fun h => ?_⟩
    have h9 : l 9 = true := by rwa [upd_other _ _ (by decide)] at h
    have := hcl 9 h9 6 (by decide)
    rw [hli] at this; cases this
set_option maxRecDepth 10000 in
theorem oK10_7 : stepK10 bx b off kl kc p n kv xs y base w0 Q 7 := by
  intro l c w hb hW hli hcl hA hS
  have ho : RK10[7]? = some ({ dst := some 50, op := Op.call { callee := Callee.builtin Builtin.append, args := #[Operand.tmp 44, Operand.tmp 49], argTypes := #[23, 23] }, type := 23, pos := "value.go:38", after := #[{ on := 1, ground := Ground.data }, { on := 6, ground := Ground.data }], guard := none } : Oper) := by kernel_rfl
  have e44 : c.eval (.tmp 44) = kv := by have h := (hA 1 (by decide)).2; rw [val_eq (show slotOf RK10 1 = some 44 by kernel_rfl)] at h; exact h
  have e49 : c.eval (.tmp 49) = val RK10 c 6 := (val_eq (show slotOf RK10 6 = some 49 by kernel_rfl)).symm
  have hw := wnK10 (c := c) ho rfl
  have ec : ∀ v, c.eval (.const v) = v := fun _ => rfl
  have h6 : l 6 = true := (hA 6 (by decide)).1
  obtain ⟨t, ht, hcell⟩ := hS.laid hli h6
  have hbel := hS.ahead hli
  obtain ⟨i0, hi, hz0, hz1, hz2⟩ := info_parts Tryz.info9
  have hown : w.ownsRow base 9 1 kv n xs := by
    obtain ⟨g1, ⟨g2, g3⟩ | ⟨g, cap, cur, g2, g3, g4, g5⟩⟩ := hW.own
    · exact ⟨g1, .inl ⟨g2, g3⟩⟩
    · refine ⟨g1, .inr ⟨g, cap, cur, g2, g3, ?_, g5⟩⟩
      have hg : g < w0.heap.size := by
        rcases Nat.lt_or_ge g w0.heap.size with h | h
        · exact h
        · rw [Array.getElem?_eq_none h] at g4; cases g4
      rw [hbel.block g hg]; exact g4
  refine steps_law (d := 50) ho rfl (by rw [hb.size]; decide) fun K hK => ?_
  refine step_append_lies w rfl (.tmp 44) (.tmp 49) 23 rfl base 9 i0 (.string ⟨#[]⟩) 1 16 Tryz.underlying23 hi hz0 hz1 hz2 rfl (by decide) kv n xs e44 hown ⟨t, 0, none⟩ 1 1 [.string y] (e49.trans ht) rfl ?_ ?_ (by decide) (by have := hW.few; unfold maxLen; omega) (by have := hW.few; omega) (Nat.le_trans hW.low hbel.size) w.heap.size rfl ?_
  · intro j u hj
    match j, hj with
    | 0, hj =>
      simp only [List.getElem?_cons_zero, Option.some.injEq] at hj
      subst hj
      rw [add_plain]; exact hcell
  · intro u hu
    simp only [List.mem_cons, List.not_mem_nil, or_false] at hu
    subst hu; rfl
  · intro g cap w' g1 g2 g3 g4
    refine hK _ _ ⟨g, cap, rfl⟩ ⟨fun h => ?_, fun h => ?_, fun _ _ => ?_, fun h => ?_⟩
    · rw [upd_same] at h; cases h
    · rw [upd_same] at h; cases h
    · rw [upd_same]
      refine ⟨g1, ⟨g2.os.trans hbel.os, g2.tape.trans hbel.tape, g2.output.trans hbel.output, Nat.le_trans hbel.size g2.size, fun k hk hne => (g2.block k (Nat.lt_of_lt_of_le hk hbel.size) hne).trans (hbel.block k hk)⟩, ?_⟩
      have hle := hbel.size
      rcases g3 with g3 | g3
      · exact .inl (by rw [g3]; rfl)
      · exact .inr ⟨g, rfl, by omega⟩
    · have h9 : l 9 = true := by rwa [upd_other _ _ (by decide)] at h
      have := hcl 9 h9 7 (by decide)
      rw [hli] at this; cases this
set_option maxRecDepth 10000 in
theorem oK10_8 : stepK10 bx b off kl kc p n kv xs y base w0 Q 8 := by
  intro l c w hb hW hli hcl hA hS
  have ho : RK10[8]? = some ({ dst := some 51, op := Op.fieldAddr 26 (Operand.tmp 6) 4, type := 0, pos := "value.go:38", after := #[{ on := 0, ground := Ground.phase }, { on := 1, ground := Ground.phase }, { on := 2, ground := Ground.phase }, { on := 3, ground := Ground.phase }, { on := 4, ground := Ground.phase }, { on := 5, ground := Ground.phase }, { on := 6, ground := Ground.phase }, { on := 7, ground := Ground.phase }], guard := none } : Oper) := by kernel_rfl
  have e6 := hb.t6
  have hw := wnK10 (c := c) ho rfl
  have ec : ∀ v, c.eval (.const v) = v := fun _ => rfl
  refine steps_value (d := 51) ho rfl (by rw [hb.size]; decide) hw (v := .pointer (some ⟨bx, 4, none⟩)) ?_ rfl (hS.lift _ (by decide) (by decide) (by decide))
  generalize c.eval = ρ at *
  clear hA hb hW hw ho hS hcl hli
  go_simp
set_option maxRecDepth 10000 in
theorem oK10_9 : stepK10 bx b off kl kc p n kv xs y base w0 Q 9 := by
  intro l c w hb hW hli hcl hA hS
  have ho : RK10[9]? = some ({ dst := none, op := Op.store 23 (Operand.tmp 51) (Operand.tmp 50), type := 0, pos := "value.go:38", after := #[{ on := 8, ground := Ground.data }, { on := 7, ground := Ground.data }, { on := 7, ground := Ground.chain }, { on := 0, ground := Ground.phase }, { on := 1, ground := Ground.phase }, { on := 2, ground := Ground.phase }, { on := 3, ground := Ground.phase }, { on := 4, ground := Ground.phase }, { on := 5, ground := Ground.phase }, { on := 6, ground := Ground.phase }, { on := 7, ground := Ground.phase }], guard := none } : Oper) := by kernel_rfl
  have e50 : c.eval (.tmp 50) = val RK10 c 7 := (val_eq (show slotOf RK10 7 = some 50 by kernel_rfl)).symm
  have e51 : c.eval (.tmp 51) = .pointer (some ⟨bx, 4, none⟩) := by have h := (hA 8 (by decide)).2; rw [val_eq (show slotOf RK10 8 = some 51 by kernel_rfl)] at h; exact h
  have hw := wnK10 (c := c) ho rfl
  have ec : ∀ v, c.eval (.const v) = v := fun _ => rfl
  have h7 : l 7 = true := (hA 7 (by decide)).1
  obtain ⟨hown, hgr, hob⟩ := hS.done h7 hli
  obtain ⟨g, cap, hg⟩ := (hA 7 (by decide)).2
  have hbx : bx < w0.heap.size := lt_of_cell hW.box
  have hne : some bx ≠ kv.ownBlock := fun e => by
    have := (hW.own.lt bx e.symm).1
    have := hW.under
    omega
  have hc : w.cell? ⟨bx, 4, none⟩ = some kv := (World.cell?_of_block (hgr.block bx hbx hne)).trans hW.box
  have hf : w.frozen? ⟨bx, 4, none⟩ = false := (World.frozen?_of_block (hgr.block bx hbx hne)).trans hW.free
  refine steps_store ho rfl hw (w' := w.setCell ⟨bx, 4, none⟩ (val RK10 c 7)) ?_ trivial ⟨fun h => ?_, fun h => ?_, fun _ h => ?_, fun _ => ?_⟩
  · rw [hg] at e50 ⊢
    generalize c.eval = ρ at *
    clear hA hb hW hw ho hS hcl hli hown hgr hne hob
    go_simp
  · rw [upd_other _ _ (by decide), h7] at h; cases h
  · rw [upd_other _ _ (by decide), h7] at h; cases h
  · rw [upd_same] at h; cases h
  · rw [upd_other _ _ (by decide)]
    exact ⟨w, hown, hgr, hob, rfl⟩
end
set_option maxRecDepth 100000 in
theorem allK10 (bx b off kl kc p n : Nat) (kv : Value) (xs : List Value) (y : ByteArray) (base : Nat) (w0 : World) (Q : Exit → Act → World → Prop) (hW : WK10 bx b off kl kc p n kv xs y base w0) : ∀ i, i < 10 → (fun i => ∀ l c w, BK10 bx b off kl kc p n kv xs y base w0 c → l i = false → (∀ k, l k = true → ∀ j ∈ ancK10 k, l j = true) → (∀ j ∈ ancK10 i, l j = true ∧ gK10 bx b off kl kc p n kv y j (val RK10 c j)) → SK10 bx b off kl kc p n kv xs y base w0 l (val RK10 c) w → Steps' Tryz.prog RK10 Q (gK10 bx b off kl kc p n kv y) (SK10 bx b off kl kc p n kv xs y base w0) i l c w) i := by
  refine below_succ ?_ (fun l c w hb => oK10_9 bx b off kl kc p n kv xs y base w0 Q l c w hb hW)
  refine below_succ ?_ (fun l c w hb => oK10_8 bx b off kl kc p n kv xs y base w0 Q l c w hb hW)
  refine below_succ ?_ (fun l c w hb => oK10_7 bx b off kl kc p n kv xs y base w0 Q l c w hb hW)
  refine below_succ ?_ (fun l c w hb => oK10_6 bx b off kl kc p n kv xs y base w0 Q l c w hb hW)
  refine below_succ ?_ (fun l c w hb => oK10_5 bx b off kl kc p n kv xs y base w0 Q l c w hb hW)
  refine below_succ ?_ (fun l c w hb => oK10_4 bx b off kl kc p n kv xs y base w0 Q l c w hb hW)
  refine below_succ ?_ (fun l c w hb => oK10_3 bx b off kl kc p n kv xs y base w0 Q l c w hb hW)
  refine below_succ ?_ (fun l c w hb => oK10_2 bx b off kl kc p n kv xs y base w0 Q l c w hb hW)
  refine below_succ ?_ (fun l c w hb => oK10_1 bx b off kl kc p n kv xs y base w0 Q l c w hb hW)
  refine below_succ ?_ (fun l c w hb => oK10_0 bx b off kl kc p n kv xs y base w0 Q l c w hb hW)
  exact below_zero
/-- The statement 'v.Keys = append(v.Keys, keys[at])'. -/
theorem regionK10 (bx b off kl kc p n : Nat) (kv : Value) (xs : List Value) (y : ByteArray) (base : Nat) (w0 : World) (Q : Exit → Act → World → Prop) (frame : Act) (hb : BK10 bx b off kl kc p n kv xs y base w0 frame) (hW : WK10 bx b off kl kc p n kv xs y base w0)
    (hQ : ∀ c g cap W, Same RK10 frame c → W.ownsRow base 9 1 (.slice (some ⟨g, 0, none⟩) (n + 1) cap) (n + 1) (xs ++ [.string y]) → w0.grownBy W kv.ownBlock → (some g = kv.ownBlock ∨ w0.heap.size ≤ g) → Q .normal c (W.setCell ⟨bx, 4, none⟩ (.slice (some ⟨g, 0, none⟩) (n + 1) cap))) :
    (Code.region 10 RK10 true).wp Tryz.prog Q frame w0 := by
  refine writes_rule (A := ancK10) (G := gK10 bx b off kl kc p n kv y) (S := SK10 bx b off kl kc p n kv xs y base w0) (by kernel_rfl) (by rw [hb.size]; kernel_rfl) ?_ ?_ ?_
  · exact ⟨fun _ => (Below.refl _ _).drew, (fun _ h => by cases h), (fun h => by cases h), (fun h => by cases h)⟩
  · intro i hi l c w hS hli hcl hA hst
    exact allK10 bx b off kl kc p n kv xs y base w0 Q hW i (by rwa [show RK10.size = 10 by kernel_rfl] at hi) l c w ⟨(same_eval hS (by kernel_rfl)).trans hb.t0, (same_eval hS (by kernel_rfl)).trans hb.t6, (same_eval hS (by kernel_rfl)).trans hb.t8, hS.2.1.trans hb.size⟩ hli hcl hA hst
  · intro l c w hS hall hst
    have hsz : RK10.size = 10 := by kernel_rfl
    obtain ⟨W, h1, h2, h5, rfl⟩ := hst.last (hall 9 (by rw [hsz]; omega)).1
    obtain ⟨g, cap, hg⟩ := (hall 7 (by rw [hsz]; omega)).2
    rw [hg] at h1 h5 ⊢
    refine hQ c g cap W hS h1 h2 ?_
    rcases h5 with h5 | ⟨g', e, h5⟩
    · exact .inl h5
    · have : g = g' := by simpa [Value.ownBlock] using e
      exact .inr (this ▸ h5)
end Go.Proofs.YtbpmhgcjefpigaaGreatDoor

