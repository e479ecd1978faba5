/- Whatever order a region draws, where operations write: facts about values, and a state of the world that hangs on what has come up. -/
import Derived.Test.YteddjlbfbpecjaaGreatDoorFacts
namespace Go.Proofs.YteddjlbfbpecjaaGreatDoor
open Go.RowKit
set_option linter.unusedVariables false

def upd {α : Type} (f : Nat → α) (i : Nat) (x : α) : Nat → α := fun j => if j = i then x else f j
theorem upd_same {α : Type} (f : Nat → α) (i : Nat) (x : α) : upd f i x i = x := by simp [upd]
theorem upd_other {α : Type} (f : Nat → α) {i j : Nat} (x : α) (h : j ≠ i) : upd f i x j = f j := by simp [upd, h]

section
variable {P : Program} {ops : Array Oper} {Q : Exit → Act → World → Prop}

def writesOk (ops : Array Oper) (n : Nat) (A : Nat → List Nat) : Bool :=
  (List.range ops.size).all fun i =>
    match ops[i]? with
    | none => false
    | some o =>
      (o.after.all fun e => !Region.binds .any e || decide (e.on < i)) &&
      (match o.dst with
        | none => true
        | some d => decide (d < n) && (List.range i).all fun j => slotOf ops j != some d) &&
      (A i).all fun j => o.after.any fun e => Region.binds .any e && (e.on == j || (A e.on).contains j)
def Laid (ops : Array Oper) (n : Nat) (A : Nat → List Nat) : Prop :=
  ∀ i, i < ops.size → ∃ o, ops[i]? = some o ∧ slotOf ops i = o.dst ∧ (∀ d, o.dst = some d → d < n) ∧ (∀ e ∈ o.after, Region.binds .any e = true → e.on < i) ∧
      (∀ j d, j < i → o.dst = some d → slotOf ops j ≠ some d) ∧ (∀ j ∈ A i, ∃ e ∈ o.after, Region.binds .any e = true ∧ (e.on = j ∨ j ∈ A e.on))
theorem laid_of {n : Nat} {A : Nat → List Nat} (hok : writesOk ops n A = true) : Laid ops n A := by
  intro i hi
  have h := List.all_eq_true.1 hok i (List.mem_range.2 hi)
  have hoi : ops[i]? = some ops[i] := by simp [hi]
  rw [hoi] at h
  simp only [Bool.and_eq_true] at h
  obtain ⟨⟨h1, h2⟩, h3⟩ := h
  refine ⟨_, hoi, by simp [slotOf, hoi], ?_, ?_, ?_, ?_⟩
  · intro d hd
    rw [hd] at h2
    simp only [Bool.and_eq_true, decide_eq_true_eq] at h2
    exact h2.1
  · intro e he hb
    have := Array.all_eq_true_iff_forall_mem.1 h1 e he
    simpa [hb] using this
  · intro j d hj hd
    rw [hd] at h2
    simp only [Bool.and_eq_true, decide_eq_true_eq] at h2
    have := List.all_eq_true.1 h2.2 j (List.mem_range.2 hj)
    simpa using this
  · intro j hj
    have := List.all_eq_true.1 h3 j hj
    obtain ⟨k, hk, h⟩ := Array.any_eq_true.1 this
    simp only [Bool.and_eq_true, Bool.or_eq_true, beq_iff_eq, List.contains_iff_mem] at h
    exact ⟨_, Array.getElem_mem hk, h.1, h.2⟩

def WInv (ops : Array Oper) (A : Nat → List Nat) (G : Nat → Value → Prop) (S : (Nat → Bool) → (Nat → Value) → World → Prop) (base : Act) (listed : Array Bool) (a : Act) (w : World) : Prop :=
  listed.size = ops.size ∧ Same ops base a ∧ S (fun j => listed.getD j false) (val ops a) w ∧ ∀ i, listed.getD i false = true → G i (val ops a i) ∧ ∀ j ∈ A i, listed.getD j false = true

/-- What an operation's own step must do. -/
def Steps' (P : Program) (ops : Array Oper) (Q : Exit → Act → World → Prop) (G : Nat → Value → Prop) (S : (Nat → Bool) → (Nat → Value) → World → Prop) (i : Nat) (l : Nat → Bool) (a : Act) (w : World) : Prop :=
  wpOp P ops Q i (fun a' w' => ∃ v, a' = a.put (slotOf ops i) v ∧ G i (val ops a' i) ∧ S (upd l i true) (upd (val ops a) i (val ops a' i)) w') a w

theorem writes_rule {A : Nat → List Nat} {G : Nat → Value → Prop} {S : (Nat → Bool) → (Nat → Value) → World → Prop} {base : Act} {w0 : World} {id : Nat}
    (hm : P.follows .mixedOrders = true) (hok : writesOk ops base.tmps.size A = true)
    (hstart : S (fun _ => false) (val ops base) w0.drew)
    (hop : ∀ i, i < ops.size → ∀ l a w, Same ops base a → l i = false → (∀ k, l k = true → ∀ j ∈ A k, l j = true) → (∀ j ∈ A i, l j = true ∧ G j (val ops a j)) → S l (val ops a) w → Steps' P ops Q G S i l a w)
    (hend : ∀ l a w, Same ops base a → (∀ i, i < ops.size → l i = true ∧ G i (val ops a i)) → S l (val ops a) w → Q .normal a w) :
    (Code.region id ops true).wp P Q base w0 := by
  have hall := laid_of hok
  have hput : ∀ i, i < ops.size → ∀ (a : Act) (v : Value) (j : Nat), j ≠ i → val ops (a.put (slotOf ops i) v) j = val ops a j := by
    intro i hi a v j hji
    unfold val
    cases hj : slotOf ops j with
    | none => rfl
    | some d =>
      have hne : ∀ d', slotOf ops i = some d' → d' ≠ d := by
        intro d' hd' e
        subst e
        have hjs : j < ops.size := by
          rcases Nat.lt_or_ge j ops.size with h | h
          · exact h
          · unfold slotOf at hj; rw [Array.getElem?_eq_none h] at hj; cases hj
        obtain ⟨o, _, hs, _, _, hb, _⟩ := hall i hi
        obtain ⟨o', _, hs', _, _, hb', _⟩ := hall j hjs
        rcases Nat.lt_or_gt_of_ne hji with h | h
        · exact hb j d' h (hs ▸ hd') hj
        · exact hb' i d' h (hs' ▸ hj) hd'
      cases hi' : slotOf ops i with
      | none => simp [Act.put]
      | some d' => simp [Act.put, Act.eval, Array.getD_eq_getD_getElem?, Array.getElem?_setIfInBounds_ne (hne d' hi')]
  refine wp_region_any hm (wpAny_inv (WInv ops A G S base) ?_ ?_ _ _ _ _ (by rw [left_new]; exact Nat.le_refl _) ⟨by simp, ⟨rfl, rfl, fun _ _ => rfl⟩, ?_, ?_⟩)
  · rintro listed a w i ⟨hsz, hS, hSt, hF⟩ hr
    obtain ⟨hun, o', ho', hedges⟩ := mem_ready.1 hr
    have hi : i < ops.size := by
      rcases Nat.lt_or_ge i ops.size with h | h
      · exact h
      · rw [Array.getElem?_eq_none h] at ho'; cases ho'
    obtain ⟨o, ho, hs, hdn, _, _, hA⟩ := hall i hi
    have : o' = o := by rw [ho] at ho'; exact (Option.some.inj ho').symm
    subst this
    have hli : listed.getD i false = false := by simpa [Array.getD, hsz, hi] using hun
    have hAl : ∀ j ∈ A i, listed.getD j false = true := by
      intro j hj
      obtain ⟨e, he, hb, hor⟩ := hA j hj
      have hl := hedges e he hb
      rcases hor with rfl | h
      · exact hl
      · exact (hF _ hl).2 j h
    refine wpOp_mono ?_ (hop i hi (fun j => listed.getD j false) a w hS hli (fun k hk => (hF k hk).2) (fun j hj => ⟨hAl j hj, (hF j (hAl j hj)).1⟩) hSt)
    rintro a' w' ⟨v, rfl, hG, hS'⟩
    have hl' : (fun j => (listed.setIfInBounds i true).getD j false) = upd (fun j => listed.getD j false) i true := by
      funext j
      by_cases hji : j = i
      · subst hji; rw [upd_same]; simp [Array.getD_eq_getD_getElem?, hsz, hi]
      · rw [upd_other _ _ hji]; simp [Array.getD_eq_getD_getElem?, Array.getElem?_setIfInBounds_ne (Ne.symm hji)]
    have hv' : val ops (a.put (slotOf ops i) v) = upd (val ops a) i (val ops (a.put (slotOf ops i) v) i) := by
      funext j
      by_cases hji : j = i
      · subst hji; rw [upd_same]
      · rw [upd_other _ _ hji]; exact hput i hi a v j hji
    refine ⟨by simp [hsz], ⟨?_, ?_, fun k hk => ?_⟩, ?_, fun j hj => ?_⟩
    · cases slotOf ops i <;> simp [Act.put] <;> exact hS.1
    · cases slotOf ops i <;> simp [Act.put] <;> exact hS.2.1
    · have hne := hk i hi
      cases hsi : slotOf ops i with
      | none => simp [Act.put]; exact hS.2.2 k hk
      | some d =>
        have : d ≠ k := fun e => hne (by rw [hsi, e])
        simp only [Act.put, Array.getElem?_setIfInBounds_ne this]
        exact hS.2.2 k hk
    · rw [hl', hv']; exact hS'
    · by_cases hji : j = i
      · subst hji
        refine ⟨hG, fun k hk => ?_⟩
        have := hAl k hk
        by_cases hkj : k = j
        · subst hkj; rw [hli] at this; cases this
        · simpa [Array.getD_eq_getD_getElem?, Array.getElem?_setIfInBounds_ne (Ne.symm hkj)] using this
      · have hj' : listed.getD j false = true := by
          simpa [Array.getD_eq_getD_getElem?, Array.getElem?_setIfInBounds_ne (Ne.symm hji)] using hj
        refine ⟨by rw [hput i hi a v j hji]; exact (hF j hj').1, fun k hk => ?_⟩
        have := (hF j hj').2 k hk
        by_cases hki : k = i
        · subst hki; rw [hli] at this; cases this
        · simpa [Array.getD_eq_getD_getElem?, Array.getElem?_setIfInBounds_ne (Ne.symm hki)] using this
  · rintro listed a w ⟨hsz, hS, hSt, hF⟩ hr
    have hlist : ∀ i, i < ops.size → listed.getD i false = true := by
      intro i
      induction i using Nat.strongRecOn with
      | _ i ih =>
        intro hi
        obtain ⟨o, ho, hs, hdn, hlt, _, _⟩ := hall i hi
        by_cases h : listed.getD i true = true
        · simpa [Array.getD, hsz, hi] using h
        · have hf : listed.getD i true = false := by simpa using h
          have : i ∈ Region.ready .any ops listed := mem_ready.2 ⟨hf, o, ho, fun e he hb => ih _ (hlt e he hb) (Nat.lt_trans (hlt e he hb) hi)⟩
          rw [hr] at this; cases this
    exact hend (fun j => listed.getD j false) a w hS (fun i hi => ⟨hlist i hi, (hF i (hlist i hi)).1⟩) hSt
  · have e : (fun j => (Array.replicate ops.size false).getD j false) = fun _ => false := by
      funext j
      rcases Nat.lt_or_ge j ops.size with h | h
      · simp [Array.getD, h]
      · simp [Array.getD, Nat.not_lt.2 h]
    rw [e]; exact hstart
  · intro i hi
    rcases Nat.lt_or_ge i ops.size with h | h
    · simp [Array.getD, h] at hi
    · simp [Array.getD, Nat.not_lt.2 h] at hi

variable {G : Nat → Value → Prop} {S : (Nat → Bool) → (Nat → Value) → World → Prop} {l : Nat → Bool}

theorem val_put {i : Nat} {o : Oper} {a : Act} {d : Tmp} (ho : ops[i]? = some o) (hd : o.dst = some d) (hn : d < a.tmps.size) (v : Value) : val ops (a.put (slotOf ops i) v) i = v := by
  have hs : slotOf ops i = some d := by simp [slotOf, ho, hd]
  simp [val, hs, Act.put, Act.eval, Array.getD_eq_getD_getElem?, hn]
/-- The operation yields a value. -/
theorem steps_value {i : Nat} {o : Oper} {a : Act} {w w' : World} {v : Value} {d : Tmp} (ho : ops[i]? = some o) (hd : o.dst = some d) (hn : d < a.tmps.size) (hw : Region.wanted o (yielded ops a.tmps) = true)
    (hr : (execOp a.eval o).run P w = .ok (.value v) w') (hG : G i v) (hS : S (upd l i true) (upd (val ops a) i v) w') : Steps' P ops Q G S i l a w := by
  unfold Steps' wpOp
  simp only [ho, hw, if_true]
  refine .inl ?_
  unfold Oper.wp
  rw [hr, Oper.upon_value]
  have hv := val_put ho hd hn v
  have hs : slotOf ops i = o.dst := by simp [slotOf, ho]
  rw [hs] at hv ⊢
  exact ⟨v, rfl, by rw [hv]; exact hG, by rw [hv]; exact hS⟩
/-- The operation stores. -/
theorem steps_store {i : Nat} {o : Oper} {a : Act} {w w' : World} (ho : ops[i]? = some o) (hd : o.dst = none) (hw : Region.wanted o (yielded ops a.tmps) = true)
    (hr : (execOp a.eval o).run P w = .ok .skip w') (hG : G i undef) (hS : S (upd l i true) (upd (val ops a) i undef) w') : Steps' P ops Q G S i l a w := by
  unfold Steps' wpOp
  simp only [ho, hw, if_true]
  refine .inl ?_
  unfold Oper.wp
  rw [hr, Oper.upon_skip]
  have hs : slotOf ops i = none := by simp [slotOf, ho, hd]
  have hv : val ops (a.put o.dst undef) i = undef := by simp [val, hs]
  rw [hs]
  refine ⟨undef, by rw [hd], ?_, ?_⟩
  · rw [hv]; exact hG
  · rw [hv]; exact hS
/-- The operation calls a function. -/
theorem steps_call {i : Nat} {o : Oper} {a : Act} {w : World} {f : FuncId} {args : Array Value} {d : Tmp} (ho : ops[i]? = some o) (hd : o.dst = some d) (hn : d < a.tmps.size) (hw : Region.wanted o (yielded ops a.tmps) = true)
    (hr : (execOp a.eval o).run P w = .ok (.enter f args) w) (hc : Calls P f args w fun e w' => ∃ v, e = .returned v ∧ G i v ∧ S (upd l i true) (upd (val ops a) i v) w') : Steps' P ops Q G S i l a w := by
  unfold Steps' wpOp
  simp only [ho, hw, if_true]
  refine .inl ?_
  unfold Oper.wp
  rw [hr, Oper.upon_enter]
  refine hc.mono ?_
  rintro e w' ⟨v, rfl, hG, hS⟩
  have hv := val_put ho hd hn v
  have hs : slotOf ops i = o.dst := by simp [slotOf, ho]
  rw [hs] at hv ⊢
  exact ⟨v, rfl, by rw [hv]; exact hG, by rw [hv]; exact hS⟩
/-- The operation is met by a law of its own. -/
theorem steps_law {i : Nat} {o : Oper} {a : Act} {w : World} {d : Tmp} (ho : ops[i]? = some o) (hd : o.dst = some d) (hn : d < a.tmps.size)
    (hl : ∀ K : Act → World → Prop, (∀ v w', G i v → S (upd l i true) (upd (val ops a) i v) w' → K (a.put o.dst v) w') → if Region.wanted o (yielded ops a.tmps) = true then Oper.wp P o a w K Q else False) : Steps' P ops Q G S i l a w := by
  unfold Steps' wpOp
  have h := hl (fun a' w' => ∃ v, a' = a.put (slotOf ops i) v ∧ G i (val ops a' i) ∧ S (upd l i true) (upd (val ops a) i (val ops a' i)) w') (fun v w' hG hS => by
    have hv := val_put ho hd hn v
    have hs : slotOf ops i = o.dst := by simp [slotOf, ho]
    rw [hs] at hv ⊢
    exact ⟨v, rfl, by rw [hv]; exact hG, by rw [hv]; exact hS⟩)
  simp only [ho]
  by_cases hw : Region.wanted o (yielded ops a.tmps) = true
  · rw [if_pos hw] at h ⊢; exact .inl h
  · rw [if_neg hw] at h; exact h.elim
end
end Go.Proofs.YteddjlbfbpecjaaGreatDoor
