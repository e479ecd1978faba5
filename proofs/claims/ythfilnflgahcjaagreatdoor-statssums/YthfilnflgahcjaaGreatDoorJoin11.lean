/- Whatever order a region draws, where operations write: facts about values, and a state of the world that hangs on what has come up. What is reckoned from counts: how many relationships a node has. Something of each row. What is reckoned from counts: relationships of a node with a label. -/
import Derived.Test.YthfilnflgahcjaaGreatDoorFacts
import Derived.Test.YthfilnflgahcjaaGreatDoorJoin1
import Derived.Test.YthfilnflgahcjaaGreatDoorJoin7
import Derived.Test.YthfilnflgahcjaaGreatDoorJoin4
import Derived.Deep.Cut
import Derived.Test.YthfilnflgahcjaaGreatDoorJoin8
namespace Go.Proofs.YthfilnflgahcjaaGreatDoor
open Go.RowKit
set_option linter.unusedVariables false
def upd {α : Type} (f : Nat → α) (i : Nat) (x : α) : Nat → α := fun j => if j = i then x else f j
theorem upd_same {α : Type} (f : Nat → α) (i : Nat) (x : α) : upd f i x i = x := by simp [upd]
theorem upd_other {α : Type} (f : Nat → α) {i j : Nat} (x : α) (h : j ≠ i) : upd f i x j = f j := by simp [upd, h]
section
variable {P : Program} {ops : Array Oper} {Q : Exit → Act → World → Prop}
def writesOk (ops : Array Oper) (n : Nat) (A : Nat → List Nat) : Bool :=
  (List.range ops.size).all fun i =>
    match ops[i]? with
    | none => false
    | some o =>
      (o.after.all fun e => !Region.binds .any e || decide (e.on < i)) &&
      (match o.dst with
        | none => true
        | some d => decide (d < n) && (List.range i).all fun j => slotOf ops j != some d) &&
      (A i).all fun j => o.after.any fun e => Region.binds .any e && (e.on == j || (A e.on).contains j)
def Laid (ops : Array Oper) (n : Nat) (A : Nat → List Nat) : Prop :=
  ∀ i, i < ops.size → ∃ o, ops[i]? = some o ∧ slotOf ops i = o.dst ∧ (∀ d, o.dst = some d → d < n) ∧ (∀ e ∈ o.after, Region.binds .any e = true → e.on < i) ∧
      (∀ j d, j < i → o.dst = some d → slotOf ops j ≠ some d) ∧ (∀ j ∈ A i, ∃ e ∈ o.after, Region.binds .any e = true ∧ (e.on = j ∨ j ∈ A e.on))
theorem laid_of {n : Nat} {A : Nat → List Nat} (hok : writesOk ops n A = true) : Laid ops n A := by
  intro i hi
  have h := List.all_eq_true.1 hok i (List.mem_range.2 hi)
  have hoi : ops[i]? = some ops[i] := by simp [hi]
  rw [hoi] at h
  simp only [Bool.and_eq_true] at h
  obtain ⟨⟨h1, h2⟩, h3⟩ := h
  refine ⟨_, hoi, by simp [slotOf, hoi], ?_, ?_, ?_, ?_⟩
  · intro d hd
    rw [hd] at h2
    simp only [Bool.and_eq_true, decide_eq_true_eq] at h2
    exact h2.1
  · intro e he hb
    have := Array.all_eq_true_iff_forall_mem.1 h1 e he
    simpa [hb] using this
  · intro j d hj hd
    rw [hd] at h2
    simp only [Bool.and_eq_true, decide_eq_true_eq] at h2
    have := List.all_eq_true.1 h2.2 j (List.mem_range.2 hj)
    simpa using this
  · intro j hj
    have := List.all_eq_true.1 h3 j hj
    obtain ⟨k, hk, h⟩ := Array.any_eq_true.1 this
    simp only [Bool.and_eq_true, Bool.or_eq_true, beq_iff_eq, List.contains_iff_mem] at h
    exact ⟨_, Array.getElem_mem hk, h.1, h.2⟩
def WInv (ops : Array Oper) (A : Nat → List Nat) (G : Nat → Value → Prop) (S : (Nat → Bool) → (Nat → Value) → World → Prop) (base : Act) (listed : Array Bool) (a : Act) (w : World) : Prop :=
  listed.size = ops.size ∧ Same ops base a ∧ S (fun j => listed.getD j false) (val ops a) w ∧ ∀ i, listed.getD i false = true → G i (val ops a i) ∧ ∀ j ∈ A i, listed.getD j false = true
/-- What an operation's own step must do. -/
def Steps' (P : Program) (ops : Array Oper) (Q : Exit → Act → World → Prop) (G : Nat → Value → Prop) (S : (Nat → Bool) → (Nat → Value) → World → Prop) (i : Nat) (l : Nat → Bool) (a : Act) (w : World) : Prop :=
  wpOp P ops Q i (fun a' w' => ∃ v, a' = a.put (slotOf ops i) v ∧ G i (val ops a' i) ∧ S (upd l i true) (upd (val ops a) i (val ops a' i)) w') a w
theorem writes_rule {A : Nat → List Nat} {G : Nat → Value → Prop} {S : (Nat → Bool) → (Nat → Value) → World → Prop} {base : Act} {w0 : World} {id : Nat}
    (hm : P.follows .mixedOrders = true) (hok : writesOk ops base.tmps.size A = true)
    (hstart : S (fun _ => false) (val ops base) w0.drew)
    (hop : ∀ i, i < ops.size → ∀ l a w, Same ops base a → l i = false → (∀ k, l k = true → ∀ j ∈ A k, l j = true) → (∀ j ∈ A i, l j = true ∧ G j (val ops a j)) → S l (val ops a) w → Steps' P ops Q G S i l a w)
    (hend : ∀ l a w, Same ops base a → (∀ i, i < ops.size → l i = true ∧ G i (val ops a i)) → S l (val ops a) w → Q .normal a w) :
    (Code.region id ops true).wp P Q base w0 := by
  have hall := laid_of hok
  have hput : ∀ i, i < ops.size → ∀ (a : Act) (v : Value) (j : Nat), j ≠ i → val ops (a.put (slotOf ops i) v) j = val ops a j := by
    intro i hi a v j hji
    unfold val
    cases hj : slotOf ops j with
    | none => rfl
    | some d =>
      have hne : ∀ d', slotOf ops i = some d' → d' ≠ d := by
        intro d' hd' e
        subst e
        have hjs : j < ops.size := by
          rcases Nat.lt_or_ge j ops.size with h | h
          · exact h
          · unfold slotOf at hj; rw [Array.getElem?_eq_none h] at hj; cases hj
        obtain ⟨o, _, hs, _, _, hb, _⟩ := hall i hi
        obtain ⟨o', _, hs', _, _, hb', _⟩ := hall j hjs
        rcases Nat.lt_or_gt_of_ne hji with h | h
        · exact hb j d' h (hs ▸ hd') hj
        · exact hb' i d' h (hs' ▸ hj) hd'
      cases hi' : slotOf ops i with
      | none => simp [Act.put]
      | some d' => simp [Act.put, Act.eval, Array.getD_eq_getD_getElem?, Array.getElem?_setIfInBounds_ne (hne d' hi')]
  refine wp_region_any hm (wpAny_inv (WInv ops A G S base) ?_ ?_ _ _ _ _ (by rw [left_new]; exact Nat.le_refl _) ⟨by simp, ⟨rfl, rfl, fun _ _ => rfl⟩, ?_, ?_⟩)
  · rintro listed a w i ⟨hsz, hS, hSt, hF⟩ hr
    obtain ⟨hun, o', ho', hedges⟩ := mem_ready.1 hr
    have hi : i < ops.size := by
      rcases Nat.lt_or_ge i ops.size with h | h
      · exact h
      · rw [Array.getElem?_eq_none h] at ho'; cases ho'
    obtain ⟨o, ho, hs, hdn, _, _, hA⟩ := hall i hi
    have : o' = o := by rw [ho] at ho'; exact (Option.some.inj ho').symm
    subst this
    have hli : listed.getD i false = false := by simpa [Array.getD, hsz, hi] using hun
    have hAl : ∀ j ∈ A i, listed.getD j false = true := by
      intro j hj
      obtain ⟨e, he, hb, hor⟩ := hA j hj
      have hl := hedges e he hb
      rcases hor with rfl | h
      · exact hl
      · exact (hF _ hl).2 j h
    refine wpOp_mono ?_ (hop i hi (fun j => listed.getD j false) a w hS hli (fun k hk => (hF k hk).2) (fun j hj => ⟨hAl j hj, (hF j (hAl j hj)).1⟩) hSt)
    rintro a' w' ⟨v, rfl, hG, hS'⟩
    have hl' : (fun j => (listed.setIfInBounds i true).getD j false) = upd (fun j => listed.getD j false) i true := by
      funext j
      by_cases hji : j = i
      · subst hji; rw [upd_same]; simp [Array.getD_eq_getD_getElem?, hsz, hi]
      · rw [upd_other _ _ hji]; simp [Array.getD_eq_getD_getElem?, Array.getElem?_setIfInBounds_ne (Ne.symm hji)]
    have hv' : val ops (a.put (slotOf ops i) v) = upd (val ops a) i (val ops (a.put (slotOf ops i) v) i) := by
      funext j
      by_cases hji : j = i
      · subst hji; rw [upd_same]
      · rw [upd_other _ _ hji]; exact hput i hi a v j hji
    refine ⟨by simp [hsz], ⟨?_, ?_, fun k hk => ?_⟩, ?_, fun j hj => ?_⟩
    · cases slotOf ops i <;> simp [Act.put] <;> exact hS.1
    · cases slotOf ops i <;> simp [Act.put] <;> exact hS.2.1
    · have hne := hk i hi
      cases hsi : slotOf ops i with
      | none => simp [Act.put]; exact hS.2.2 k hk
      | some d =>
        have : d ≠ k := fun e => hne (by rw [hsi, e])
        simp only [Act.put, Array.getElem?_setIfInBounds_ne this]
        exact hS.2.2 k hk
    · rw [hl', hv']; exact hS'
    · by_cases hji : j = i
      · subst hji
        refine ⟨hG, fun k hk => ?_⟩
        have := hAl k hk
        by_cases hkj : k = j
        · subst hkj; rw [hli] at this; cases this
        · simpa [Array.getD_eq_getD_getElem?, Array.getElem?_setIfInBounds_ne (Ne.symm hkj)] using this
      · have hj' : listed.getD j false = true := by
          simpa [Array.getD_eq_getD_getElem?, Array.getElem?_setIfInBounds_ne (Ne.symm hji)] using hj
        refine ⟨by rw [hput i hi a v j hji]; exact (hF j hj').1, fun k hk => ?_⟩
        have := (hF j hj').2 k hk
        by_cases hki : k = i
        · subst hki; rw [hli] at this; cases this
        · simpa [Array.getD_eq_getD_getElem?, Array.getElem?_setIfInBounds_ne (Ne.symm hki)] using this
  · rintro listed a w ⟨hsz, hS, hSt, hF⟩ hr
    have hlist : ∀ i, i < ops.size → listed.getD i false = true := by
      intro i
      induction i using Nat.strongRecOn with
      | _ i ih =>
        intro hi
        obtain ⟨o, ho, hs, hdn, hlt, _, _⟩ := hall i hi
        by_cases h : listed.getD i true = true
        · simpa [Array.getD, hsz, hi] using h
        · have hf : listed.getD i true = false := by simpa using h
          have : i ∈ Region.ready .any ops listed := mem_ready.2 ⟨hf, o, ho, fun e he hb => ih _ (hlt e he hb) (Nat.lt_trans (hlt e he hb) hi)⟩
          rw [hr] at this; cases this
    exact hend (fun j => listed.getD j false) a w hS (fun i hi => ⟨hlist i hi, (hF i (hlist i hi)).1⟩) hSt
  · have e : (fun j => (Array.replicate ops.size false).getD j false) = fun _ => false := by
      funext j
      rcases Nat.lt_or_ge j ops.size with h | h
      · simp [Array.getD, h]
      · simp [Array.getD, Nat.not_lt.2 h]
    rw [e]; exact hstart
  · intro i hi
    rcases Nat.lt_or_ge i ops.size with h | h
    · simp [Array.getD, h] at hi
    · simp [Array.getD, Nat.not_lt.2 h] at hi
variable {G : Nat → Value → Prop} {S : (Nat → Bool) → (Nat → Value) → World → Prop} {l : Nat → Bool}
theorem val_put {i : Nat} {o : Oper} {a : Act} {d : Tmp} (ho : ops[i]? = some o) (hd : o.dst = some d) (hn : d < a.tmps.size) (v : Value) : val ops (a.put (slotOf ops i) v) i = v := by
  have hs : slotOf ops i = some d := by simp [slotOf, ho, hd]
  simp [val, hs, Act.put, Act.eval, Array.getD_eq_getD_getElem?, hn]
/-- The operation yields a value. -/
theorem steps_value {i : Nat} {o : Oper} {a : Act} {w w' : World} {v : Value} {d : Tmp} (ho : ops[i]? = some o) (hd : o.dst = some d) (hn : d < a.tmps.size) (hw : Region.wanted o (yielded ops a.tmps) = true)
    (hr : (execOp a.eval o).run P w = .ok (.value v) w') (hG : G i v) (hS : S (upd l i true) (upd (val ops a) i v) w') : Steps' P ops Q G S i l a w := by
  unfold Steps' wpOp
  simp only [ho, hw, if_true]
  refine .inl ?_
  unfold Oper.wp
  rw [hr, Oper.upon_value]
  have hv := val_put ho hd hn v
  have hs : slotOf ops i = o.dst := by simp [slotOf, ho]
  rw [hs] at hv ⊢
  exact ⟨v, rfl, by rw [hv]; exact hG, by rw [hv]; exact hS⟩
/-- The operation calls a function. -/
theorem steps_call {i : Nat} {o : Oper} {a : Act} {w : World} {f : FuncId} {args : Array Value} {d : Tmp} (ho : ops[i]? = some o) (hd : o.dst = some d) (hn : d < a.tmps.size) (hw : Region.wanted o (yielded ops a.tmps) = true)
    (hr : (execOp a.eval o).run P w = .ok (.enter f args) w) (hc : Calls P f args w fun e w' => ∃ v, e = .returned v ∧ G i v ∧ S (upd l i true) (upd (val ops a) i v) w') : Steps' P ops Q G S i l a w := by
  unfold Steps' wpOp
  simp only [ho, hw, if_true]
  refine .inl ?_
  unfold Oper.wp
  rw [hr, Oper.upon_enter]
  refine hc.mono ?_
  rintro e w' ⟨v, rfl, hG, hS⟩
  have hv := val_put ho hd hn v
  have hs : slotOf ops i = o.dst := by simp [slotOf, ho]
  rw [hs] at hv ⊢
  exact ⟨v, rfl, by rw [hv]; exact hG, by rw [hv]; exact hS⟩
/-- The operation is met by a law of its own. -/
theorem steps_law {i : Nat} {o : Oper} {a : Act} {w : World} {d : Tmp} (ho : ops[i]? = some o) (hd : o.dst = some d) (hn : d < a.tmps.size)
    (hl : ∀ K : Act → World → Prop, (∀ v w', G i v → S (upd l i true) (upd (val ops a) i v) w' → K (a.put o.dst v) w') → if Region.wanted o (yielded ops a.tmps) = true then Oper.wp P o a w K Q else False) : Steps' P ops Q G S i l a w := by
  unfold Steps' wpOp
  have h := hl (fun a' w' => ∃ v, a' = a.put (slotOf ops i) v ∧ G i (val ops a' i) ∧ S (upd l i true) (upd (val ops a) i (val ops a' i)) w') (fun v w' hG hS => by
    have hv := val_put ho hd hn v
    have hs : slotOf ops i = o.dst := by simp [slotOf, ho]
    rw [hs] at hv ⊢
    exact ⟨v, rfl, by rw [hv]; exact hG, by rw [hv]; exact hS⟩)
  simp only [ho]
  by_cases hw : Region.wanted o (yielded ops a.tmps) = true
  · rw [if_pos hw] at h ⊢; exact .inl h
  · rw [if_neg hw] at h; exact h.elim
end
end Go.Proofs.YthfilnflgahcjaaGreatDoor

namespace Go.Proofs.YthfilnflgahcjaaGreatDoor
open Go.RowKit Go.Shelf Go.Maps
set_option linter.unusedVariables false
set_option linter.unusedSimpArgs false
attribute [local go_sem] Oper.semAt_some
def fanI (s : StatP) (dir : Int) (ts : List ByteArray) : Int := shareI (if dir = 0 then plusI [typedI s ts, typedI s ts] else typedI s ts) (cutI s.nodes)
set_option maxRecDepth 100000 in
set_option maxHeartbeats 4000000 in
theorem fan_any (s : StatP) (vl vt ve vk vs : Value) (dir : Int) (ls : List ByteArray) (B : Nat) (w : World) (hB : B ≤ w.heap.size) (h : StatL B w vl vt ve vk s) (hs : SRow 1 strE B w vs ls) (hok : ∀ x ∈ ls, okS x) (hl : ls.length ≤ 100000) : Calls Tryz.prog 26 #[statV s vl vt ve vk, .int .i64 dir, vs] w fun e w' => e = .returned (.int .i64 (fanI s dir ls)) ∧ Below w.heap.size w w' := by
  have HT : Hid (∀ W, Below w.heap.size w W → Calls Tryz.prog 20 #[statV s vl vt ve vk, vs] W fun e w' => e = .returned (.int .i64 (typedI s ls)) ∧ Below W.heap.size W w') := fun W hb => typed_any s vl vt ve vk vs ls B W (Nat.le_trans hB hb.size) (h.keep (hb.mono hB)) (hs.keep (hb.mono hB)) hok hl
  have HA : Hid (∀ W, Below w.heap.size w W → Calls Tryz.prog 17 #[statV s vl vt ve vk] W fun e w' => e = .returned (.int .i64 (cutI s.nodes)) ∧ Below W.heap.size W w') := fun W hb => all_any s vl vt ve vk B W (h.keep (hb.mono hB))
  unfold fanI
  obtain ⟨t, ht⟩ : ∃ t, typedI s ls = t := ⟨_, rfl⟩
  obtain ⟨c, hc⟩ : ∃ c, cutI s.nodes = c := ⟨_, rfl⟩
  rw [ht] at HT ⊢
  rw [hc] at HA ⊢
  clear ht hc
  obtain ⟨res, hres⟩ : ∃ r, shareI (if dir = 0 then plusI [t, t] else t) c = r := ⟨_, rfl⟩
  rw [hres]
  have HRES := hidE hres
  clear hres
  have HSH : Hid (∀ a W, Calls Tryz.prog 32 #[.int .i64 a, .int .i64 c] W fun e w' => e = .returned (.int .i64 (shareI a c)) ∧ w' = W) := fun a W => share_any a c W
  obtain ⟨la, lc, rfl, _⟩ := h.hl
  obtain ⟨ta, tc, rfl, _⟩ := h.ht
  obtain ⟨ea, ec, rfl, _⟩ := h.he
  obtain ⟨ka, kc, rfl, _⟩ := h.hk
  obtain ⟨sa, sc, rfl, _⟩ := hs
  unfold statV at *
  generalize s.nodes = n at *
  generalize s.rels = r at *
  generalize s.labels.length = l1 at *
  generalize s.types.length = l2 at *
  generalize s.ends.length = l3 at *
  generalize s.keys.length = l4 at *
  generalize ls.length = l5 at *
  clear h hok
  have hW : Below w.heap.size w (w.alloc (.cells #[.int .i64 n, .int .i64 r, .slice la l1 lc, .slice ta l2 tc, .slice ea l3 ec, .slice ka l4 kc] 33)) := (Below.refl _ _).alloc (Nat.le_refl _) _
  have hsz : w.heap.size < (w.alloc (.cells #[.int .i64 n, .int .i64 r, .slice la l1 lc, .slice ta l2 tc, .slice ea l3 ec, .slice ka l4 kc] 33)).heap.size := by simp
  have e0 : (w.alloc (.cells #[.int .i64 n, .int .i64 r, .slice la l1 lc, .slice ta l2 tc, .slice ea l3 ec, .slice ka l4 kc] 33)).cell? ⟨w.heap.size, 0, none⟩ = some (.int .i64 n) := cell_new _ _ _ _ _ rfl
  have e1 : (w.alloc (.cells #[.int .i64 n, .int .i64 r, .slice la l1 lc, .slice ta l2 tc, .slice ea l3 ec, .slice ka l4 kc] 33)).cell? ⟨w.heap.size, 1, none⟩ = some (.int .i64 r) := cell_new _ _ _ _ _ rfl
  have e2 : (w.alloc (.cells #[.int .i64 n, .int .i64 r, .slice la l1 lc, .slice ta l2 tc, .slice ea l3 ec, .slice ka l4 kc] 33)).cell? ⟨w.heap.size, 2, none⟩ = some (.slice la l1 lc) := cell_new _ _ _ _ _ rfl
  have e3 : (w.alloc (.cells #[.int .i64 n, .int .i64 r, .slice la l1 lc, .slice ta l2 tc, .slice ea l3 ec, .slice ka l4 kc] 33)).cell? ⟨w.heap.size, 3, none⟩ = some (.slice ta l2 tc) := cell_new _ _ _ _ _ rfl
  have e4 : (w.alloc (.cells #[.int .i64 n, .int .i64 r, .slice la l1 lc, .slice ta l2 tc, .slice ea l3 ec, .slice ka l4 kc] 33)).cell? ⟨w.heap.size, 4, none⟩ = some (.slice ea l3 ec) := cell_new _ _ _ _ _ rfl
  have e5 : (w.alloc (.cells #[.int .i64 n, .int .i64 r, .slice la l1 lc, .slice ta l2 tc, .slice ea l3 ec, .slice ka l4 kc] 33)).cell? ⟨w.heap.size, 5, none⟩ = some (.slice ka l4 kc) := cell_new _ _ _ _ _ rfl
  go_enter Tryz.func26, Tryz.ntmps26
  go_upto_region 1 with fail
  obtain ⟨W1, hW1⟩ : ∃ W, w.alloc (.cells #[.int .i64 n, .int .i64 r, .slice la l1 lc, .slice ta l2 tc, .slice ea l3 ec, .slice ka l4 kc] 33) = W := ⟨_, rfl⟩
  rw [hW1] at hW hsz e0 e1 e2 e3 e4 e5 ⊢
  have HW0 := hidE hW
  have HZ := hidE hsz
  clear hW1 hW hsz
  go_upto_region 2 with (go_at_call 20; refine (HT.out _ HW0.out).mono ?_; rintro e W2 ⟨rfl, hb2⟩)
  replace e0 := (hb2.cell (p := ⟨w.heap.size, 0, none⟩) HZ.out).trans e0
  replace e1 := (hb2.cell (p := ⟨w.heap.size, 1, none⟩) HZ.out).trans e1
  replace e2 := (hb2.cell (p := ⟨w.heap.size, 2, none⟩) HZ.out).trans e2
  replace e3 := (hb2.cell (p := ⟨w.heap.size, 3, none⟩) HZ.out).trans e3
  replace e4 := (hb2.cell (p := ⟨w.heap.size, 4, none⟩) HZ.out).trans e4
  replace e5 := (hb2.cell (p := ⟨w.heap.size, 5, none⟩) HZ.out).trans e5
  have HB2 : Hid (Below w.heap.size w W2) := HW0.out.trans (hb2.mono HW0.out.size)
  have HZ2 : Hid (w.heap.size < W2.heap.size) := Nat.lt_of_lt_of_le HZ.out hb2.size
  clear hb2
  by_cases hd : dir = 0
  · subst hd
    have HR0 : Hid (res = shareI (plusI [t, t]) c) := by show _ = _; rw [← HRES.out, if_pos rfl]
    have HP := hidE (plus_any [t, t] _ _ _ (Nat.le_refl _) (srow_new (k := 1) (enc := intE) (fun _ => rfl) W2 [t, t] #[.int .i64 t, .int .i64 t] 2 rfl (show 2 ≤ 9223372036854775807 by decide)))
    have hb3 : Below w.heap.size w (W2.alloc (.cells #[.int .i64 t, .int .i64 t] 2)) := HB2.out.alloc HB2.out.size _
    have HB3 := hidE hb3
    have hb4 : Below W2.heap.size W2 (W2.alloc (.cells #[.int .i64 t, .int .i64 t] 2)) := (Below.refl _ _).alloc (Nat.le_refl _) _
    replace e0 := (hb4.cell (p := ⟨w.heap.size, 0, none⟩) HZ2.out).trans e0
    replace e1 := (hb4.cell (p := ⟨w.heap.size, 1, none⟩) HZ2.out).trans e1
    replace e2 := (hb4.cell (p := ⟨w.heap.size, 2, none⟩) HZ2.out).trans e2
    replace e3 := (hb4.cell (p := ⟨w.heap.size, 3, none⟩) HZ2.out).trans e3
    replace e4 := (hb4.cell (p := ⟨w.heap.size, 4, none⟩) HZ2.out).trans e4
    replace e5 := (hb4.cell (p := ⟨w.heap.size, 5, none⟩) HZ2.out).trans e5
    clear hb3 hb4
    go_wp2_with (first
      | (go_at_call 34; refine HP.out.mono ?_; rintro e _ ⟨rfl, rfl⟩)
      | (go_at_call 17; refine (HA.out _ HB3.out).mono ?_; rintro e W4 ⟨rfl, hb4⟩; have HB4 := hidE (HB3.out.trans (hb4.mono HB3.out.size)); clear hb4)
      | (go_at_call 32; refine (HSH.out _ _).mono ?_; rintro e _ ⟨rfl, rfl⟩))
    go_ret
    exact ⟨by rw [HR0.out]; rfl, HB4.out⟩
  · have hd2 : (dir == 0) = false := beq_eq_false_iff_ne.2 hd
    have HR0 : Hid (res = shareI t c) := by show _ = _; rw [← HRES.out, if_neg hd]
    go_wp2_with (first
      | (go_at_call 17; refine (HA.out _ HB2.out).mono ?_; rintro e W4 ⟨rfl, hb4⟩; have HB4 := hidE (HB2.out.trans (hb4.mono HB2.out.size)); clear hb4)
      | (go_at_call 32; refine (HSH.out _ _).mono ?_; rintro e _ ⟨rfl, rfl⟩))
    go_ret
    exact ⟨by rw [HR0.out]; rfl, HB4.out⟩
end Go.Proofs.YthfilnflgahcjaaGreatDoor

namespace Go.Proofs.YthfilnflgahcjaaGreatDoor
open Go.RowKit Go.Shelf Go.Maps
set_option linter.unusedVariables false
set_option linter.unusedSimpArgs false
attribute [local go_sem] Oper.semAt_some
set_option maxRecDepth 100000 in
set_option maxHeartbeats 4000000 in
theorem f64_any (rows : List (ByteArray × Int)) (vr : Value) (B : Nat) (w : World) (hB : B ≤ w.heap.size) (hr : SRow 2 labC B w vr rows) (hrl : rows.length ≤ 100000) :
    Calls Tryz.prog 64 #[vr, .func (.func 59) #[] #[]] w fun e w' => ∃ v, e = .returned v ∧ ORow 9 1 strE w.heap.size w' v (rows.map (fun x : ByteArray × Int => x.1)) ∧ Below w.heap.size w w' := by
  obtain ⟨ra, rc, rfl, r1, r2, r3⟩ := hr
  have HR3 := hidE r3
  obtain ⟨m, hm⟩ : ∃ n, rows.length = n := ⟨_, rfl⟩
  have HM := hidE hm
  rw [hm] at r1 hrl ⊢
  clear r3 hm
  go_enter Tryz.func64, Tryz.ntmps64
  go_wp2_with fail
  go_loopw [5, 10] (fun v i wr => ∃ j : Nat, j ≤ m ∧ i = .int .i64 j ∧ Below w.heap.size w wr ∧ ORow 9 1 strE w.heap.size wr v ((rows.take j).map (fun x : ByteArray × Int => x.1))) (fun _ i _ => m - (intOf i).toNat)
  case atStart => exact ⟨0, Nat.zero_le _, rfl, Below.refl _ _, orow_nil _ _ _ _ _⟩
  case round =>
    obtain ⟨j, hj, rfl, hbr, hor⟩ := hrel
    have HBR := hidE hbr
    have HOR := hidE hor
    clear hbr hor
    by_cases hlt : j < m
    · have hlt' : (j : Int) < m := by omega
      obtain ⟨⟨s, q⟩, hx⟩ : ∃ q, rows[j]? = some q := ⟨_, List.getElem?_eq_getElem (by have := HM.out; omega)⟩
      obtain ⟨bl, off, rfl, hbl, hc⟩ := HR3.out.resolve_left (by intro e; rw [e] at hx; simp at hx)
      have c0 := (HBR.out.cell (p := ⟨bl, off + j * 2 + 0, none⟩) (show bl < w.heap.size by omega)).trans (hc j (s, q) hx 0 _ rfl)
      have c1 := (HBR.out.cell (p := ⟨bl, off + j * 2 + 1, none⟩) (show bl < w.heap.size by omega)).trans (hc j (s, q) hx 1 _ rfl)
      rw [Nat.add_zero] at c0
      simp only at c0 c1
      have HX := hidE hx
      clear hx hc
      have HA : Hid (Below wr.heap.size wr (wr.alloc (.cells #[.string s, .int .i64 q] 62))) := (Below.refl _ _).alloc (Nat.le_refl _) _
      go_wp2_with (first
        | (go_at_call 59; refine (f59_any s q _).mono ?_; rintro e W2 ⟨rfl, hb2⟩
           have hs2 : w.heap.size ≤ W2.heap.size := Nat.le_trans HBR.out.size (Nat.le_trans HA.out.size hb2.size)
           obtain ⟨v6, W6, p1, p2, p3, p4⟩ := append_one (ty := 43) (c := 1) (bl := W2.heap.size) (off := 0) (x := s) elem43 (fun x => rfl) one_str (((HOR.out.below HA.out).below hb2).below ((Below.refl _ _).alloc (Nat.le_refl _) (.cells #[.string s] 9))) (fun jj u hu => by
             rw [Nat.zero_add]
             exact cell_new _ _ _ _ _ (by simpa [strE] using hu)) (by rw [List.length_map, List.length_take]; omega) (by simp; omega)
           have HP := hidE (And.intro p2 (And.intro p3 hb2))
           clear p2 p3 p4 hb2)
        | (at_builtin; refine Lib.wpList_append_run _ rfl _ _ _ _ rfl _ _ rfl rfl _ _ p1 ?_))
      go_roundw
      case rel =>
        obtain ⟨p2, p3, hb2⟩ := HP.out
        refine ⟨j + 1, by omega, by go_num, ?_, ?_⟩
        · have h1 := HBR.out.trans (HA.out.mono HBR.out.size)
          have h2 := h1.trans (hb2.mono h1.size)
          have h3 : Below w.heap.size w (W2.alloc (.cells #[.string s] 9)) := h2.alloc h2.size _
          exact h3.trans p3
        · rw [List.take_add_one, HX.out, List.map_append]
          exact p2
      case measure => simp [intOf]; omega
    · have hlt' : ¬ (j : Int) < m := by omega
      have HL := HOR.out
      rw [List.take_of_length_le (by have := HM.out; omega)] at HL
      have HL := hidE HL
      go_wp2_with fail
      go_ret
      exact ⟨_, rfl, HL.out, HBR.out⟩
end Go.Proofs.YthfilnflgahcjaaGreatDoor

namespace Go.Proofs.YthfilnflgahcjaaGreatDoor
open Go.RowKit Go.Shelf Go.Maps
set_option linter.unusedVariables false
set_option linter.unusedSimpArgs false
attribute [local go_sem] Oper.semAt_some
def fromI (s : StatP) (lab : ByteArray) (dir : Int) (ts : List ByteArray) : Int :=
  let T := if ts = [] then s.types.map (fun x => x.1) else ts
  shareI (if dir ≤ 0 then plusI [if 0 ≤ dir then plusI [0, endedI s lab true T] else 0, endedI s lab false T] else (if 0 ≤ dir then plusI [0, endedI s lab true T] else 0)) (labelledI s [lab])
set_option maxRecDepth 100000 in
set_option maxHeartbeats 8000000 in
theorem from_any (s : StatP) (vl vt ve vk vs : Value) (lab : ByteArray) (dir : Int) (ls : List ByteArray) (B : Nat) (w : World) (hB : B ≤ w.heap.size) (h : StatL B w vl vt ve vk s) (hs : SRow 1 strE B w vs ls) (hlab : okS lab) (hok : ∀ x ∈ ls, okS x) (hl : ls.length ≤ 100000) : Calls Tryz.prog 28 #[statV s vl vt ve vk, .string lab, .int .i64 dir, vs] w fun e w' => e = .returned (.int .i64 (fromI s lab dir ls)) ∧ Below w.heap.size w w' := by
  obtain ⟨T, hT⟩ : ∃ T, (if ls = [] then s.types.map (fun x => x.1) else ls) = T := ⟨_, rfl⟩
  have HTO : ∀ x ∈ T, okS x := by
    intro x hx
    rw [← hT] at hx
    split at hx
    · obtain ⟨y, hy, rfl⟩ := List.mem_map.1 hx
      exact h.ot y hy
    · exact hok x hx
  have HTL : T.length ≤ 100000 := by
    rw [← hT]
    split
    · rw [List.length_map]; exact h.nt
    · exact hl
  have HE1 : Hid (∀ W v, Below w.heap.size w W → SRow 1 strE W.heap.size W v T → Calls Tryz.prog 61 #[statV s vl vt ve vk, .string lab, .bool true, v] W fun e w' => e = .returned (.int .i64 (endedI s lab true T)) ∧ Below W.heap.size W w') := fun W v hb hv => endedAll_any s vl vt ve vk v lab true T _ W (Nat.le_refl _) (h.up (hb.mono hB) (Nat.le_trans hB hb.size)) hv hlab HTO HTL
  have HE2 : Hid (∀ W v, Below w.heap.size w W → SRow 1 strE W.heap.size W v T → Calls Tryz.prog 61 #[statV s vl vt ve vk, .string lab, .bool false, v] W fun e w' => e = .returned (.int .i64 (endedI s lab false T)) ∧ Below W.heap.size W w') := fun W v hb hv => endedAll_any s vl vt ve vk v lab false T _ W (Nat.le_refl _) (h.up (hb.mono hB) (Nat.le_trans hB hb.size)) hv hlab HTO HTL
  have HL : Hid (∀ W, Below w.heap.size w W → Calls Tryz.prog 19 #[statV s vl vt ve vk, .slice (some ⟨W.heap.size, 0, none⟩) 1 1] (W.alloc (.cells #[.string lab] 9)) fun e w' => e = .returned (.int .i64 (labelledI s [lab])) ∧ Below (W.alloc (.cells #[.string lab] 9)).heap.size (W.alloc (.cells #[.string lab] 9)) w') := fun W hb => labelled_any s vl vt ve vk _ [lab] _ _ (Nat.le_refl _) ((h.up (hb.mono hB) (Nat.le_trans hB hb.size)).up (below_new _ _) (below_new W _).size) (srow_new (k := 1) (enc := strE) (fun _ => rfl) W [lab] #[.string lab] 9 rfl (show 1 ≤ 9223372036854775807 by decide)) (fun x hx => by simp only [List.mem_cons, List.not_mem_nil, or_false] at hx; rw [hx]; exact hlab) (show 1 ≤ 100000 by decide)
  have H64 : Hid (∀ W, Below w.heap.size w W → Calls Tryz.prog 64 #[vt, .func (.func 59) #[] #[]] W fun e w' => ∃ v, e = .returned v ∧ ORow 9 1 strE W.heap.size w' v (s.types.map fun x => x.1) ∧ Below W.heap.size W w') := fun W hb => f64_any s.types vt B W (Nat.le_trans hB hb.size) (h.ht.keep (hb.mono hB)) h.nt
  have HFR : fromI s lab dir ls = shareI (if dir ≤ 0 then plusI [if 0 ≤ dir then plusI [0, endedI s lab true T] else 0, endedI s lab false T] else (if 0 ≤ dir then plusI [0, endedI s lab true T] else 0)) (labelledI s [lab]) := by
    unfold fromI
    rw [hT]
  rw [HFR]
  clear HFR
  obtain ⟨E1, hE1⟩ : ∃ E, endedI s lab true T = E := ⟨_, rfl⟩
  obtain ⟨E2, hE2⟩ : ∃ E, endedI s lab false T = E := ⟨_, rfl⟩
  obtain ⟨L, hL⟩ : ∃ E, labelledI s [lab] = E := ⟨_, rfl⟩
  rw [hE1] at HE1 ⊢
  rw [hE2] at HE2 ⊢
  rw [hL] at HL ⊢
  clear hE1 hE2 hL HTO HTL
  obtain ⟨res, hres⟩ : ∃ r, shareI (if dir ≤ 0 then plusI [if 0 ≤ dir then plusI [0, E1] else 0, E2] else (if 0 ≤ dir then plusI [0, E1] else 0)) L = r := ⟨_, rfl⟩
  rw [hres]
  have HRES : Hid (shareI (if 0 ≤ dir then (if dir ≤ 0 then plusI [plusI [0, E1], E2] else plusI [0, E1]) else (if dir ≤ 0 then plusI [0, E2] else 0)) L = res) := by
    show _ = _
    rw [← hres]
    by_cases d1 : 0 ≤ dir <;> by_cases d2 : dir ≤ 0 <;> simp only [d1, d2, if_true, if_false]
  have HSH : Hid (∀ a W, Calls Tryz.prog 32 #[.int .i64 a, .int .i64 L] W fun e w' => e = .returned (.int .i64 (shareI a L)) ∧ w' = W) := fun a W => share_any a L W
  have HS := hidE (fun W (hb : Below w.heap.size w W) => (hs.keep (hb.mono hB)).mono (Nat.le_trans hB hb.size))
  clear hres
  obtain ⟨la, lc, rfl, _⟩ := h.hl
  obtain ⟨ta, tc, rfl, _⟩ := h.ht
  obtain ⟨ea, ec, rfl, _⟩ := h.he
  obtain ⟨ka, kc, rfl, _⟩ := h.hk
  obtain ⟨sa, sc, rfl, _⟩ := hs
  unfold statV at *
  generalize s.nodes = n at *
  generalize s.rels = r at *
  generalize s.labels.length = l1 at *
  generalize s.types.length = l2 at *
  generalize s.ends.length = l3 at *
  generalize s.keys.length = l4 at *
  clear h hok
  by_cases h0 : ls = []
  · subst h0
    rw [if_pos rfl] at hT
    rw [hT] at H64
    simp only [List.length_nil]
    clear HS hT
    go_enter Tryz.func28, Tryz.ntmps28
    go_upto_region 1 with fail
    have HW0 := hidE (below_new w (.cells #[.int .i64 n, .int .i64 r, .slice la l1 lc, .slice ta l2 tc, .slice ea l3 ec, .slice ka l4 kc] 33))
    have HX0 := hidE (sbox_new w (.int .i64 n) (.int .i64 r) (.slice la l1 lc) (.slice ta l2 tc) (.slice ea l3 ec) (.slice ka l4 kc) 33)
    obtain ⟨W1, hW1⟩ : ∃ W, w.alloc (.cells #[.int .i64 n, .int .i64 r, .slice la l1 lc, .slice ta l2 tc, .slice ea l3 ec, .slice ka l4 kc] 33) = W := ⟨_, rfl⟩
    rw [hW1] at HW0 HX0 ⊢
    clear hW1
    obtain ⟨_, e0, e1, e2, e3, e4, e5⟩ := HX0.out
    go_upto_region 3 with (go_at_call 64; refine (H64.out _ HW0.out).mono ?_; rintro e W3 ⟨v3, rfl, ho3, hb3⟩; have HBW3 := hidE (Below.on HW0.out hb3); have HXW3 := hidE (HX0.out.keep hb3); have HTW3 := hidE (ORow.srow (enc := strE) (k := 1) (fun _ => rfl) ho3); obtain ⟨va, vc, rfl⟩ := ho3.slice; clear hb3 ho3)
    clear e0 e1 e2 e3 e4 e5
    generalize T.length = lT at *
    by_cases d1 : 0 ≤ dir
    · by_cases d2 : dir ≤ 0
      · have HR0 : Hid (res = shareI (plusI [plusI [0, E1], E2]) L) := by show _ = _; rw [← HRES.out, if_pos d1, if_pos d2]
        obtain ⟨_, e0, e1, e2, e3, e4, e5⟩ := HXW3.out
        go_upto_region 6 with (first
          | (go_at_call 61; refine (HE1.out _ _ HBW3.out HTW3.out).mono ?_; rintro e QWa ⟨rfl, hb⟩
             have HBWa := hidE (Below.on (Below.on HBW3.out hb) (below_new QWa (.cells #[.int .i64 0, .int .i64 E1] 2)))
             have HXWa := hidE ((HXW3.out.keep hb).keep (below_new QWa (.cells #[.int .i64 0, .int .i64 E1] 2)))
             have HTWa : Hid (SRow 1 strE (QWa.alloc (.cells #[.int .i64 0, .int .i64 E1] 2)).heap.size (QWa.alloc (.cells #[.int .i64 0, .int .i64 E1] 2)) _ T) := (HTW3.out.up hb hb.size).up (below_new QWa _) (below_new QWa _).size
             have HPWa := hidE (plus_any [0, E1] _ _ _ (Nat.le_refl _) (srow_new (k := 1) (enc := intE) (fun _ => rfl) QWa [0, E1] #[.int .i64 0, .int .i64 E1] 2 rfl (show 2 ≤ 9223372036854775807 by decide)))
             clear hb)
          | (go_at_call 34; refine HPWa.out.mono ?_; rintro e _ ⟨rfl, rfl⟩))
        obtain ⟨Wa, hWa⟩ : ∃ W, (QWa.alloc (.cells #[.int .i64 0, .int .i64 E1] 2)) = W := ⟨_, rfl⟩
        rw [hWa] at HBWa HXWa HTWa ⊢
        clear hWa e0 e1 e2 e3 e4 e5
        obtain ⟨_, e0, e1, e2, e3, e4, e5⟩ := HXWa.out
        go_upto_region 8 with (first
          | (go_at_call 61; refine (HE2.out _ _ HBWa.out HTWa.out).mono ?_; rintro e QWb ⟨rfl, hb⟩
             have HBWb := hidE (Below.on (Below.on HBWa.out hb) (below_new QWb (.cells #[.int .i64 (plusI [0, E1]), .int .i64 E2] 2)))
             have HXWb := hidE ((HXWa.out.keep hb).keep (below_new QWb (.cells #[.int .i64 (plusI [0, E1]), .int .i64 E2] 2)))
             have HTWb : Hid (SRow 1 strE (QWb.alloc (.cells #[.int .i64 (plusI [0, E1]), .int .i64 E2] 2)).heap.size (QWb.alloc (.cells #[.int .i64 (plusI [0, E1]), .int .i64 E2] 2)) _ T) := (HTWa.out.up hb hb.size).up (below_new QWb _) (below_new QWb _).size
             have HPWb := hidE (plus_any [(plusI [0, E1]), E2] _ _ _ (Nat.le_refl _) (srow_new (k := 1) (enc := intE) (fun _ => rfl) QWb [(plusI [0, E1]), E2] #[.int .i64 (plusI [0, E1]), .int .i64 E2] 2 rfl (show 2 ≤ 9223372036854775807 by decide)))
             clear hb)
          | (go_at_call 34; refine HPWb.out.mono ?_; rintro e _ ⟨rfl, rfl⟩))
        obtain ⟨Wb, hWb⟩ : ∃ W, (QWb.alloc (.cells #[.int .i64 (plusI [0, E1]), .int .i64 E2] 2)) = W := ⟨_, rfl⟩
        rw [hWb] at HBWb HXWb HTWb ⊢
        clear hWb e0 e1 e2 e3 e4 e5
        obtain ⟨_, e0, e1, e2, e3, e4, e5⟩ := HXWb.out
        go_wp2_with (first
          | (go_at_call 19; refine (HL.out _ HBWb.out).mono ?_; rintro e WF ⟨rfl, hb⟩; have HBF := hidE (Below.on (Below.on HBWb.out (below_new _ _)) hb); clear hb)
          | (go_at_call 32; refine (HSH.out _ _).mono ?_; rintro e _ ⟨rfl, rfl⟩))
        go_ret
        exact ⟨by rw [HR0.out]; rfl, HBF.out⟩
      · have HR0 : Hid (res = shareI (plusI [0, E1]) L) := by show _ = _; rw [← HRES.out, if_pos d1, if_neg d2]
        obtain ⟨_, e0, e1, e2, e3, e4, e5⟩ := HXW3.out
        go_upto_region 6 with (first
          | (go_at_call 61; refine (HE1.out _ _ HBW3.out HTW3.out).mono ?_; rintro e QWa ⟨rfl, hb⟩
             have HBWa := hidE (Below.on (Below.on HBW3.out hb) (below_new QWa (.cells #[.int .i64 0, .int .i64 E1] 2)))
             have HXWa := hidE ((HXW3.out.keep hb).keep (below_new QWa (.cells #[.int .i64 0, .int .i64 E1] 2)))
             have HTWa : Hid (SRow 1 strE (QWa.alloc (.cells #[.int .i64 0, .int .i64 E1] 2)).heap.size (QWa.alloc (.cells #[.int .i64 0, .int .i64 E1] 2)) _ T) := (HTW3.out.up hb hb.size).up (below_new QWa _) (below_new QWa _).size
             have HPWa := hidE (plus_any [0, E1] _ _ _ (Nat.le_refl _) (srow_new (k := 1) (enc := intE) (fun _ => rfl) QWa [0, E1] #[.int .i64 0, .int .i64 E1] 2 rfl (show 2 ≤ 9223372036854775807 by decide)))
             clear hb)
          | (go_at_call 34; refine HPWa.out.mono ?_; rintro e _ ⟨rfl, rfl⟩))
        obtain ⟨Wa, hWa⟩ : ∃ W, (QWa.alloc (.cells #[.int .i64 0, .int .i64 E1] 2)) = W := ⟨_, rfl⟩
        rw [hWa] at HBWa HXWa HTWa ⊢
        clear hWa e0 e1 e2 e3 e4 e5
        obtain ⟨_, e0, e1, e2, e3, e4, e5⟩ := HXWa.out
        go_wp2_with (first
          | (go_at_call 19; refine (HL.out _ HBWa.out).mono ?_; rintro e WF ⟨rfl, hb⟩; have HBF := hidE (Below.on (Below.on HBWa.out (below_new _ _)) hb); clear hb)
          | (go_at_call 32; refine (HSH.out _ _).mono ?_; rintro e _ ⟨rfl, rfl⟩))
        go_ret
        exact ⟨by rw [HR0.out]; rfl, HBF.out⟩
    · have d2 : dir ≤ 0 := by omega
      have HR0 : Hid (res = shareI (plusI [0, E2]) L) := by show _ = _; rw [← HRES.out, if_neg d1, if_pos d2]
      obtain ⟨_, e0, e1, e2, e3, e4, e5⟩ := HXW3.out
      go_upto_region 8 with (first
        | (go_at_call 61; refine (HE2.out _ _ HBW3.out HTW3.out).mono ?_; rintro e QWb ⟨rfl, hb⟩
           have HBWb := hidE (Below.on (Below.on HBW3.out hb) (below_new QWb (.cells #[.int .i64 0, .int .i64 E2] 2)))
           have HXWb := hidE ((HXW3.out.keep hb).keep (below_new QWb (.cells #[.int .i64 0, .int .i64 E2] 2)))
           have HTWb : Hid (SRow 1 strE (QWb.alloc (.cells #[.int .i64 0, .int .i64 E2] 2)).heap.size (QWb.alloc (.cells #[.int .i64 0, .int .i64 E2] 2)) _ T) := (HTW3.out.up hb hb.size).up (below_new QWb _) (below_new QWb _).size
           have HPWb := hidE (plus_any [0, E2] _ _ _ (Nat.le_refl _) (srow_new (k := 1) (enc := intE) (fun _ => rfl) QWb [0, E2] #[.int .i64 0, .int .i64 E2] 2 rfl (show 2 ≤ 9223372036854775807 by decide)))
           clear hb)
        | (go_at_call 34; refine HPWb.out.mono ?_; rintro e _ ⟨rfl, rfl⟩))
      obtain ⟨Wb, hWb⟩ : ∃ W, (QWb.alloc (.cells #[.int .i64 0, .int .i64 E2] 2)) = W := ⟨_, rfl⟩
      rw [hWb] at HBWb HXWb HTWb ⊢
      clear hWb e0 e1 e2 e3 e4 e5
      obtain ⟨_, e0, e1, e2, e3, e4, e5⟩ := HXWb.out
      go_wp2_with (first
        | (go_at_call 19; refine (HL.out _ HBWb.out).mono ?_; rintro e WF ⟨rfl, hb⟩; have HBF := hidE (Below.on (Below.on HBWb.out (below_new _ _)) hb); clear hb)
        | (go_at_call 32; refine (HSH.out _ _).mono ?_; rintro e _ ⟨rfl, rfl⟩))
      go_ret
      exact ⟨by rw [HR0.out]; rfl, HBF.out⟩
  · rw [if_neg h0] at hT
    subst hT
    have hl1 : (ls.length : Int) ≠ 0 := by
      have : ls.length ≠ 0 := fun e => h0 (List.eq_nil_of_length_eq_zero e)
      omega
    have hl2 : ((ls.length : Int) == 0) = false := beq_eq_false_iff_ne.2 hl1
    obtain ⟨T, hT⟩ : ∃ T, ls = T := ⟨_, rfl⟩
    rw [hT] at HE1 HE2 HS hl2 ⊢
    clear hT h0 hl1 hl
    go_enter Tryz.func28, Tryz.ntmps28
    go_upto_region 1 with fail
    have HW0 := hidE (below_new w (.cells #[.int .i64 n, .int .i64 r, .slice la l1 lc, .slice ta l2 tc, .slice ea l3 ec, .slice ka l4 kc] 33))
    have HX0 := hidE (sbox_new w (.int .i64 n) (.int .i64 r) (.slice la l1 lc) (.slice ta l2 tc) (.slice ea l3 ec) (.slice ka l4 kc) 33)
    obtain ⟨W1, hW1⟩ : ∃ W, w.alloc (.cells #[.int .i64 n, .int .i64 r, .slice la l1 lc, .slice ta l2 tc, .slice ea l3 ec, .slice ka l4 kc] 33) = W := ⟨_, rfl⟩
    rw [hW1] at HW0 HX0 ⊢
    clear hW1
    have HBW1 := HW0
    have HXW1 := HX0
    have HTW1 := hidE (HS.out W1 HW0.out)
    go_upto_region 3 with fail
    generalize T.length = lT at *
    by_cases d1 : 0 ≤ dir
    · by_cases d2 : dir ≤ 0
      · have HR0 : Hid (res = shareI (plusI [plusI [0, E1], E2]) L) := by show _ = _; rw [← HRES.out, if_pos d1, if_pos d2]
        obtain ⟨_, e0, e1, e2, e3, e4, e5⟩ := HXW1.out
        go_upto_region 6 with (first
          | (go_at_call 61; refine (HE1.out _ _ HBW1.out HTW1.out).mono ?_; rintro e QWa ⟨rfl, hb⟩
             have HBWa := hidE (Below.on (Below.on HBW1.out hb) (below_new QWa (.cells #[.int .i64 0, .int .i64 E1] 2)))
             have HXWa := hidE ((HXW1.out.keep hb).keep (below_new QWa (.cells #[.int .i64 0, .int .i64 E1] 2)))
             have HTWa : Hid (SRow 1 strE (QWa.alloc (.cells #[.int .i64 0, .int .i64 E1] 2)).heap.size (QWa.alloc (.cells #[.int .i64 0, .int .i64 E1] 2)) _ T) := (HTW1.out.up hb hb.size).up (below_new QWa _) (below_new QWa _).size
             have HPWa := hidE (plus_any [0, E1] _ _ _ (Nat.le_refl _) (srow_new (k := 1) (enc := intE) (fun _ => rfl) QWa [0, E1] #[.int .i64 0, .int .i64 E1] 2 rfl (show 2 ≤ 9223372036854775807 by decide)))
             clear hb)
          | (go_at_call 34; refine HPWa.out.mono ?_; rintro e _ ⟨rfl, rfl⟩))
        obtain ⟨Wa, hWa⟩ : ∃ W, (QWa.alloc (.cells #[.int .i64 0, .int .i64 E1] 2)) = W := ⟨_, rfl⟩
        rw [hWa] at HBWa HXWa HTWa ⊢
        clear hWa e0 e1 e2 e3 e4 e5
        obtain ⟨_, e0, e1, e2, e3, e4, e5⟩ := HXWa.out
        go_upto_region 8 with (first
          | (go_at_call 61; refine (HE2.out _ _ HBWa.out HTWa.out).mono ?_; rintro e QWb ⟨rfl, hb⟩
             have HBWb := hidE (Below.on (Below.on HBWa.out hb) (below_new QWb (.cells #[.int .i64 (plusI [0, E1]), .int .i64 E2] 2)))
             have HXWb := hidE ((HXWa.out.keep hb).keep (below_new QWb (.cells #[.int .i64 (plusI [0, E1]), .int .i64 E2] 2)))
             have HTWb : Hid (SRow 1 strE (QWb.alloc (.cells #[.int .i64 (plusI [0, E1]), .int .i64 E2] 2)).heap.size (QWb.alloc (.cells #[.int .i64 (plusI [0, E1]), .int .i64 E2] 2)) _ T) := (HTWa.out.up hb hb.size).up (below_new QWb _) (below_new QWb _).size
             have HPWb := hidE (plus_any [(plusI [0, E1]), E2] _ _ _ (Nat.le_refl _) (srow_new (k := 1) (enc := intE) (fun _ => rfl) QWb [(plusI [0, E1]), E2] #[.int .i64 (plusI [0, E1]), .int .i64 E2] 2 rfl (show 2 ≤ 9223372036854775807 by decide)))
             clear hb)
          | (go_at_call 34; refine HPWb.out.mono ?_; rintro e _ ⟨rfl, rfl⟩))
        obtain ⟨Wb, hWb⟩ : ∃ W, (QWb.alloc (.cells #[.int .i64 (plusI [0, E1]), .int .i64 E2] 2)) = W := ⟨_, rfl⟩
        rw [hWb] at HBWb HXWb HTWb ⊢
        clear hWb e0 e1 e2 e3 e4 e5
        obtain ⟨_, e0, e1, e2, e3, e4, e5⟩ := HXWb.out
        go_wp2_with (first
          | (go_at_call 19; refine (HL.out _ HBWb.out).mono ?_; rintro e WF ⟨rfl, hb⟩; have HBF := hidE (Below.on (Below.on HBWb.out (below_new _ _)) hb); clear hb)
          | (go_at_call 32; refine (HSH.out _ _).mono ?_; rintro e _ ⟨rfl, rfl⟩))
        go_ret
        exact ⟨by rw [HR0.out]; rfl, HBF.out⟩
      · have HR0 : Hid (res = shareI (plusI [0, E1]) L) := by show _ = _; rw [← HRES.out, if_pos d1, if_neg d2]
        obtain ⟨_, e0, e1, e2, e3, e4, e5⟩ := HXW1.out
        go_upto_region 6 with (first
          | (go_at_call 61; refine (HE1.out _ _ HBW1.out HTW1.out).mono ?_; rintro e QWa ⟨rfl, hb⟩
             have HBWa := hidE (Below.on (Below.on HBW1.out hb) (below_new QWa (.cells #[.int .i64 0, .int .i64 E1] 2)))
             have HXWa := hidE ((HXW1.out.keep hb).keep (below_new QWa (.cells #[.int .i64 0, .int .i64 E1] 2)))
             have HTWa : Hid (SRow 1 strE (QWa.alloc (.cells #[.int .i64 0, .int .i64 E1] 2)).heap.size (QWa.alloc (.cells #[.int .i64 0, .int .i64 E1] 2)) _ T) := (HTW1.out.up hb hb.size).up (below_new QWa _) (below_new QWa _).size
             have HPWa := hidE (plus_any [0, E1] _ _ _ (Nat.le_refl _) (srow_new (k := 1) (enc := intE) (fun _ => rfl) QWa [0, E1] #[.int .i64 0, .int .i64 E1] 2 rfl (show 2 ≤ 9223372036854775807 by decide)))
             clear hb)
          | (go_at_call 34; refine HPWa.out.mono ?_; rintro e _ ⟨rfl, rfl⟩))
        obtain ⟨Wa, hWa⟩ : ∃ W, (QWa.alloc (.cells #[.int .i64 0, .int .i64 E1] 2)) = W := ⟨_, rfl⟩
        rw [hWa] at HBWa HXWa HTWa ⊢
        clear hWa e0 e1 e2 e3 e4 e5
        obtain ⟨_, e0, e1, e2, e3, e4, e5⟩ := HXWa.out
        go_wp2_with (first
          | (go_at_call 19; refine (HL.out _ HBWa.out).mono ?_; rintro e WF ⟨rfl, hb⟩; have HBF := hidE (Below.on (Below.on HBWa.out (below_new _ _)) hb); clear hb)
          | (go_at_call 32; refine (HSH.out _ _).mono ?_; rintro e _ ⟨rfl, rfl⟩))
        go_ret
        exact ⟨by rw [HR0.out]; rfl, HBF.out⟩
    · have d2 : dir ≤ 0 := by omega
      have HR0 : Hid (res = shareI (plusI [0, E2]) L) := by show _ = _; rw [← HRES.out, if_neg d1, if_pos d2]
      obtain ⟨_, e0, e1, e2, e3, e4, e5⟩ := HXW1.out
      go_upto_region 8 with (first
        | (go_at_call 61; refine (HE2.out _ _ HBW1.out HTW1.out).mono ?_; rintro e QWb ⟨rfl, hb⟩
           have HBWb := hidE (Below.on (Below.on HBW1.out hb) (below_new QWb (.cells #[.int .i64 0, .int .i64 E2] 2)))
           have HXWb := hidE ((HXW1.out.keep hb).keep (below_new QWb (.cells #[.int .i64 0, .int .i64 E2] 2)))
           have HTWb : Hid (SRow 1 strE (QWb.alloc (.cells #[.int .i64 0, .int .i64 E2] 2)).heap.size (QWb.alloc (.cells #[.int .i64 0, .int .i64 E2] 2)) _ T) := (HTW1.out.up hb hb.size).up (below_new QWb _) (below_new QWb _).size
           have HPWb := hidE (plus_any [0, E2] _ _ _ (Nat.le_refl _) (srow_new (k := 1) (enc := intE) (fun _ => rfl) QWb [0, E2] #[.int .i64 0, .int .i64 E2] 2 rfl (show 2 ≤ 9223372036854775807 by decide)))
           clear hb)
        | (go_at_call 34; refine HPWb.out.mono ?_; rintro e _ ⟨rfl, rfl⟩))
      obtain ⟨Wb, hWb⟩ : ∃ W, (QWb.alloc (.cells #[.int .i64 0, .int .i64 E2] 2)) = W := ⟨_, rfl⟩
      rw [hWb] at HBWb HXWb HTWb ⊢
      clear hWb e0 e1 e2 e3 e4 e5
      obtain ⟨_, e0, e1, e2, e3, e4, e5⟩ := HXWb.out
      go_wp2_with (first
        | (go_at_call 19; refine (HL.out _ HBWb.out).mono ?_; rintro e WF ⟨rfl, hb⟩; have HBF := hidE (Below.on (Below.on HBWb.out (below_new _ _)) hb); clear hb)
        | (go_at_call 32; refine (HSH.out _ _).mono ?_; rintro e _ ⟨rfl, rfl⟩))
      go_ret
      exact ⟨by rw [HR0.out]; rfl, HBF.out⟩
end Go.Proofs.YthfilnflgahcjaaGreatDoor

