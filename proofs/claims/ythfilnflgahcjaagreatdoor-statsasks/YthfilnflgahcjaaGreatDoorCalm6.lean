/- The walk of a region that draws its order, where a call that leaves the world as it is counts as a read. -/
import Derived.Test.YthfilnflgahcjaaGreatDoorJoin2
namespace Go.Proofs.YthfilnflgahcjaaGreatDoor
open Go.RowKit
section
variable {P : Program} {ops : Array Oper} {md : Region.Mode} {Q : Exit → Act → World → Prop} {keep : Nat → Bool} {S S' : World → Prop}
/-- In state 'a', in every world that meets S, the operation (a call, too) leaves 'v' in its temporary and does nothing else. -/
def YieldsW (P : Program) (ops : Array Oper) (S : World → Prop) (o : Oper) (v : Value) (a : Act) : Prop :=
  (Region.wanted o (yielded ops a.tmps) = true ∧ ∀ w, S w → o.wp P a w (fun a' w' => a' = a.put o.dst v ∧ w' = w) NoQ) ∨
  (Region.wanted o (yielded ops a.tmps) = false ∧ v = undef)
theorem YieldsIf.toW {o : Oper} {v : Value} {a : Act} (h : YieldsIf P ops S o v a) : YieldsW P ops S o v a :=
  h.imp (fun ⟨h1, h2⟩ => ⟨h1, fun w hw => by unfold Oper.wp; rw [h2 w hw]; exact ⟨rfl, rfl⟩⟩) id
theorem yieldsW_mono {o : Oper} {v : Value} {a : Act} (hs : ∀ w, S' w → S w) (h : YieldsW P ops S o v a) : YieldsW P ops S' o v a :=
  h.imp (fun ⟨h1, h2⟩ => ⟨h1, fun w hw => h2 w (hs w hw)⟩) id
theorem YieldsW.wpOp {i : Nat} {o : Oper} {v : Value} {a : Act} (hi : ops[i]? = some o) (hy : YieldsW P ops S o v a)
    {K : Act → World → Prop} {w : World} (hS : S w) (h : K (a.put o.dst v) w) : wpOp P ops Q i K a w := by
  refine wpOp_noQ ?_
  unfold Go.wpOp
  simp only [hi]
  rcases hy with ⟨hw, hv⟩ | ⟨hw, rfl⟩
  · simp only [hw, if_true]
    exact .inl (Oper.wp_mono (fun a' w' h' => by rw [h'.1, h'.2]; exact h) (hv w hS))
  · simp only [hw, Bool.false_eq_true, if_false]; exact h
theorem wp_shift {o : Oper} {v u : Value} {a : Act} {x : Option Tmp} {w : World} (he : execOp (a.put x u).eval o = execOp a.eval o) (h2 : ∀ d, o.dst = some d → x ≠ some d)
    (h : o.wp P a w (fun a' w' => a' = a.put o.dst v ∧ w' = w) NoQ) : o.wp P (a.put x u) w (fun a' w' => a' = (a.put x u).put o.dst v ∧ w' = w) NoQ := by
  have go : ∀ y, a.put o.dst y = a.put o.dst v → (a.put x u).put o.dst y = (a.put x u).put o.dst v := fun y hy => by
    rw [← Act.put_comm a y u h2, hy, Act.put_comm a v u h2]
  unfold Oper.wp at *
  rw [he]
  generalize (execOp a.eval o).run P w = r at *
  cases r with
  | ok n w' =>
    cases n <;> simp only [Oper.upon] at h ⊢
    case value y => exact ⟨go y h.1, h.2⟩
    case skip => exact ⟨go _ h.1, h.2⟩
    case defer d =>
      have := congrArg Act.defers h.1
      cases hd : o.dst <;> simp [Act.put, hd] at this
    case enter f args =>
      refine Calls.mono h fun e w'' h' => ?_
      cases e with
      | returned y => exact ⟨go y h'.1, h'.2⟩
      | panicked c => exact h'
      | outgrown => exact h'
    case row row args => exact Rows.mono h fun y w'' h' => ⟨go y h'.1, h'.2⟩
  | halt x w' => cases x <;> simp only [Oper.upon] at h ⊢; exact h
theorem wp_shiftD {o : Oper} {v : Value} {a : Act} {d : Deferred} {w : World}
    (h : o.wp P a w (fun a' w' => a' = a.put o.dst v ∧ w' = w) NoQ) : o.wp P { a with defers := d :: a.defers } w (fun a' w' => a' = ({ a with defers := d :: a.defers } : Act).put o.dst v ∧ w' = w) NoQ := by
  have go : ∀ y, a.put o.dst y = a.put o.dst v → ({ a with defers := d :: a.defers } : Act).put o.dst y = ({ a with defers := d :: a.defers } : Act).put o.dst v := fun y hy => by
    rw [← Act.put_defers, ← Act.put_defers, hy]
  have he : execOp ({ a with defers := d :: a.defers } : Act).eval o = execOp a.eval o := rfl
  unfold Oper.wp at *
  rw [he]
  generalize (execOp a.eval o).run P w = r at *
  cases r with
  | ok n w' =>
    cases n <;> simp only [Oper.upon] at h ⊢
    case value y => exact ⟨go y h.1, h.2⟩
    case skip => exact ⟨go _ h.1, h.2⟩
    case defer d' =>
      have := congrArg Act.defers h.1
      cases hd : o.dst <;> simp [Act.put, hd] at this
    case enter f args =>
      refine Calls.mono h fun e w'' h' => ?_
      cases e with
      | returned y => exact ⟨go y h'.1, h'.2⟩
      | panicked c => exact h'
      | outgrown => exact h'
    case row row args => exact Rows.mono h fun y w'' h' => ⟨go y h'.1, h'.2⟩
  | halt x w' => cases x <;> simp only [Oper.upon] at h ⊢; exact h
theorem wpOp_putW {j : Nat} {oi oj : Oper} {v : Value} (hj : ops[j]? = some oj) (hap : oi.apart ops oj = true)
    (hsi : ∀ cs b, oi.op ≠ .select cs b) (hsj : ∀ cs b, oj.op ≠ .select cs b)
    (hQ : ∀ c a w, Q (.panic c) (a.put oi.dst v) w → Q (.panic c) a w) {K : Act → World → Prop} {a : Act} {w : World}
    (hy : YieldsW P ops S oi v a) (h : wpOp P ops Q j K (a.put oi.dst v) w) :
    wpOp P ops Q j (fun a' w' => YieldsW P ops S oi v a' ∧ K (a'.put oi.dst v) w') a w := by
  obtain ⟨h1, h2, h3⟩ := Oper.apart_spec hap
  have keep : ∀ (a : Act), YieldsW P ops S oi v a → ∀ u, YieldsW P ops S oi v (a.put oj.dst u) := fun a hy u => by
    unfold YieldsW at *
    rw [wanted_put oi a oj.dst u h3]
    exact hy.imp (fun ⟨h4, h5⟩ => ⟨h4, fun w hw => wp_shift (execOp_put oi hsi a oj.dst u h3) h2 (h5 w hw)⟩) id
  have keepD : ∀ d, YieldsW P ops S oi v { a with defers := d :: a.defers } := fun d =>
    hy.imp (fun ⟨h4, h5⟩ => ⟨h4, fun w hw => wp_shiftD (h5 w hw)⟩) id
  unfold wpOp at *
  simp only [hj] at *
  rw [wanted_put oj a oi.dst v h1] at h
  split
  · rename_i hw
    simp only [hw, if_true] at h
    rcases h with h | ⟨hasks, hlets⟩
    case inr => exact .inr ⟨by unfold Oper.asks at *; rw [execOp_put oj hsj a oi.dst v h1] at hasks; exact hasks, hlets⟩
    refine .inl ?_
    unfold Oper.wp at h ⊢
    rw [execOp_put oj hsj a oi.dst v h1] at h
    generalize (execOp a.eval oj).run P w = r at *
    cases r with
    | ok n w' =>
      cases n <;> simp only [Oper.upon] at h ⊢
      case value u => exact ⟨keep a hy u, by rw [← Act.put_comm a v u h2]; exact h⟩
      case skip => exact ⟨keep a hy _, by rw [← Act.put_comm a v undef h2]; exact h⟩
      case defer d =>
        refine ⟨keep _ (keepD d) _, ?_⟩
        rw [← Act.put_comm _ v undef h2, ← Act.put_defers]
        exact h
      case enter f args =>
        refine Calls.mono h fun e w'' he => ?_
        cases e with
        | returned u => exact ⟨keep a hy u, by rw [← Act.put_comm a v u h2]; exact he⟩
        | panicked c => exact hQ _ _ _ he
        | outgrown => exact he
      case row row args => exact Rows.mono h fun u w'' he => ⟨keep a hy u, by rw [← Act.put_comm a v u h2]; exact he⟩
    | halt x w' =>
      cases x <;> simp only [Oper.upon] at h ⊢
      case panic u => exact hQ _ _ _ h
  · rename_i hw
    simp only [hw] at h
    exact ⟨keep a hy _, by rw [← Act.put_comm a v undef h2]; exact h⟩
theorem wpAnyU_first2 {i : Nat} {oi : Oper} {v : Value} (hi : ops[i]? = some oi) (hsel : ∀ (j : Nat) (o : Oper) cs b, ops[j]? = some o → o.op ≠ .select cs b) (hk : keep i = true)
    (hwt : ∀ j, j < ops.size → j ≠ i → keep j = false → waitsB md ops ops.size j i = true) :
    ∀ (fuel : Nat) (listed : Array Bool) (a : Act) (w : World), Closed md ops listed →
      (∀ j oj, ops[j]? = some oj → j ≠ i → listed.getD j true = false → (∀ e ∈ oj.after, Region.binds md e = true → e.on ≠ i) → oi.apart ops oj = true) →
      i ∈ Region.ready md ops listed → YieldsW P ops (upS w) oi v a →
      wpAnyU P md ops keep Q fuel (listed.setIfInBounds i true) (a.put oi.dst v) w → wpAnyU P md ops keep Q (fuel + 1) listed a w := by
  intro fuel
  induction fuel with
  | zero =>
    intro listed a w hcl _ hr hy H
    refine ⟨fun h => (by rw [h] at hr; cases hr), fun j hj => ?_⟩
    by_cases hji : j = i
    · subst hji
      rw [if_pos hk]
      exact hy.wpOp hi (Below.refl _ _) ⟨Below.refl _ _, H⟩
    · have := ready_mono hj hji
      rw [H.1] at this
      cases this
  | succ fuel ih =>
    intro listed a w hcl hfree hr hy H
    refine ⟨fun h => (by rw [h] at hr; cases hr), fun j hj => ?_⟩
    by_cases hji : j = i
    · subst hji
      rw [if_pos hk]
      exact hy.wpOp hi (Below.refl _ _) ⟨Below.refl _ _, H⟩
    · have h1 := H.2 j (ready_mono hj hji)
      obtain ⟨hjun, oj, hoj, hall⟩ := mem_ready.1 hj
      have h0 := (mem_ready.1 hr).1
      have hin : listed.getD i false = false := getD_both h0
      have hkj : keep j = true := by
        cases hkj : keep j with
        | true => rfl
        | false =>
          have := waits_listed hcl ops.size j i (fun ok hk' e he hb => by
            rw [hoj] at hk'
            obtain rfl := Option.some.inj hk'
            exact hall e he hb) (hwt j (Array.getElem?_eq_some_iff.1 hoj).1 hji hkj)
          rw [hin] at this; cases this
      rw [if_pos hkj] at h1 ⊢
      have hnot : ∀ e ∈ oj.after, Region.binds md e = true → e.on ≠ i := fun e he hb heq => by
        have h1 := hall e he hb
        rw [heq, hin] at h1; cases h1
      have h2 := wpOp_putW (Q := NoQ) hoj (hfree j oj hoj hji hjun hnot) (fun cs b => hsel i oi cs b hi) (fun cs b => hsel j oj cs b hoj) (fun _ _ _ h => h) hy h1
      have hfree' : ∀ k ok, ops[k]? = some ok → k ≠ i → (listed.setIfInBounds j true).getD k true = false →
          (∀ e ∈ ok.after, Region.binds md e = true → e.on ≠ i) → oi.apart ops ok = true := fun k ok hk hki hun hno => by
        refine hfree k ok hk hki ?_ hno
        by_cases hjk : j = k
        · subst hjk; exact hjun
        · rw [getD_set_ne true hjk] at hun; exact hun
      refine wpOp_mono (fun a' w' h3 => ⟨h3.2.1, ih (listed.setIfInBounds j true) a' w' (closed_set hcl hj) hfree' (ready_mono hr (Ne.symm hji)) (yieldsW_mono (fun x hx => h3.2.1.trans (Below.mono hx h3.2.1.size)) h3.1) ?_⟩) h2
      rw [Array.setIfInBounds_comm _ _ hji]
      exact h3.2.2
def wpSched2 (P : Program) (ops : Array Oper) (keep : Nat → Bool) (Q : Exit → Act → World → Prop) : List (Bool × Nat) → Act → World → Prop
  | [], a, w => Q .normal a w
  | (true, i) :: r, a, w => ∃ oi v, ops[i]? = some oi ∧ YieldsW P ops (upS w) oi v a ∧ wpSched2 P ops keep Q r (a.put oi.dst v) w
  | (false, i) :: r, a, w =>
    if keep i = true then wpOp P ops NoQ i (fun a' w' => Below w.heap.size w w' ∧ wpSched2 P ops keep Q r a' w') a w
    else wpOp P ops Q i (wpSched2 P ops keep Q r) a w
theorem sched_sound2 (hs : Region.noSelect ops = true) : ∀ (l : List (Bool × Nat)) (listed : Array Bool) (a : Act) (w : World), checkB md ops keep l listed = true → Closed md ops listed → wpSched2 P ops keep Q l a w → wpAnyU P md ops keep Q l.length listed a w
  | [], listed, a, w, hc, _, h => ⟨by simpa [checkB] using hc, h⟩
  | (true, i) :: r, listed, a, w, hc, hcl, ⟨oi, v, hi, hy, h⟩ => by
    simp only [checkB, Bool.and_eq_true] at hc
    obtain ⟨h1, h2, h3, h4, h5⟩ := hc
    have hr : i ∈ Region.ready md ops listed := by simpa using h1
    refine wpAnyU_first2 hi (Region.noSelect_spec hs) h3 (fun j hj hji hkj => ?_) r.length listed a w hcl (Region.free_spec hi h2) hr hy (sched_sound2 hs r _ _ _ h5 (closed_set hcl hr) h)
    have := List.all_eq_true.1 h4 j (List.mem_range.2 hj)
    simpa [hji, hkj] using this
  | (false, i) :: r, listed, a, w, hc, hcl, h => by
    simp only [checkB, Bool.and_eq_true, beq_iff_eq] at hc
    obtain ⟨h1, h2⟩ := hc
    have hr : i ∈ Region.ready md ops listed := by rw [h1]; exact List.mem_cons_self
    refine ⟨fun h0 => (by rw [h0] at h1; cases h1), fun j hj => ?_⟩
    rw [h1] at hj
    obtain rfl : j = i := by simpa using hj
    rw [wpSched2] at h
    split
    · rename_i hk
      rw [if_pos hk] at h
      exact wpOp_mono (fun a' w' h' => ⟨h'.1, sched_sound2 hs r _ _ _ h2 (closed_set hcl hr) h'.2⟩) h
    · rename_i hk
      rw [if_neg hk] at h
      exact wpOp_mono (fun a' w' h' => sched_sound2 hs r _ _ _ h2 (closed_set hcl hr) h') h
theorem seg_quiet2 {L : List Oper} {r : List (Bool × Nat)} {w : World} {K : Act → Prop} (hK : ∀ a, K a → wpSched2 P L.toArray keep Q r a w) : ∀ (S : List Nat) (a : Act), reads L S = true →
    wpQuiet P L.toArray (upC w) K (pickL L S) a → wpSched2 P L.toArray keep Q (S.map (fun i => (true, i)) ++ r) a w
  | [], a, _, h => hK a h
  | i :: S, a, hr, h => by
    simp only [reads, List.all_cons, Bool.and_eq_true] at hr
    obtain ⟨h1, h2⟩ := hr
    cases ho : nthL L i with
    | none => rw [ho] at h1; cases h1
    | some o =>
      rw [ho] at h1
      simp only [pickL, ho, wpQuiet] at h
      have hi : L.toArray[i]? = some o := by rw [List.getElem?_toArray, ← nthL_get, ho]
      by_cases hw : Region.wanted o (yielded L.toArray a.tmps) = true
      · rw [if_pos hw] at h
        obtain ⟨v, h3, h4⟩ := h
        refine ⟨o, v, hi, YieldsIf.toW (.inl ⟨hw, fun x hx => ?_⟩), seg_quiet2 hK S _ h2 h4⟩
        have h5 := h3 x ⟨⟨x, hx⟩, rfl⟩
        unfold Oper.quietAt at h5
        generalize hres : (execOp a.eval o).run P x = res at h5
        cases res with
        | halt y z => simp only [Oper.quietUpon] at h5
        | ok n z =>
          obtain ⟨u, rfl⟩ := read_value h1 hres
          simp only [Oper.quietUpon] at h5
          rw [h5.1, h5.2]
      · rw [if_neg hw] at h
        exact ⟨o, undef, hi, YieldsIf.toW (.inr ⟨by simpa using hw, rfl⟩), seg_quiet2 hK S _ h2 h⟩
theorem seg_loud2 {L : List Oper} {r : List (Bool × Nat)} {i : Nat} {a : Act} {w : World} {K : Act → World → Prop} (hk : keep i = true) (hn : (nthL L i).isSome = true) (hK : ∀ a w', K a w' → Below w.heap.size w w' ∧ wpSched2 P L.toArray keep Q r a w')
    (h : wpLoud P L i K a w) : wpSched2 P L.toArray keep Q ((false, i) :: r) a w := by
  rw [wpSched2, if_pos hk]
  unfold wpLoud at h
  cases ho : nthL L i with
  | none => rw [ho] at hn; cases hn
  | some o =>
    have hi : L.toArray[i]? = some o := by rw [List.getElem?_toArray, ← nthL_get, ho]
    simp only [pickL, ho, wpList] at h
    unfold wpOp
    simp only [hi]
    split
    · rename_i hw
      rw [if_pos hw] at h
      rcases h with h | ⟨_, _, _, h, _⟩
      · exact .inl (Oper.wp_mono (fun a' w' h' => hK a' w' h'.2) (oper_only h))
      · cases h
    · rename_i hw
      rw [if_neg hw] at h
      exact hK _ _ h.2
theorem seg_tail2 {L : List Oper} : ∀ (T : List Nat) (a : Act) (w : World), (∀ i ∈ T, keep i = false ∧ (nthL L i).isSome = true) → wpList P L.toArray Q (pickL L T) a w → wpSched2 P L.toArray keep Q (T.map (fun i => (false, i))) a w
  | [], a, w, _, h => h
  | i :: T, a, w, hT, h => by
    obtain ⟨hk, hn⟩ := hT i List.mem_cons_self
    rw [List.map_cons, wpSched2, if_neg (by rw [hk]; exact Bool.false_ne_true)]
    cases ho : nthL L i with
    | none => rw [ho] at hn; cases hn
    | some o =>
      have hi : L.toArray[i]? = some o := by rw [List.getElem?_toArray, ← nthL_get, ho]
      simp only [pickL, ho, wpList] at h
      have ih := fun a w => seg_tail2 T a w (fun j hj => hT j (List.mem_cons_of_mem _ hj))
      unfold wpOp
      simp only [hi]
      split
      · rename_i hw
        rw [if_pos hw] at h
        exact h.imp (Oper.wp_mono ih) id
      · rename_i hw
        rw [if_neg hw] at h
        exact ih _ _ h
/-- A call that leaves the world as it is. -/
def wpStill (P : Program) (L : List Oper) (w : World) (i : Nat) (K : Act → Prop) (a : Act) : Prop :=
  match nthL L i with
  | some o => ∃ v, Region.wanted o (yielded L.toArray a.tmps) = true ∧ (∀ u : Up w, wpList P L.toArray (fun e a' w' => e = .normal ∧ (a' = a.put o.dst v ∧ w' = u.x)) [o] a u.x) ∧ K (a.put o.dst v)
  | none => False
theorem seg_still {L : List Oper} {r : List (Bool × Nat)} {i : Nat} {a : Act} {w : World} {K : Act → Prop} (hK : ∀ a, K a → wpSched2 P L.toArray keep Q r a w)
    (h : wpStill P L w i K a) : wpSched2 P L.toArray keep Q ((true, i) :: r) a w := by
  unfold wpStill at h
  split at h
  · rename_i o ho
    obtain ⟨v, h1, h2, h3⟩ := h
    have hi : L.toArray[i]? = some o := by rw [List.getElem?_toArray, ← nthL_get, ho]
    refine ⟨o, v, hi, .inl ⟨h1, fun x hx => ?_⟩, hK _ h3⟩
    have h4 := h2 ⟨x, hx⟩
    simp only [wpList] at h4
    rw [if_pos h1] at h4
    rcases h4 with h4 | ⟨_, _, _, h4, _⟩
    · exact Oper.wp_mono (fun a' w' h' => h'.2) (oper_only h4)
    · cases h4
  · exact h.elim
def wpCalm2 (P : Program) (L : List Oper) (Q : Exit → Act → World → Prop) : List (List Nat × Nat × Bool) → List Nat → List Nat → Act → World → Prop
  | [], S, T, a, w => wpQuiet P L.toArray (upC w) (fun a' => wpList P L.toArray Q (pickL L T) a' w) (pickL L S) a
  | (S, i, true) :: r, S', T, a, w => wpQuiet P L.toArray (upC w) (fun a' => wpStill P L w i (fun a'' => wpCalm2 P L Q r S' T a'' w) a') (pickL L S) a
  | (S, i, false) :: r, S', T, a, w => wpQuiet P L.toArray (upC w) (fun a' => wpLoud P L i (fun a'' w'' => Below w.heap.size w w'' ∧ wpCalm2 P L Q r S' T a'' w'') a' w) (pickL L S) a
def schedOf2 : List (List Nat × Nat × Bool) → List Nat → List Nat → List (Bool × Nat)
  | [], S, T => tailS S T
  | (S, i, b) :: r, S', T => S.map (fun i => (true, i)) ++ (b, i) :: schedOf2 r S' T
def partsB2 (L : List Oper) (T : List Nat) : List (List Nat × Nat × Bool) → Bool
  | [] => true
  | (S, i, _) :: r => reads L S && ((nthL L i).isSome && (!T.contains i && partsB2 L T r))
def calmB2 (L : List Oper) (A : List (List Nat × Nat × Bool)) (S T : List Nat) : Bool :=
  Region.noSelect L.toArray && (partsB2 L T A && (reads L S && ((T.all fun i => (nthL L i).isSome) && ((schedOf2 A S T).length == L.length && checkB .any L.toArray (fun j => !T.contains j) (schedOf2 A S T) (Array.replicate L.length false)))))
theorem calm_sched2 {L : List Oper} {S T : List Nat} (hS : reads L S = true) (hT : ∀ i ∈ T, keep i = false ∧ (nthL L i).isSome = true) (hkT : ∀ i, T.contains i = false → keep i = true) : ∀ (A : List (List Nat × Nat × Bool)) (a : Act) (w : World), partsB2 L T A = true →
    wpCalm2 P L Q A S T a w → wpSched2 P L.toArray keep Q (schedOf2 A S T) a w
  | [], a, w, _, h => seg_quiet2 (fun a' h' => seg_tail2 T a' w hT h') S a hS h
  | (S1, i, true) :: r, a, w, hA, h => by
    simp only [partsB2, Bool.and_eq_true, Bool.not_eq_true'] at hA
    obtain ⟨h1, h2, h3, h4⟩ := hA
    exact seg_quiet2 (fun a' h' => seg_still (fun a'' h'' => calm_sched2 hS hT hkT r a'' w h4 h'') h') S1 a h1 h
  | (S1, i, false) :: r, a, w, hA, h => by
    simp only [partsB2, Bool.and_eq_true, Bool.not_eq_true'] at hA
    obtain ⟨h1, h2, h3, h4⟩ := hA
    exact seg_quiet2 (fun a' h' => seg_loud2 (hkT i h3) h2 (fun a'' w'' h'' => ⟨h''.1, calm_sched2 hS hT hkT r a'' w'' h4 h''.2⟩) h') S1 a h1 h
/-- A region that draws its order: reads, calls that leave the world as it is (true), what makes memory (false), then what waits for all. -/
theorem wp_calm2 {id : Nat} {L : List Oper} {a : Act} {w : World} (A : List (List Nat × Nat × Bool)) (S T : List Nat) (hm : P.follows .mixedOrders = true) (hB : calmB2 L A S T = true) (h : wpCalm2 P L Q A S T a w.drew) : (Code.region id L.toArray true).wp P Q a w := by
  simp only [calmB2, Bool.and_eq_true, beq_iff_eq] at hB
  obtain ⟨h1, h2, h3, h4, h5, h6⟩ := hB
  refine wp_region_any hm (wpAny_of_U (keep := fun j => !T.contains j) _ _ _ _ ?_)
  have h7 := sched_sound2 (P := P) (Q := Q) h1 (schedOf2 A S T) (Array.replicate L.length false) a w.drew h6 ⟨by simp, fun j oj _ hl => by
    rcases Nat.lt_or_ge j L.length with hj | hj
    · simp [hj] at hl
    · simp [hj] at hl⟩ (calm_sched2 h3 (fun i hi => ⟨by simpa using hi, List.all_eq_true.1 h4 i hi⟩) (fun i hi => by rw [hi]; rfl) A a w.drew h2 h)
  rw [h5] at h7
  simpa using h7
end
end Go.Proofs.YthfilnflgahcjaaGreatDoor
