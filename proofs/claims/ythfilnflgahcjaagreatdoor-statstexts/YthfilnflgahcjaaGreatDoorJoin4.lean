/- Regions that draw their order: what only reads may be taken first, what makes memory of its own is taken as it stands. The same as a walk: what only reads, in the text's order; then what makes memory, one by one. The walk of a region that draws its order: first what reads, then, one by one, what makes memory, then what waits for all. Numbers together, the share of a number in another, how many nodes there are. How rows and keys stand in cells. -/
import Derived.Test.YthfilnflgahcjaaGreatDoorJoin3
import Derived.OrdersHeld
import Derived.Test.YthfilnflgahcjaaGreatDoorJoin1
namespace Go.Proofs.YthfilnflgahcjaaGreatDoor
open Go.RowKit
section
variable {P : Program} {ops : Array Oper} {md : Region.Mode} {Q : Exit → Act → World → Prop} {keep : Nat → Bool}
theorem getD_both {listed : Array Bool} {i : Nat} (h : listed.getD i true = false) : listed.getD i false = false := by
  rcases Nat.lt_or_ge i listed.size with h' | h'
  · simp [h'] at h ⊢; exact h
  · simp [Array.getElem?_eq_none h'] at h
def NoQ : Exit → Act → World → Prop := fun _ _ _ => False
/-- Whatever order is picked from here on; what is marked leaves what was there. -/
def wpAnyU (P : Program) (md : Region.Mode) (ops : Array Oper) (keep : Nat → Bool) (Q : Exit → Act → World → Prop) : Nat → Array Bool → Act → World → Prop
  | 0, listed, a, w => Region.ready md ops listed = [] ∧ Q .normal a w
  | fuel + 1, listed, a, w =>
    (Region.ready md ops listed = [] → Q .normal a w) ∧
    ∀ i ∈ Region.ready md ops listed,
      if keep i = true then wpOp P ops NoQ i (fun a' w' => Below w.heap.size w w' ∧ wpAnyU P md ops keep Q fuel (listed.setIfInBounds i true) a' w') a w
      else wpOp P ops Q i (wpAnyU P md ops keep Q fuel (listed.setIfInBounds i true)) a w
theorem oper_noQ {o : Oper} {a : Act} {w : World} {K : Act → World → Prop} (h : o.wp P a w K NoQ) : o.wp P a w K Q := by
  unfold Oper.wp at *
  generalize (execOp a.eval o).run P w = r at *
  cases r with
  | ok n w' =>
    cases n <;> simp only [Oper.upon] at h ⊢ <;> first | exact h | skip
    exact Calls.mono h fun e w'' he => by
      cases e with
      | returned v => exact he
      | panicked c => exact he.elim
      | outgrown => exact he.elim fun _ h => h.elim fun _ h => h.elim
  | halt x w' => cases x <;> simp only [Oper.upon] at h ⊢; exact h.elim
theorem wpOp_noQ {i : Nat} {a : Act} {w : World} {K : Act → World → Prop} (h : wpOp P ops NoQ i K a w) : wpOp P ops Q i K a w := by
  unfold wpOp at *
  split
  · rename_i ho; simpa [ho] using h
  · rename_i o ho
    simp only [ho] at h
    split
    · rename_i hw
      simp only [hw, if_true] at h
      rcases h with h | ⟨_, _, _, h⟩
      · exact .inl (oper_noQ h)
      · exact h.elim
    · rename_i hw; simp only [hw] at h; exact h
theorem wpAny_of_U : ∀ (fuel : Nat) (listed : Array Bool) (a : Act) (w : World), wpAnyU P md ops keep Q fuel listed a w → wpAny P md ops Q fuel listed a w
  | 0, _, _, _, h => h
  | fuel + 1, listed, a, w, h => ⟨h.1, fun i hi => by
      have := h.2 i hi
      split at this
      · exact wpOp_mono (fun a' w' h' => wpAny_of_U fuel _ a' w' h'.2) (wpOp_noQ this)
      · exact wpOp_mono (fun a' w' h' => wpAny_of_U fuel _ a' w' h') this⟩
/-- Who has come up, all that they waited for has. -/
def Closed (md : Region.Mode) (ops : Array Oper) (listed : Array Bool) : Prop :=
  listed.size = ops.size ∧ ∀ j oj, ops[j]? = some oj → listed.getD j false = true → ∀ e ∈ oj.after, Region.binds md e = true → listed.getD e.on false = true
theorem closed_set {listed : Array Bool} {i : Nat} (h : Closed md ops listed) (hi : i ∈ Region.ready md ops listed) : Closed md ops (listed.setIfInBounds i true) := by
  obtain ⟨_, oi, hoi, hall⟩ := mem_ready.1 hi
  have up : ∀ k, listed.getD k false = true → (listed.setIfInBounds i true).getD k false = true := fun k hk => by
    by_cases hik : i = k
    · subst hik
      have : i < listed.size := by
        rcases Nat.lt_or_ge i listed.size with h' | h'
        · exact h'
        · simp [Array.getElem?_eq_none h'] at hk
      simp [this]
    · rw [getD_set_ne false hik]; exact hk
  refine ⟨by simp [h.1], fun j oj hj hl e he hb => up _ ?_⟩
  by_cases hij : i = j
  · subst hij
    rw [hoi] at hj
    obtain rfl := Option.some.inj hj
    exact hall e he hb
  · rw [getD_set_ne false hij] at hl
    exact h.2 j oj hj hl e he hb
def waitsB (md : Region.Mode) (ops : Array Oper) : Nat → Nat → Nat → Bool
  | 0, _, _ => false
  | n + 1, j, i => match ops[j]? with
    | some oj => oj.after.any fun e => Region.binds md e && (e.on == i || waitsB md ops n e.on i)
    | none => false
theorem waits_listed {listed : Array Bool} (h : Closed md ops listed) : ∀ (n j i : Nat), (∀ oj, ops[j]? = some oj → ∀ e ∈ oj.after, Region.binds md e = true → listed.getD e.on false = true) → waitsB md ops n j i = true → listed.getD i false = true
  | 0, _, _, _, hw => by cases hw
  | n + 1, j, i, hj, hw => by
    unfold waitsB at hw
    split at hw
    · rename_i oj ho
      obtain ⟨e, he, hb⟩ := Array.any_eq_true'.1 hw
      simp only [Bool.and_eq_true, Bool.or_eq_true, beq_iff_eq] at hb
      have hl := hj oj ho e he hb.1
      rcases hb.2 with rfl | hb2
      · exact hl
      · exact waits_listed h n e.on i (fun ok hk e' he' hb' => h.2 _ ok hk hl e' he' hb') hb2
    · cases hw
def upS (w : World) : World → Prop := fun x => Below w.heap.size w x
theorem yieldsIf_mono {S S' : World → Prop} {o : Oper} {v : Value} {a : Act} (hs : ∀ w, S' w → S w) (h : YieldsIf P ops S o v a) : YieldsIf P ops S' o v a :=
  h.imp (fun ⟨h1, h2⟩ => ⟨h1, fun w hw => h2 w (hs w hw)⟩) id
theorem wpAnyU_first {i : Nat} {oi : Oper} {v : Value} (hi : ops[i]? = some oi) (hsel : ∀ (j : Nat) (o : Oper) cs b, ops[j]? = some o → o.op ≠ .select cs b) (hk : keep i = true)
    (hwt : ∀ j, j < ops.size → j ≠ i → keep j = false → waitsB md ops ops.size j i = true) :
    ∀ (fuel : Nat) (listed : Array Bool) (a : Act) (w : World), Closed md ops listed →
      (∀ j oj, ops[j]? = some oj → j ≠ i → listed.getD j true = false → (∀ e ∈ oj.after, Region.binds md e = true → e.on ≠ i) → oi.apart ops oj = true) →
      i ∈ Region.ready md ops listed → YieldsIf P ops (upS w) oi v a →
      wpAnyU P md ops keep Q fuel (listed.setIfInBounds i true) (a.put oi.dst v) w → wpAnyU P md ops keep Q (fuel + 1) listed a w := by
  intro fuel
  induction fuel with
  | zero =>
    intro listed a w hcl _ hr hy H
    refine ⟨fun h => (by rw [h] at hr; cases hr), fun j hj => ?_⟩
    by_cases hji : j = i
    · subst hji
      rw [if_pos hk]
      exact hy.wpOp hi (Below.refl _ _) ⟨Below.refl _ _, H⟩
    · have := ready_mono hj hji
      rw [H.1] at this
      cases this
  | succ fuel ih =>
    intro listed a w hcl hfree hr hy H
    refine ⟨fun h => (by rw [h] at hr; cases hr), fun j hj => ?_⟩
    by_cases hji : j = i
    · subst hji
      rw [if_pos hk]
      exact hy.wpOp hi (Below.refl _ _) ⟨Below.refl _ _, H⟩
    · have h1 := H.2 j (ready_mono hj hji)
      obtain ⟨hjun, oj, hoj, hall⟩ := mem_ready.1 hj
      have h0 := (mem_ready.1 hr).1
      have hin : listed.getD i false = false := getD_both h0
      have hkj : keep j = true := by
        cases hkj : keep j with
        | true => rfl
        | false =>
          have := waits_listed hcl ops.size j i (fun ok hk' e he hb => by
            rw [hoj] at hk'
            obtain rfl := Option.some.inj hk'
            exact hall e he hb) (hwt j (Array.getElem?_eq_some_iff.1 hoj).1 hji hkj)
          rw [hin] at this; cases this
      rw [if_pos hkj] at h1 ⊢
      have hnot : ∀ e ∈ oj.after, Region.binds md e = true → e.on ≠ i := fun e he hb heq => by
        have h1 := hall e he hb
        rw [heq, hin] at h1; cases h1
      have h2 := wpOp_putIf (Q := NoQ) hoj (hfree j oj hoj hji hjun hnot) (fun cs b => hsel i oi cs b hi) (fun cs b => hsel j oj cs b hoj) (fun _ _ _ h => h) hy h1
      have hfree' : ∀ k ok, ops[k]? = some ok → k ≠ i → (listed.setIfInBounds j true).getD k true = false →
          (∀ e ∈ ok.after, Region.binds md e = true → e.on ≠ i) → oi.apart ops ok = true := fun k ok hk hki hun hno => by
        refine hfree k ok hk hki ?_ hno
        by_cases hjk : j = k
        · subst hjk; exact hjun
        · rw [getD_set_ne true hjk] at hun; exact hun
      refine wpOp_mono (fun a' w' h3 => ⟨h3.2.1, ih (listed.setIfInBounds j true) a' w' (closed_set hcl hj) hfree' (ready_mono hr (Ne.symm hji)) (yieldsIf_mono (fun x hx => h3.2.1.trans (Below.mono hx h3.2.1.size)) h3.1) ?_⟩) h2
      rw [Array.setIfInBounds_comm _ _ hji]
      exact h3.2.2
end
end Go.Proofs.YthfilnflgahcjaaGreatDoor

namespace Go.Proofs.YthfilnflgahcjaaGreatDoor
open Go.RowKit
section
variable {P : Program} {ops : Array Oper} {md : Region.Mode} {Q : Exit → Act → World → Prop} {keep : Nat → Bool}
theorem run_v {α : Type} (f : α → Value) : ∀ (s : Sem α) (w : World) {n : Next} {w' : World}, (s.bind fun x => Sem.pure (Next.value (f x))).run P w = .ok n w' → ∃ u, n = .value u
  | .pure a, w, n, w', h => by simp only [Sem.bind, Sem.run, Result.ok.injEq] at h; exact ⟨_, h.1.symm⟩
  | .load m a k, w, n, w', h => by
    simp only [Sem.bind] at h
    unfold Sem.run at h
    repeat' split at h
    all_goals first | exact run_v f _ _ h | (cases h; done)
  | .store m a v k, w, n, w', h => by
    simp only [Sem.bind] at h
    cases v <;> (simp only [Sem.run] at h; repeat' split at h) <;> first | exact run_v f _ _ h | (cases h; done)
  | .new o k, w, n, w', h => by simp only [Sem.bind, Sem.run] at h; exact run_v f _ _ h
  | .shape r k, w, n, w', h => by simp only [Sem.bind, Sem.run] at h; exact run_v f _ _ h
  | .freeze a m k, w, n, w', h => by simp only [Sem.bind, Sem.run] at h; exact run_v f _ _ h
  | .frozen a k, w, n, w', h => by simp only [Sem.bind, Sem.run] at h; exact run_v f _ _ h
  | .getObj r k, w, n, w', h => by
    simp only [Sem.bind] at h
    unfold Sem.run at h
    repeat' split at h
    all_goals first | exact run_v f _ _ h | (cases h; done)
  | .setObj r o k, w, n, w', h => by
    simp only [Sem.bind] at h
    unfold Sem.run at h
    repeat' split at h
    all_goals first | exact run_v f _ _ h | (cases h; done)
  | .choose q k, w, n, w', h => by
    simp only [Sem.bind] at h
    unfold Sem.run at h
    repeat' split at h
    all_goals first | exact run_v f _ _ h | (cases h; done)
  | .sys c k, w, n, w', h => by simp only [Sem.bind, Sem.run] at h; exact run_v f _ _ h
  | .program k, w, n, w', h => by simp only [Sem.bind, Sem.run] at h; exact run_v f _ _ h
  | .mark m k, w, n, w', h => by simp only [Sem.bind, Sem.run] at h; exact run_v f _ _ h
  | .halt x, w, n, w', h => by simp only [Sem.bind, Sem.run] at h; cases h
/-- What reads, and does nothing else. -/
def isRead : Op → Bool
  | .move _ | .assign _ | .pick .. | .load .. | .fieldAddr .. | .field .. | .unOp .. | .binOp .. | .indexAddr .. | .index .. | .extract .. | .convert .. | .slice .. | .lookup .. | .typeAssert .. | .build .. | .makeInterface .. | .makeFunc .. => true
  | .call c => match c.callee with
    | .builtin .len | .builtin .cap | .builtin .min | .builtin .max => true
    | _ => false
  | _ => false
theorem read_value {o : Oper} {ρ : Operand → Value} {w w' : World} {n : Next} (h : isRead o.op = true) (hr : (execOp ρ o).run P w = .ok n w') : ∃ u, n = .value u := by
  obtain ⟨dst, op, ty, pos, af, g⟩ := o
  cases op <;> first | (cases h; done) | skip
  case move x => simp only [execOp] at hr; simp only [Pure.pure, Sem.run, Result.ok.injEq] at hr; exact ⟨_, hr.1.symm⟩
  case assign x => simp only [execOp] at hr; simp only [Pure.pure, Sem.run, Result.ok.injEq] at hr; exact ⟨_, hr.1.symm⟩
  case pick c x y => simp only [execOp] at hr; exact run_v (P := P) (fun b => if b = true then ρ x else ρ y) _ w hr
  case call c =>
    obtain ⟨cal, args, ats⟩ := c
    cases cal with
    | value f => cases h
    | invoke r m => cases h
    | builtin b =>
      cases b <;> first | (cases h; done) | skip
      all_goals (simp only [execOp, resolve, invoke, builtin] at hr; exact run_v (P := P) id _ w hr)
  all_goals (simp only [execOp] at hr; exact run_v (P := P) id _ w hr)
end
end Go.Proofs.YthfilnflgahcjaaGreatDoor

namespace Go.Proofs.YthfilnflgahcjaaGreatDoor
open Go.RowKit
section
variable {P : Program} {ops : Array Oper} {md : Region.Mode} {Q : Exit → Act → World → Prop} {keep : Nat → Bool}
def wpSched (P : Program) (ops : Array Oper) (keep : Nat → Bool) (Q : Exit → Act → World → Prop) : List (Bool × Nat) → Act → World → Prop
  | [], a, w => Q .normal a w
  | (true, i) :: r, a, w => ∃ oi v, ops[i]? = some oi ∧ YieldsIf P ops (upS w) oi v a ∧ wpSched P ops keep Q r (a.put oi.dst v) w
  | (false, i) :: r, a, w =>
    if keep i = true then wpOp P ops NoQ i (fun a' w' => Below w.heap.size w w' ∧ wpSched P ops keep Q r a' w') a w
    else wpOp P ops Q i (wpSched P ops keep Q r) a w
def checkB (md : Region.Mode) (ops : Array Oper) (keep : Nat → Bool) : List (Bool × Nat) → Array Bool → Bool
  | [], listed => (Region.ready md ops listed).isEmpty
  | (true, i) :: r, listed => (Region.ready md ops listed).contains i && (Region.free md ops listed i && (keep i && (((List.range ops.size).all fun j => j == i || (keep j || waitsB md ops ops.size j i)) && checkB md ops keep r (listed.setIfInBounds i true))))
  | (false, i) :: r, listed => (Region.ready md ops listed == [i]) && checkB md ops keep r (listed.setIfInBounds i true)
theorem sched_sound (hs : Region.noSelect ops = true) : ∀ (l : List (Bool × Nat)) (listed : Array Bool) (a : Act) (w : World), checkB md ops keep l listed = true → Closed md ops listed → wpSched P ops keep Q l a w → wpAnyU P md ops keep Q l.length listed a w
  | [], listed, a, w, hc, _, h => ⟨by simpa [checkB] using hc, h⟩
  | (true, i) :: r, listed, a, w, hc, hcl, ⟨oi, v, hi, hy, h⟩ => by
    simp only [checkB, Bool.and_eq_true] at hc
    obtain ⟨h1, h2, h3, h4, h5⟩ := hc
    have hr : i ∈ Region.ready md ops listed := by simpa using h1
    refine wpAnyU_first hi (Region.noSelect_spec hs) h3 (fun j hj hji hkj => ?_) r.length listed a w hcl (Region.free_spec hi h2) hr hy (sched_sound hs r _ _ _ h5 (closed_set hcl hr) h)
    have := List.all_eq_true.1 h4 j (List.mem_range.2 hj)
    simpa [hji, hkj] using this
  | (false, i) :: r, listed, a, w, hc, hcl, h => by
    simp only [checkB, Bool.and_eq_true, beq_iff_eq] at hc
    obtain ⟨h1, h2⟩ := hc
    have hr : i ∈ Region.ready md ops listed := by rw [h1]; exact List.mem_cons_self
    refine ⟨fun h0 => (by rw [h0] at h1; cases h1), fun j hj => ?_⟩
    rw [h1] at hj
    obtain rfl : j = i := by simpa using hj
    rw [wpSched] at h
    split
    · rename_i hk
      rw [if_pos hk] at h
      exact wpOp_mono (fun a' w' h' => ⟨h'.1, sched_sound hs r _ _ _ h2 (closed_set hcl hr) h'.2⟩) h
    · rename_i hk
      rw [if_neg hk] at h
      exact wpOp_mono (fun a' w' h' => sched_sound hs r _ _ _ h2 (closed_set hcl hr) h') h
def upC (w : World) : World → Prop := fun w' => ∃ u : Up w, w' = u.x
def nthL : List Oper → Nat → Option Oper
  | [], _ => none
  | o :: _, 0 => some o
  | _ :: l, n + 1 => nthL l n
theorem nthL_get : ∀ (l : List Oper) (n : Nat), nthL l n = l[n]?
  | [], n => by simp [nthL]
  | o :: l, 0 => rfl
  | o :: l, n + 1 => by rw [nthL, nthL_get l n]; simp
def pickL (L : List Oper) : List Nat → List Oper
  | [] => []
  | i :: r => match nthL L i with
    | some o => o :: pickL L r
    | none => pickL L r
/-- One that makes memory, in the frame that is there. -/
def wpLoud (P : Program) (L : List Oper) (i : Nat) (K : Act → World → Prop) (a : Act) (w : World) : Prop :=
  wpList P L.toArray (fun e a' w' => e = .normal ∧ K a' w') (pickL L [i]) a w
def wpCalm (P : Program) (L : List Oper) (Q : Exit → Act → World → Prop) : List (List Nat × Nat) → List Nat → List Nat → Act → World → Prop
  | [], S, T, a, w => wpQuiet P L.toArray (upC w) (fun a' => wpList P L.toArray Q (pickL L T) a' w) (pickL L S) a
  | (S, i) :: r, S', T, a, w => wpQuiet P L.toArray (upC w) (fun a' => wpLoud P L i (fun a'' w'' => Below w.heap.size w w'' ∧ wpCalm P L Q r S' T a'' w'') a' w) (pickL L S) a
def reads (L : List Oper) (S : List Nat) : Bool := S.all fun i => match nthL L i with | some o => isRead o.op | none => false
def tailS (S T : List Nat) : List (Bool × Nat) := S.map (fun i => (true, i)) ++ T.map (fun i => (false, i))
def schedOf : List (List Nat × Nat) → List Nat → List Nat → List (Bool × Nat)
  | [], S, T => tailS S T
  | (S, i) :: r, S', T => S.map (fun i => (true, i)) ++ (false, i) :: schedOf r S' T
def partsB (L : List Oper) (T : List Nat) : List (List Nat × Nat) → Bool
  | [] => true
  | (S, i) :: r => reads L S && ((nthL L i).isSome && (!T.contains i && partsB L T r))
def calmB (L : List Oper) (A : List (List Nat × Nat)) (S T : List Nat) : Bool :=
  Region.noSelect L.toArray && (partsB L T A && (reads L S && ((T.all fun i => (nthL L i).isSome) && ((schedOf A S T).length == L.length && checkB .any L.toArray (fun j => !T.contains j) (schedOf A S T) (Array.replicate L.length false)))))
theorem seg_quiet {L : List Oper} {r : List (Bool × Nat)} {w : World} {K : Act → Prop} (hK : ∀ a, K a → wpSched P L.toArray keep Q r a w) : ∀ (S : List Nat) (a : Act), reads L S = true →
    wpQuiet P L.toArray (upC w) K (pickL L S) a → wpSched P L.toArray keep Q (S.map (fun i => (true, i)) ++ r) a w
  | [], a, _, h => hK a h
  | i :: S, a, hr, h => by
    simp only [reads, List.all_cons, Bool.and_eq_true] at hr
    obtain ⟨h1, h2⟩ := hr
    cases ho : nthL L i with
    | none => rw [ho] at h1; cases h1
    | some o =>
      rw [ho] at h1
      simp only [pickL, ho, wpQuiet] at h
      have hi : L.toArray[i]? = some o := by rw [List.getElem?_toArray, ← nthL_get, ho]
      by_cases hw : Region.wanted o (yielded L.toArray a.tmps) = true
      · rw [if_pos hw] at h
        obtain ⟨v, h3, h4⟩ := h
        refine ⟨o, v, hi, .inl ⟨hw, fun x hx => ?_⟩, seg_quiet hK S _ h2 h4⟩
        have h5 := h3 x ⟨⟨x, hx⟩, rfl⟩
        unfold Oper.quietAt at h5
        generalize hres : (execOp a.eval o).run P x = res at h5
        cases res with
        | halt y z => simp only [Oper.quietUpon] at h5
        | ok n z =>
          obtain ⟨u, rfl⟩ := read_value h1 hres
          simp only [Oper.quietUpon] at h5
          rw [h5.1, h5.2]
      · rw [if_neg hw] at h
        exact ⟨o, undef, hi, .inr ⟨by simpa using hw, rfl⟩, seg_quiet hK S _ h2 h⟩
theorem oper_only {o : Oper} {a : Act} {w : World} {K K' : Act → World → Prop} (h : o.wp P a w K (fun e a' w' => e = .normal ∧ K' a' w')) : o.wp P a w K NoQ := by
  unfold Oper.wp at *
  generalize (execOp a.eval o).run P w = res at *
  cases res with
  | ok n w' =>
    cases n <;> simp only [Oper.upon] at h ⊢ <;> first | exact h | skip
    exact Calls.mono h fun e w'' he => by
      cases e with
      | returned v => exact he
      | panicked c => exact Exit.noConfusion he.1
      | outgrown => exact he.elim fun _ h => h.elim fun _ h => Exit.noConfusion h.1
  | halt x w' => cases x <;> simp only [Oper.upon] at h ⊢; exact Exit.noConfusion h.1
theorem seg_loud {L : List Oper} {r : List (Bool × Nat)} {i : Nat} {a : Act} {w : World} {K : Act → World → Prop} (hk : keep i = true) (hn : (nthL L i).isSome = true) (hK : ∀ a w', K a w' → Below w.heap.size w w' ∧ wpSched P L.toArray keep Q r a w')
    (h : wpLoud P L i K a w) : wpSched P L.toArray keep Q ((false, i) :: r) a w := by
  rw [wpSched, if_pos hk]
  unfold wpLoud at h
  cases ho : nthL L i with
  | none => rw [ho] at hn; cases hn
  | some o =>
    have hi : L.toArray[i]? = some o := by rw [List.getElem?_toArray, ← nthL_get, ho]
    simp only [pickL, ho, wpList] at h
    unfold wpOp
    simp only [hi]
    split
    · rename_i hw
      rw [if_pos hw] at h
      rcases h with h | ⟨_, _, _, h, _⟩
      · exact .inl (Oper.wp_mono (fun a' w' h' => hK a' w' h'.2) (oper_only h))
      · cases h
    · rename_i hw
      rw [if_neg hw] at h
      exact hK _ _ h.2
theorem seg_tail {L : List Oper} : ∀ (T : List Nat) (a : Act) (w : World), (∀ i ∈ T, keep i = false ∧ (nthL L i).isSome = true) → wpList P L.toArray Q (pickL L T) a w → wpSched P L.toArray keep Q (T.map (fun i => (false, i))) a w
  | [], a, w, _, h => h
  | i :: T, a, w, hT, h => by
    obtain ⟨hk, hn⟩ := hT i List.mem_cons_self
    rw [List.map_cons, wpSched, if_neg (by rw [hk]; exact Bool.false_ne_true)]
    cases ho : nthL L i with
    | none => rw [ho] at hn; cases hn
    | some o =>
      have hi : L.toArray[i]? = some o := by rw [List.getElem?_toArray, ← nthL_get, ho]
      simp only [pickL, ho, wpList] at h
      have ih := fun a w => seg_tail T a w (fun j hj => hT j (List.mem_cons_of_mem _ hj))
      unfold wpOp
      simp only [hi]
      split
      · rename_i hw
        rw [if_pos hw] at h
        exact h.imp (Oper.wp_mono ih) id
      · rename_i hw
        rw [if_neg hw] at h
        exact ih _ _ h
theorem calm_sched {L : List Oper} {S T : List Nat} (hS : reads L S = true) (hT : ∀ i ∈ T, keep i = false ∧ (nthL L i).isSome = true) (hkT : ∀ i, T.contains i = false → keep i = true) : ∀ (A : List (List Nat × Nat)) (a : Act) (w : World), partsB L T A = true →
    wpCalm P L Q A S T a w → wpSched P L.toArray keep Q (schedOf A S T) a w
  | [], a, w, _, h => seg_quiet (fun a' h' => seg_tail T a' w hT h') S a hS h
  | (S1, i) :: r, a, w, hA, h => by
    simp only [partsB, Bool.and_eq_true, Bool.not_eq_true'] at hA
    obtain ⟨h1, h2, h3, h4⟩ := hA
    exact seg_quiet (fun a' h' => seg_loud (hkT i h3) h2 (fun a'' w'' h'' => ⟨h''.1, calm_sched hS hT hkT r a'' w'' h4 h''.2⟩) h') S1 a h1 h
/-- A region that draws its order. -/
theorem wp_calm {id : Nat} {L : List Oper} {a : Act} {w : World} (A : List (List Nat × Nat)) (S T : List Nat) (hm : P.follows .mixedOrders = true) (hB : calmB L A S T = true) (h : wpCalm P L Q A S T a w.drew) : (Code.region id L.toArray true).wp P Q a w := by
  simp only [calmB, Bool.and_eq_true, beq_iff_eq] at hB
  obtain ⟨h1, h2, h3, h4, h5, h6⟩ := hB
  refine wp_region_any hm (wpAny_of_U (keep := fun j => !T.contains j) _ _ _ _ ?_)
  have h7 := sched_sound (P := P) (Q := Q) h1 (schedOf A S T) (Array.replicate L.length false) a w.drew h6 ⟨by simp, fun j oj _ hl => by
    rcases Nat.lt_or_ge j L.length with hj | hj
    · simp [hj] at hl
    · simp [hj] at hl⟩ (calm_sched h3 (fun i hi => ⟨by simpa using hi, List.all_eq_true.1 h4 i hi⟩) (fun i hi => by rw [hi]; rfl) A a w.drew h2 h)
  rw [h5] at h7
  simpa using h7
end
end Go.Proofs.YthfilnflgahcjaaGreatDoor

namespace Go.Proofs.YthfilnflgahcjaaGreatDoor
open Go.RowKit Go.Shelf
set_option linter.unusedVariables false
set_option linter.unusedSimpArgs false
attribute [local go_sem] Oper.semAt_some
def intE (n : Int) : List Value := [.int .i64 n]
theorem cutI_nonneg (n : Int) : 0 ≤ cutI n := by unfold cutI; split <;> (try split) <;> omega
theorem cutI_le (n : Int) : cutI n ≤ 4611686018427387904 := by unfold cutI; split <;> (try split) <;> omega
/-- Numbers behind a sum. -/
def plusF : Int → List Int → Int
  | t, [] => t
  | t, n :: r => plusF (t + (if 4611686018427387904 - t < cutI n then 4611686018427387904 - t else cutI n)) r
def plusI (l : List Int) : Int := plusF 0 l
theorem plusF_at {t : Int} {l : List Int} {j : Nat} {n : Int} (h : l[j]? = some n) : plusF t (l.drop j) = plusF (t + (if 4611686018427387904 - t < cutI n then 4611686018427387904 - t else cutI n)) (l.drop (j + 1)) := by
  obtain ⟨hj, hx⟩ := List.getElem?_eq_some_iff.1 h
  rw [List.drop_eq_getElem_cons hj, hx]; rfl
set_option maxRecDepth 100000 in
set_option maxHeartbeats 4000000 in
theorem plus_any (l : List Int) (v : Value) (B : Nat) (w : World) (hB : B ≤ w.heap.size) (hv : SRow 1 intE B w v l) :
    Calls Tryz.prog 34 #[v] w fun e w' => e = .returned (.int .i64 (plusI l)) ∧ w' = w := by
  obtain ⟨a, c, rfl, h1, h2, h3⟩ := hv
  have H3 := hidE h3
  obtain ⟨n, hn⟩ : ∃ n, l.length = n := ⟨_, rfl⟩
  have HN := hidE hn
  rw [hn] at h1 ⊢
  obtain ⟨res, hres⟩ : ∃ r, plusI l = r := ⟨_, rfl⟩
  have HR := hidE hres
  rw [hres]
  clear h3 hn hres
  go_enter Tryz.func34, Tryz.ntmps34
  go_wp2_with fail
  go_loopw [3, 8] (fun s i wr => ∃ (t : Int) (j : Nat), j ≤ n ∧ s = .int .i64 t ∧ i = .int .i64 j ∧ 0 ≤ t ∧ t ≤ 4611686018427387904 ∧ plusF t (l.drop j) = res ∧ wr = w) (fun _ i _ => n - (intOf i).toNat)
  case atStart => exact ⟨0, 0, Nat.zero_le _, rfl, rfl, by omega, by omega, HR.out, rfl⟩
  case round =>
    obtain ⟨t, j, hj, rfl, rfl, ht0, ht1, hrs, rfl⟩ := hrel
    have HRS := hidE hrs
    clear hrs
    by_cases hlt : j < n
    · have hlt' : (j : Int) < n := by omega
      obtain ⟨x, hx⟩ : ∃ q, l[j]? = some q := ⟨_, List.getElem?_eq_getElem (by have := HN.out; omega)⟩
      obtain ⟨bl, off, rfl, hbl, hc⟩ := H3.out.resolve_left (by intro e; rw [e] at hx; simp at hx)
      have cx := hc j x hx 0 _ rfl
      rw [Nat.mul_one, Nat.add_zero] at cx
      have HE := plusF_at (t := t) hx
      rw [HRS.out] at HE
      have HE := hidE HE
      clear hx hc
      have hc0 := cutI_nonneg x
      have hc1 := cutI_le x
      have HC := hidE (fun W => cut_any x W)
      obtain ⟨cx1, hcx⟩ : ∃ q, cutI x = q := ⟨_, rfl⟩
      rw [hcx] at HE hc0 hc1
      rw [hcx] at HC
      clear hcx
      go_wp2_with (go_at_call 52; refine (HC.out _).mono ?_; rintro e _ ⟨rfl, rfl⟩)
      go_roundw
      case rel => exact ⟨_, j + 1, by omega, rfl, by go_num, by split <;> omega, by split <;> omega, HE.out.symm, trivial⟩
      case measure => simp [intOf]; omega
    · have HF : Hid (res = t) := by
        show _ = _
        rw [← HRS.out, List.drop_of_length_le (by have := HN.out; omega)]
        rfl
      have hlt' : ¬ (j : Int) < n := by omega
      go_wp2_with fail
      go_ret
      exact ⟨by rw [HF.out]; rfl, rfl⟩
/-- The share of a number in another. -/
def shareI (a b : Int) : Int := (cutI a + ((if cutI b < 1 then 1 else cutI b) - 1)) / (if cutI b < 1 then 1 else cutI b)
set_option maxRecDepth 100000 in
set_option maxHeartbeats 4000000 in
theorem share_any (a b : Int) (w : World) : Calls Tryz.prog 32 #[.int .i64 a, .int .i64 b] w fun e w' => e = .returned (.int .i64 (shareI a b)) ∧ w' = w := by
  have h0 := cutI_nonneg a
  have h1 := cutI_le a
  have k0 := cutI_nonneg b
  have k1 := cutI_le b
  have HA := hidE (fun W => cut_any a W)
  have HB := hidE (fun W => cut_any b W)
  unfold shareI
  generalize cutI a = x at *
  generalize cutI b = y at *
  obtain ⟨m, hm⟩ : ∃ m, (if y < 1 then 1 else y) = m := ⟨_, rfl⟩
  have hm1 : 1 ≤ m := by rw [← hm]; split <;> omega
  have hm2 : m ≤ 4611686018427387904 := by rw [← hm]; split <;> omega
  rw [hm]
  go_enter Tryz.func32, Tryz.ntmps32
  go_wp2_with (first | (go_at_call_of 52 a; refine (HA.out _).mono ?_; rintro e _ ⟨rfl, rfl⟩) | (go_at_call_of 52 b; refine (HB.out _).mono ?_; rintro e _ ⟨rfl, rfl⟩))
  go_ret
  exact ⟨rfl, rfl⟩
end Go.Proofs.YthfilnflgahcjaaGreatDoor

namespace Go.Proofs.YthfilnflgahcjaaGreatDoor
open Go.RowKit Go.Shelf Go.Maps
set_option linter.unusedVariables false
set_option linter.unusedSimpArgs false
theorem dec_yes {p : Prop} {i : Decidable p} (h : p) : @decide p i = true := decide_eq_true h
theorem dec_no {p : Prop} {i : Decidable p} (h : ¬ p) : @decide p i = false := decide_eq_false h
def strE (s : ByteArray) : List Value := [.string s]
def strV (s : ByteArray) : Value := .string s
def okS (s : ByteArray) : Prop := s.size ≤ maxLen
theorem strT : KeyT 9 strV okS := ⟨string_keyed Tryz.underlying9, fun x hx => ⟨.string x.data.toList, by simp [keyOf, Tryz.underlying9, mapKey, strV]; exact hx⟩, fun x y h => by injection h⟩
theorem zero164 (w : World) : (zeroValue 164).run Tryz.prog w = .ok (.agg #[]) w := by kernel_rfl
theorem map163 : Tryz.prog.underlying 163 = some (.map 9 164) := by kernel_rfl
theorem map170 : Tryz.prog.underlying 170 = some (.map 66 164) := by kernel_rfl
theorem map200 : Tryz.prog.underlying 200 = some (.map 64 164) := by kernel_rfl
def labC (x : ByteArray × Int) : List Value := [.string x.1, .int .i64 x.2]
def labV (x : ByteArray × Int) : Value := .agg #[.string x.1, .int .i64 x.2]
def okL (x : ByteArray × Int) : Prop := okS x.1 ∧ W64 x.2
abbrev EndR := ByteArray × ByteArray × Bool × Int
def endC (x : EndR) : List Value := [.string x.1, .string x.2.1, .bool x.2.2.1, .int .i64 x.2.2.2]
def endV (x : EndR) : Value := .agg #[.string x.1, .string x.2.1, .bool x.2.2.1, .int .i64 x.2.2.2]
def okE (x : EndR) : Prop := okS x.1 ∧ okS x.2.1 ∧ W64 x.2.2.2
def endK (x : EndR) : EndR := (x.1, x.2.1, x.2.2.1, 0)
abbrev KeyR := ByteArray × ByteArray × Int × Int
def keyC (x : KeyR) : List Value := [.string x.1, .string x.2.1, .int .i64 x.2.2.1, .int .i64 x.2.2.2]
def keyV (x : KeyR) : Value := .agg #[.string x.1, .string x.2.1, .int .i64 x.2.2.1, .int .i64 x.2.2.2]
def okK (x : KeyR) : Prop := okS x.1 ∧ okS x.2.1 ∧ W64 x.2.2.1 ∧ W64 x.2.2.2
def keyK (x : KeyR) : KeyR := (x.1, x.2.1, 0, 0)
theorem w64_zero : W64 0 := w64 (by omega) (by omega)
theorem agg_inj {a b : Array Value} (h : Value.agg a = Value.agg b) : a.toList = b.toList := by injection h with h; rw [h]
theorem endT : KeyT 64 endV okE := ⟨Keyed.of_law law64, fun x hx => key64 _ _ _ _ hx.1 hx.2.1 hx.2.2, fun x y h => by
  obtain ⟨a, b, c, d⟩ := x
  obtain ⟨a', b', c', d'⟩ := y
  have := agg_inj h
  simp at this
  obtain ⟨rfl, rfl, rfl, rfl⟩ := this
  rfl⟩
theorem keyT : KeyT 66 keyV okK := ⟨Keyed.of_law law66, fun x hx => key66 _ _ _ _ hx.1 hx.2.1 hx.2.2.1 hx.2.2.2, fun x y h => by
  obtain ⟨a, b, c, d⟩ := x
  obtain ⟨a', b', c', d'⟩ := y
  have := agg_inj h
  simp at this
  obtain ⟨rfl, rfl, rfl, rfl⟩ := this
  rfl⟩
theorem labT : KeyT 42 labV okL := ⟨Keyed.of_law law42, fun x hx => key42 _ _ hx.1 hx.2, fun x y h => by
  obtain ⟨a, b⟩ := x
  obtain ⟨a', b'⟩ := y
  have := agg_inj h
  simp at this
  obtain ⟨rfl, rfl⟩ := this
  rfl⟩
theorem typT : KeyT 62 labV okL := ⟨Keyed.of_law law62, fun x hx => key62 _ _ hx.1 hx.2, labT.inj⟩
theorem elem28 : ElemIs 28 42 2 24 (.agg #[.string ⟨#[]⟩, .int .i64 0]) := elem_of (by kernel_rfl) (by kernel_rfl) rfl (by decide) (by decide)
theorem elem29 : ElemIs 29 62 2 24 (.agg #[.string ⟨#[]⟩, .int .i64 0]) := elem_of (by kernel_rfl) (by kernel_rfl) rfl (by decide) (by decide)
theorem elem30 : ElemIs 30 64 4 48 (.agg #[.string ⟨#[]⟩, .string ⟨#[]⟩, .bool false, .int .i64 0]) := elem_of (by kernel_rfl) (by kernel_rfl) rfl (by decide) (by decide)
theorem elem31 : ElemIs 31 66 4 48 (.agg #[.string ⟨#[]⟩, .string ⟨#[]⟩, .int .i64 0, .int .i64 0]) := elem_of (by kernel_rfl) (by kernel_rfl) rfl (by decide) (by decide)
theorem elem44 : ElemIs 44 2 1 8 (.int .i64 0) := elem_of (by kernel_rfl) (by kernel_rfl) rfl (by decide) (by decide)
theorem elem43 : ElemIs 43 9 1 16 (.string ⟨#[]⟩) := elem_of (by kernel_rfl) (by kernel_rfl) rfl (by decide) (by decide)
theorem one_lab (x : ByteArray × Int) : ∀ u ∈ labC x, u.oneCell' = true := fun u hu => by simp only [labC, List.mem_cons, List.not_mem_nil, or_false] at hu; rcases hu with rfl | rfl <;> rfl
theorem one_end (x : EndR) : ∀ u ∈ endC x, u.oneCell' = true := fun u hu => by simp only [endC, List.mem_cons, List.not_mem_nil, or_false] at hu; rcases hu with rfl | rfl | rfl | rfl <;> rfl
theorem one_key (x : KeyR) : ∀ u ∈ keyC x, u.oneCell' = true := fun u hu => by simp only [keyC, List.mem_cons, List.not_mem_nil, or_false] at hu; rcases hu with rfl | rfl | rfl | rfl <;> rfl
theorem one_int (x : Int) : ∀ u ∈ intE x, u.oneCell' = true := fun u hu => by simp only [intE, List.mem_cons, List.not_mem_nil, or_false] at hu; rw [hu]; rfl
theorem one_str (x : ByteArray) : ∀ u ∈ strE x, u.oneCell' = true := fun u hu => by simp only [strE, List.mem_cons, List.not_mem_nil, or_false] at hu; rw [hu]; rfl
end Go.Proofs.YthfilnflgahcjaaGreatDoor

