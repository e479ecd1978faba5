/- Regions that draw their order, whose operations and callees leave what was there: one walk in the text's order serves every order. Regions that draw their order: what only reads may be taken first, what makes memory of its own is taken as it stands. The same as a walk: what only reads, in the text's order; then what makes memory, one by one. -/
import Derived.Below
import Derived.BigQuiet
import Derived.WalkKit
import Derived.OrdersHeld
namespace Go.Proofs.YthfilnflgahcjaaGreatDoor
open Go.RowKit
/-- A world in which all that was there is as it was. -/
structure Up (w : World) where
  x : World
  b : Below w.heap.size w x
variable {P : Program}
theorem wp_up {id : Nat} {Q : Exit → Act → World → Prop} {a : Act} {w : World} {l : List Oper} (hm : P.follows .mixedOrders = true) (hB : Region.lexB .any l.toArray = true)
    (h : wpQuiet P l.toArray (fun w' => ∃ u : Up w, w' = u.x) (fun a' => ∀ w', (∃ u : Up w, w' = u.x) → Q .normal a' w') l a) : (Code.region id l.toArray true).wp P Q a w :=
  wp_region_quiet (C := fun w' => ∃ u : Up w, w' = u.x) hm hB ⟨⟨w.drew, (Below.refl _ w).drew⟩, rfl⟩ (by simpa using h)
theorem Up.cell {w : World} (u : Up w) {p : Addr} {v : Value} (h : w.cell? p = some v) : u.x.cell? p = some v := by
  refine (u.b.cell ?_).trans h
  rcases Nat.lt_or_ge p.block w.heap.size with hl | hl
  · exact hl
  · simp [World.cell?, Array.getElem?_eq_none hl] at h
theorem Up.call {w : World} {u : Up w} {f : FuncId} {args : Array Value} {v : Value} (h : Calls P f args u.x fun e w' => e = .returned v ∧ Below u.x.heap.size u.x w') : Calls P f args u.x fun e w'' => e = .returned v ∧ ∃ y : Up w, w'' = y.x :=
  h.mono fun _ w'' ⟨he, hb⟩ => ⟨he, ⟨w'', u.b.trans (hb.mono u.b.size)⟩, rfl⟩
end Go.Proofs.YthfilnflgahcjaaGreatDoor

namespace Go.Proofs.YthfilnflgahcjaaGreatDoor
open Go.RowKit
section
variable {P : Program} {ops : Array Oper} {md : Region.Mode} {Q : Exit → Act → World → Prop} {keep : Nat → Bool}
theorem getD_both {listed : Array Bool} {i : Nat} (h : listed.getD i true = false) : listed.getD i false = false := by
  rcases Nat.lt_or_ge i listed.size with h' | h'
  · simp [h'] at h ⊢; exact h
  · simp [Array.getElem?_eq_none h'] at h
def NoQ : Exit → Act → World → Prop := fun _ _ _ => False
/-- Whatever order is picked from here on; what is marked leaves what was there. -/
def wpAnyU (P : Program) (md : Region.Mode) (ops : Array Oper) (keep : Nat → Bool) (Q : Exit → Act → World → Prop) : Nat → Array Bool → Act → World → Prop
  | 0, listed, a, w => Region.ready md ops listed = [] ∧ Q .normal a w
  | fuel + 1, listed, a, w =>
    (Region.ready md ops listed = [] → Q .normal a w) ∧
    ∀ i ∈ Region.ready md ops listed,
      if keep i = true then wpOp P ops NoQ i (fun a' w' => Below w.heap.size w w' ∧ wpAnyU P md ops keep Q fuel (listed.setIfInBounds i true) a' w') a w
      else wpOp P ops Q i (wpAnyU P md ops keep Q fuel (listed.setIfInBounds i true)) a w
theorem oper_noQ {o : Oper} {a : Act} {w : World} {K : Act → World → Prop} (h : o.wp P a w K NoQ) : o.wp P a w K Q := by
  unfold Oper.wp at *
  generalize (execOp a.eval o).run P w = r at *
  cases r with
  | ok n w' =>
    cases n <;> simp only [Oper.upon] at h ⊢ <;> first | exact h | skip
    exact Calls.mono h fun e w'' he => by
      cases e with
      | returned v => exact he
      | panicked c => exact he.elim
      | outgrown => exact he.elim fun _ h => h.elim fun _ h => h.elim
  | halt x w' => cases x <;> simp only [Oper.upon] at h ⊢; exact h.elim
theorem wpOp_noQ {i : Nat} {a : Act} {w : World} {K : Act → World → Prop} (h : wpOp P ops NoQ i K a w) : wpOp P ops Q i K a w := by
  unfold wpOp at *
  split
  · rename_i ho; simpa [ho] using h
  · rename_i o ho
    simp only [ho] at h
    split
    · rename_i hw
      simp only [hw, if_true] at h
      rcases h with h | ⟨_, _, _, h⟩
      · exact .inl (oper_noQ h)
      · exact h.elim
    · rename_i hw; simp only [hw] at h; exact h
theorem wpAny_of_U : ∀ (fuel : Nat) (listed : Array Bool) (a : Act) (w : World), wpAnyU P md ops keep Q fuel listed a w → wpAny P md ops Q fuel listed a w
  | 0, _, _, _, h => h
  | fuel + 1, listed, a, w, h => ⟨h.1, fun i hi => by
      have := h.2 i hi
      split at this
      · exact wpOp_mono (fun a' w' h' => wpAny_of_U fuel _ a' w' h'.2) (wpOp_noQ this)
      · exact wpOp_mono (fun a' w' h' => wpAny_of_U fuel _ a' w' h') this⟩
/-- Who has come up, all that they waited for has. -/
def Closed (md : Region.Mode) (ops : Array Oper) (listed : Array Bool) : Prop :=
  listed.size = ops.size ∧ ∀ j oj, ops[j]? = some oj → listed.getD j false = true → ∀ e ∈ oj.after, Region.binds md e = true → listed.getD e.on false = true
theorem closed_set {listed : Array Bool} {i : Nat} (h : Closed md ops listed) (hi : i ∈ Region.ready md ops listed) : Closed md ops (listed.setIfInBounds i true) := by
  obtain ⟨_, oi, hoi, hall⟩ := mem_ready.1 hi
  have up : ∀ k, listed.getD k false = true → (listed.setIfInBounds i true).getD k false = true := fun k hk => by
    by_cases hik : i = k
    · subst hik
      have : i < listed.size := by
        rcases Nat.lt_or_ge i listed.size with h' | h'
        · exact h'
        · simp [Array.getElem?_eq_none h'] at hk
      simp [this]
    · rw [getD_set_ne false hik]; exact hk
  refine ⟨by simp [h.1], fun j oj hj hl e he hb => up _ ?_⟩
  by_cases hij : i = j
  · subst hij
    rw [hoi] at hj
    obtain rfl := Option.some.inj hj
    exact hall e he hb
  · rw [getD_set_ne false hij] at hl
    exact h.2 j oj hj hl e he hb
def waitsB (md : Region.Mode) (ops : Array Oper) : Nat → Nat → Nat → Bool
  | 0, _, _ => false
  | n + 1, j, i => match ops[j]? with
    | some oj => oj.after.any fun e => Region.binds md e && (e.on == i || waitsB md ops n e.on i)
    | none => false
theorem waits_listed {listed : Array Bool} (h : Closed md ops listed) : ∀ (n j i : Nat), (∀ oj, ops[j]? = some oj → ∀ e ∈ oj.after, Region.binds md e = true → listed.getD e.on false = true) → waitsB md ops n j i = true → listed.getD i false = true
  | 0, _, _, _, hw => by cases hw
  | n + 1, j, i, hj, hw => by
    unfold waitsB at hw
    split at hw
    · rename_i oj ho
      obtain ⟨e, he, hb⟩ := Array.any_eq_true'.1 hw
      simp only [Bool.and_eq_true, Bool.or_eq_true, beq_iff_eq] at hb
      have hl := hj oj ho e he hb.1
      rcases hb.2 with rfl | hb2
      · exact hl
      · exact waits_listed h n e.on i (fun ok hk e' he' hb' => h.2 _ ok hk hl e' he' hb') hb2
    · cases hw
def upS (w : World) : World → Prop := fun x => Below w.heap.size w x
theorem yieldsIf_mono {S S' : World → Prop} {o : Oper} {v : Value} {a : Act} (hs : ∀ w, S' w → S w) (h : YieldsIf P ops S o v a) : YieldsIf P ops S' o v a :=
  h.imp (fun ⟨h1, h2⟩ => ⟨h1, fun w hw => h2 w (hs w hw)⟩) id
theorem wpAnyU_first {i : Nat} {oi : Oper} {v : Value} (hi : ops[i]? = some oi) (hsel : ∀ (j : Nat) (o : Oper) cs b, ops[j]? = some o → o.op ≠ .select cs b) (hk : keep i = true)
    (hwt : ∀ j, j < ops.size → j ≠ i → keep j = false → waitsB md ops ops.size j i = true) :
    ∀ (fuel : Nat) (listed : Array Bool) (a : Act) (w : World), Closed md ops listed →
      (∀ j oj, ops[j]? = some oj → j ≠ i → listed.getD j true = false → (∀ e ∈ oj.after, Region.binds md e = true → e.on ≠ i) → oi.apart ops oj = true) →
      i ∈ Region.ready md ops listed → YieldsIf P ops (upS w) oi v a →
      wpAnyU P md ops keep Q fuel (listed.setIfInBounds i true) (a.put oi.dst v) w → wpAnyU P md ops keep Q (fuel + 1) listed a w := by
  intro fuel
  induction fuel with
  | zero =>
    intro listed a w hcl _ hr hy H
    refine ⟨fun h => (by rw [h] at hr; cases hr), fun j hj => ?_⟩
    by_cases hji : j = i
    · subst hji
      rw [if_pos hk]
      exact hy.wpOp hi (Below.refl _ _) ⟨Below.refl _ _, H⟩
    · have := ready_mono hj hji
      rw [H.1] at this
      cases this
  | succ fuel ih =>
    intro listed a w hcl hfree hr hy H
    refine ⟨fun h => (by rw [h] at hr; cases hr), fun j hj => ?_⟩
    by_cases hji : j = i
    · subst hji
      rw [if_pos hk]
      exact hy.wpOp hi (Below.refl _ _) ⟨Below.refl _ _, H⟩
    · have h1 := H.2 j (ready_mono hj hji)
      obtain ⟨hjun, oj, hoj, hall⟩ := mem_ready.1 hj
      have h0 := (mem_ready.1 hr).1
      have hin : listed.getD i false = false := getD_both h0
      have hkj : keep j = true := by
        cases hkj : keep j with
        | true => rfl
        | false =>
          have := waits_listed hcl ops.size j i (fun ok hk' e he hb => by
            rw [hoj] at hk'
            obtain rfl := Option.some.inj hk'
            exact hall e he hb) (hwt j (Array.getElem?_eq_some_iff.1 hoj).1 hji hkj)
          rw [hin] at this; cases this
      rw [if_pos hkj] at h1 ⊢
      have hnot : ∀ e ∈ oj.after, Region.binds md e = true → e.on ≠ i := fun e he hb heq => by
        have h1 := hall e he hb
        rw [heq, hin] at h1; cases h1
      have h2 := wpOp_putIf (Q := NoQ) hoj (hfree j oj hoj hji hjun hnot) (fun cs b => hsel i oi cs b hi) (fun cs b => hsel j oj cs b hoj) (fun _ _ _ h => h) hy h1
      have hfree' : ∀ k ok, ops[k]? = some ok → k ≠ i → (listed.setIfInBounds j true).getD k true = false →
          (∀ e ∈ ok.after, Region.binds md e = true → e.on ≠ i) → oi.apart ops ok = true := fun k ok hk hki hun hno => by
        refine hfree k ok hk hki ?_ hno
        by_cases hjk : j = k
        · subst hjk; exact hjun
        · rw [getD_set_ne true hjk] at hun; exact hun
      refine wpOp_mono (fun a' w' h3 => ⟨h3.2.1, ih (listed.setIfInBounds j true) a' w' (closed_set hcl hj) hfree' (ready_mono hr (Ne.symm hji)) (yieldsIf_mono (fun x hx => h3.2.1.trans (Below.mono hx h3.2.1.size)) h3.1) ?_⟩) h2
      rw [Array.setIfInBounds_comm _ _ hji]
      exact h3.2.2
end
end Go.Proofs.YthfilnflgahcjaaGreatDoor

namespace Go.Proofs.YthfilnflgahcjaaGreatDoor
open Go.RowKit
section
variable {P : Program} {ops : Array Oper} {md : Region.Mode} {Q : Exit → Act → World → Prop} {keep : Nat → Bool}
theorem run_v {α : Type} (f : α → Value) : ∀ (s : Sem α) (w : World) {n : Next} {w' : World}, (s.bind fun x => Sem.pure (Next.value (f x))).run P w = .ok n w' → ∃ u, n = .value u
  | .pure a, w, n, w', h => by simp only [Sem.bind, Sem.run, Result.ok.injEq] at h; exact ⟨_, h.1.symm⟩
  | .load m a k, w, n, w', h => by
    simp only [Sem.bind] at h
    unfold Sem.run at h
    repeat' split at h
    all_goals first | exact run_v f _ _ h | (cases h; done)
  | .store m a v k, w, n, w', h => by
    simp only [Sem.bind] at h
    cases v <;> (simp only [Sem.run] at h; repeat' split at h) <;> first | exact run_v f _ _ h | (cases h; done)
  | .new o k, w, n, w', h => by simp only [Sem.bind, Sem.run] at h; exact run_v f _ _ h
  | .shape r k, w, n, w', h => by simp only [Sem.bind, Sem.run] at h; exact run_v f _ _ h
  | .freeze a m k, w, n, w', h => by simp only [Sem.bind, Sem.run] at h; exact run_v f _ _ h
  | .frozen a k, w, n, w', h => by simp only [Sem.bind, Sem.run] at h; exact run_v f _ _ h
  | .getObj r k, w, n, w', h => by
    simp only [Sem.bind] at h
    unfold Sem.run at h
    repeat' split at h
    all_goals first | exact run_v f _ _ h | (cases h; done)
  | .setObj r o k, w, n, w', h => by
    simp only [Sem.bind] at h
    unfold Sem.run at h
    repeat' split at h
    all_goals first | exact run_v f _ _ h | (cases h; done)
  | .choose q k, w, n, w', h => by
    simp only [Sem.bind] at h
    unfold Sem.run at h
    repeat' split at h
    all_goals first | exact run_v f _ _ h | (cases h; done)
  | .sys c k, w, n, w', h => by simp only [Sem.bind, Sem.run] at h; exact run_v f _ _ h
  | .program k, w, n, w', h => by simp only [Sem.bind, Sem.run] at h; exact run_v f _ _ h
  | .mark m k, w, n, w', h => by simp only [Sem.bind, Sem.run] at h; exact run_v f _ _ h
  | .halt x, w, n, w', h => by simp only [Sem.bind, Sem.run] at h; cases h
/-- What reads, and does nothing else. -/
def isRead : Op → Bool
  | .move _ | .assign _ | .pick .. | .load .. | .fieldAddr .. | .field .. | .unOp .. | .binOp .. | .indexAddr .. | .index .. | .extract .. | .convert .. | .slice .. | .lookup .. | .typeAssert .. | .build .. | .makeInterface .. | .makeFunc .. => true
  | .call c => match c.callee with
    | .builtin .len | .builtin .cap | .builtin .min | .builtin .max => true
    | _ => false
  | _ => false
theorem read_value {o : Oper} {ρ : Operand → Value} {w w' : World} {n : Next} (h : isRead o.op = true) (hr : (execOp ρ o).run P w = .ok n w') : ∃ u, n = .value u := by
  obtain ⟨dst, op, ty, pos, af, g⟩ := o
  cases op <;> first | (cases h; done) | skip
  case move x => simp only [execOp] at hr; simp only [Pure.pure, Sem.run, Result.ok.injEq] at hr; exact ⟨_, hr.1.symm⟩
  case assign x => simp only [execOp] at hr; simp only [Pure.pure, Sem.run, Result.ok.injEq] at hr; exact ⟨_, hr.1.symm⟩
  case pick c x y => simp only [execOp] at hr; exact run_v (P := P) (fun b => if b = true then ρ x else ρ y) _ w hr
  case call c =>
    obtain ⟨cal, args, ats⟩ := c
    cases cal with
    | value f => cases h
    | invoke r m => cases h
    | builtin b =>
      cases b <;> first | (cases h; done) | skip
      all_goals (simp only [execOp, resolve, invoke, builtin] at hr; exact run_v (P := P) id _ w hr)
  all_goals (simp only [execOp] at hr; exact run_v (P := P) id _ w hr)
end
end Go.Proofs.YthfilnflgahcjaaGreatDoor

