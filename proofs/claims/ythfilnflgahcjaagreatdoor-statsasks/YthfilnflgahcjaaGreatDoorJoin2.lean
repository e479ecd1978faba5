/- The walk of a region that draws its order: first what reads, then, one by one, what makes memory, then what waits for all. A region that draws its order: first what is quiet in a class of worlds, calls too, in whatever order; then what waits for all of it, one by one. -/
import Derived.Test.YthfilnflgahcjaaGreatDoorJoin1
namespace Go.Proofs.YthfilnflgahcjaaGreatDoor
open Go.RowKit
section
variable {P : Program} {ops : Array Oper} {md : Region.Mode} {Q : Exit → Act → World → Prop} {keep : Nat → Bool}
def wpSched (P : Program) (ops : Array Oper) (keep : Nat → Bool) (Q : Exit → Act → World → Prop) : List (Bool × Nat) → Act → World → Prop
  | [], a, w => Q .normal a w
  | (true, i) :: r, a, w => ∃ oi v, ops[i]? = some oi ∧ YieldsIf P ops (upS w) oi v a ∧ wpSched P ops keep Q r (a.put oi.dst v) w
  | (false, i) :: r, a, w =>
    if keep i = true then wpOp P ops NoQ i (fun a' w' => Below w.heap.size w w' ∧ wpSched P ops keep Q r a' w') a w
    else wpOp P ops Q i (wpSched P ops keep Q r) a w
def checkB (md : Region.Mode) (ops : Array Oper) (keep : Nat → Bool) : List (Bool × Nat) → Array Bool → Bool
  | [], listed => (Region.ready md ops listed).isEmpty
  | (true, i) :: r, listed => (Region.ready md ops listed).contains i && (Region.free md ops listed i && (keep i && (((List.range ops.size).all fun j => j == i || (keep j || waitsB md ops ops.size j i)) && checkB md ops keep r (listed.setIfInBounds i true))))
  | (false, i) :: r, listed => (Region.ready md ops listed == [i]) && checkB md ops keep r (listed.setIfInBounds i true)
theorem sched_sound (hs : Region.noSelect ops = true) : ∀ (l : List (Bool × Nat)) (listed : Array Bool) (a : Act) (w : World), checkB md ops keep l listed = true → Closed md ops listed → wpSched P ops keep Q l a w → wpAnyU P md ops keep Q l.length listed a w
  | [], listed, a, w, hc, _, h => ⟨by simpa [checkB] using hc, h⟩
  | (true, i) :: r, listed, a, w, hc, hcl, ⟨oi, v, hi, hy, h⟩ => by
    simp only [checkB, Bool.and_eq_true] at hc
    obtain ⟨h1, h2, h3, h4, h5⟩ := hc
    have hr : i ∈ Region.ready md ops listed := by simpa using h1
    refine wpAnyU_first hi (Region.noSelect_spec hs) h3 (fun j hj hji hkj => ?_) r.length listed a w hcl (Region.free_spec hi h2) hr hy (sched_sound hs r _ _ _ h5 (closed_set hcl hr) h)
    have := List.all_eq_true.1 h4 j (List.mem_range.2 hj)
    simpa [hji, hkj] using this
  | (false, i) :: r, listed, a, w, hc, hcl, h => by
    simp only [checkB, Bool.and_eq_true, beq_iff_eq] at hc
    obtain ⟨h1, h2⟩ := hc
    have hr : i ∈ Region.ready md ops listed := by rw [h1]; exact List.mem_cons_self
    refine ⟨fun h0 => (by rw [h0] at h1; cases h1), fun j hj => ?_⟩
    rw [h1] at hj
    obtain rfl : j = i := by simpa using hj
    rw [wpSched] at h
    split
    · rename_i hk
      rw [if_pos hk] at h
      exact wpOp_mono (fun a' w' h' => ⟨h'.1, sched_sound hs r _ _ _ h2 (closed_set hcl hr) h'.2⟩) h
    · rename_i hk
      rw [if_neg hk] at h
      exact wpOp_mono (fun a' w' h' => sched_sound hs r _ _ _ h2 (closed_set hcl hr) h') h
def upC (w : World) : World → Prop := fun w' => ∃ u : Up w, w' = u.x
def nthL : List Oper → Nat → Option Oper
  | [], _ => none
  | o :: _, 0 => some o
  | _ :: l, n + 1 => nthL l n
theorem nthL_get : ∀ (l : List Oper) (n : Nat), nthL l n = l[n]?
  | [], n => by simp [nthL]
  | o :: l, 0 => rfl
  | o :: l, n + 1 => by rw [nthL, nthL_get l n]; simp
def pickL (L : List Oper) : List Nat → List Oper
  | [] => []
  | i :: r => match nthL L i with
    | some o => o :: pickL L r
    | none => pickL L r
/-- One that makes memory, in the frame that is there. -/
def wpLoud (P : Program) (L : List Oper) (i : Nat) (K : Act → World → Prop) (a : Act) (w : World) : Prop :=
  wpList P L.toArray (fun e a' w' => e = .normal ∧ K a' w') (pickL L [i]) a w
def wpCalm (P : Program) (L : List Oper) (Q : Exit → Act → World → Prop) : List (List Nat × Nat) → List Nat → List Nat → Act → World → Prop
  | [], S, T, a, w => wpQuiet P L.toArray (upC w) (fun a' => wpList P L.toArray Q (pickL L T) a' w) (pickL L S) a
  | (S, i) :: r, S', T, a, w => wpQuiet P L.toArray (upC w) (fun a' => wpLoud P L i (fun a'' w'' => Below w.heap.size w w'' ∧ wpCalm P L Q r S' T a'' w'') a' w) (pickL L S) a
def reads (L : List Oper) (S : List Nat) : Bool := S.all fun i => match nthL L i with | some o => isRead o.op | none => false
def tailS (S T : List Nat) : List (Bool × Nat) := S.map (fun i => (true, i)) ++ T.map (fun i => (false, i))
def schedOf : List (List Nat × Nat) → List Nat → List Nat → List (Bool × Nat)
  | [], S, T => tailS S T
  | (S, i) :: r, S', T => S.map (fun i => (true, i)) ++ (false, i) :: schedOf r S' T
def partsB (L : List Oper) (T : List Nat) : List (List Nat × Nat) → Bool
  | [] => true
  | (S, i) :: r => reads L S && ((nthL L i).isSome && (!T.contains i && partsB L T r))
def calmB (L : List Oper) (A : List (List Nat × Nat)) (S T : List Nat) : Bool :=
  Region.noSelect L.toArray && (partsB L T A && (reads L S && ((T.all fun i => (nthL L i).isSome) && ((schedOf A S T).length == L.length && checkB .any L.toArray (fun j => !T.contains j) (schedOf A S T) (Array.replicate L.length false)))))
theorem seg_quiet {L : List Oper} {r : List (Bool × Nat)} {w : World} {K : Act → Prop} (hK : ∀ a, K a → wpSched P L.toArray keep Q r a w) : ∀ (S : List Nat) (a : Act), reads L S = true →
    wpQuiet P L.toArray (upC w) K (pickL L S) a → wpSched P L.toArray keep Q (S.map (fun i => (true, i)) ++ r) a w
  | [], a, _, h => hK a h
  | i :: S, a, hr, h => by
    simp only [reads, List.all_cons, Bool.and_eq_true] at hr
    obtain ⟨h1, h2⟩ := hr
    cases ho : nthL L i with
    | none => rw [ho] at h1; cases h1
    | some o =>
      rw [ho] at h1
      simp only [pickL, ho, wpQuiet] at h
      have hi : L.toArray[i]? = some o := by rw [List.getElem?_toArray, ← nthL_get, ho]
      by_cases hw : Region.wanted o (yielded L.toArray a.tmps) = true
      · rw [if_pos hw] at h
        obtain ⟨v, h3, h4⟩ := h
        refine ⟨o, v, hi, .inl ⟨hw, fun x hx => ?_⟩, seg_quiet hK S _ h2 h4⟩
        have h5 := h3 x ⟨⟨x, hx⟩, rfl⟩
        unfold Oper.quietAt at h5
        generalize hres : (execOp a.eval o).run P x = res at h5
        cases res with
        | halt y z => simp only [Oper.quietUpon] at h5
        | ok n z =>
          obtain ⟨u, rfl⟩ := read_value h1 hres
          simp only [Oper.quietUpon] at h5
          rw [h5.1, h5.2]
      · rw [if_neg hw] at h
        exact ⟨o, undef, hi, .inr ⟨by simpa using hw, rfl⟩, seg_quiet hK S _ h2 h⟩
theorem oper_only {o : Oper} {a : Act} {w : World} {K K' : Act → World → Prop} (h : o.wp P a w K (fun e a' w' => e = .normal ∧ K' a' w')) : o.wp P a w K NoQ := by
  unfold Oper.wp at *
  generalize (execOp a.eval o).run P w = res at *
  cases res with
  | ok n w' =>
    cases n <;> simp only [Oper.upon] at h ⊢ <;> first | exact h | skip
    exact Calls.mono h fun e w'' he => by
      cases e with
      | returned v => exact he
      | panicked c => exact Exit.noConfusion he.1
      | outgrown => exact he.elim fun _ h => h.elim fun _ h => Exit.noConfusion h.1
  | halt x w' => cases x <;> simp only [Oper.upon] at h ⊢; exact Exit.noConfusion h.1
theorem seg_loud {L : List Oper} {r : List (Bool × Nat)} {i : Nat} {a : Act} {w : World} {K : Act → World → Prop} (hk : keep i = true) (hn : (nthL L i).isSome = true) (hK : ∀ a w', K a w' → Below w.heap.size w w' ∧ wpSched P L.toArray keep Q r a w')
    (h : wpLoud P L i K a w) : wpSched P L.toArray keep Q ((false, i) :: r) a w := by
  rw [wpSched, if_pos hk]
  unfold wpLoud at h
  cases ho : nthL L i with
  | none => rw [ho] at hn; cases hn
  | some o =>
    have hi : L.toArray[i]? = some o := by rw [List.getElem?_toArray, ← nthL_get, ho]
    simp only [pickL, ho, wpList] at h
    unfold wpOp
    simp only [hi]
    split
    · rename_i hw
      rw [if_pos hw] at h
      rcases h with h | ⟨_, _, _, h, _⟩
      · exact .inl (Oper.wp_mono (fun a' w' h' => hK a' w' h'.2) (oper_only h))
      · cases h
    · rename_i hw
      rw [if_neg hw] at h
      exact hK _ _ h.2
theorem seg_tail {L : List Oper} : ∀ (T : List Nat) (a : Act) (w : World), (∀ i ∈ T, keep i = false ∧ (nthL L i).isSome = true) → wpList P L.toArray Q (pickL L T) a w → wpSched P L.toArray keep Q (T.map (fun i => (false, i))) a w
  | [], a, w, _, h => h
  | i :: T, a, w, hT, h => by
    obtain ⟨hk, hn⟩ := hT i List.mem_cons_self
    rw [List.map_cons, wpSched, if_neg (by rw [hk]; exact Bool.false_ne_true)]
    cases ho : nthL L i with
    | none => rw [ho] at hn; cases hn
    | some o =>
      have hi : L.toArray[i]? = some o := by rw [List.getElem?_toArray, ← nthL_get, ho]
      simp only [pickL, ho, wpList] at h
      have ih := fun a w => seg_tail T a w (fun j hj => hT j (List.mem_cons_of_mem _ hj))
      unfold wpOp
      simp only [hi]
      split
      · rename_i hw
        rw [if_pos hw] at h
        exact h.imp (Oper.wp_mono ih) id
      · rename_i hw
        rw [if_neg hw] at h
        exact ih _ _ h
theorem calm_sched {L : List Oper} {S T : List Nat} (hS : reads L S = true) (hT : ∀ i ∈ T, keep i = false ∧ (nthL L i).isSome = true) (hkT : ∀ i, T.contains i = false → keep i = true) : ∀ (A : List (List Nat × Nat)) (a : Act) (w : World), partsB L T A = true →
    wpCalm P L Q A S T a w → wpSched P L.toArray keep Q (schedOf A S T) a w
  | [], a, w, _, h => seg_quiet (fun a' h' => seg_tail T a' w hT h') S a hS h
  | (S1, i) :: r, a, w, hA, h => by
    simp only [partsB, Bool.and_eq_true, Bool.not_eq_true'] at hA
    obtain ⟨h1, h2, h3, h4⟩ := hA
    exact seg_quiet (fun a' h' => seg_loud (hkT i h3) h2 (fun a'' w'' h'' => ⟨h''.1, calm_sched hS hT hkT r a'' w'' h4 h''.2⟩) h') S1 a h1 h
/-- A region that draws its order. -/
theorem wp_calm {id : Nat} {L : List Oper} {a : Act} {w : World} (A : List (List Nat × Nat)) (S T : List Nat) (hm : P.follows .mixedOrders = true) (hB : calmB L A S T = true) (h : wpCalm P L Q A S T a w.drew) : (Code.region id L.toArray true).wp P Q a w := by
  simp only [calmB, Bool.and_eq_true, beq_iff_eq] at hB
  obtain ⟨h1, h2, h3, h4, h5, h6⟩ := hB
  refine wp_region_any hm (wpAny_of_U (keep := fun j => !T.contains j) _ _ _ _ ?_)
  have h7 := sched_sound (P := P) (Q := Q) h1 (schedOf A S T) (Array.replicate L.length false) a w.drew h6 ⟨by simp, fun j oj _ hl => by
    rcases Nat.lt_or_ge j L.length with hj | hj
    · simp [hj] at hl
    · simp [hj] at hl⟩ (calm_sched h3 (fun i hi => ⟨by simpa using hi, List.all_eq_true.1 h4 i hi⟩) (fun i hi => by rw [hi]; rfl) A a w.drew h2 h)
  rw [h5] at h7
  simpa using h7
end
end Go.Proofs.YthfilnflgahcjaaGreatDoor

namespace Go.Proofs.YthfilnflgahcjaaGreatDoor
open Go.RowKit
section
variable {P : Program} {ops : Array Oper} {md : Region.Mode} {C : World → Prop} {Q : Exit → Act → World → Prop} {R : Act → Prop} {k : Nat} {target : Array Bool}
def wpAnyT (P : Program) (md : Region.Mode) (ops : Array Oper) (C : World → Prop) (k : Nat) (target : Array Bool) (R : Act → Prop) : Nat → Array Bool → Act → Prop
  | 0, listed, a => listed = target ∧ R a
  | fuel + 1, listed, a => Region.ready md ops listed ≠ [] ∧ ∀ i ∈ Region.ready md ops listed, i < k ∧ qOp P ops C i (wpAnyT P md ops C k target R fuel (listed.setIfInBounds i true)) a
theorem wpAny_of_T {n : Nat} (hR : Closed md ops target → ∀ a w, C w → R a → wpAny P md ops Q n target a w) : ∀ (fuel : Nat) (listed : Array Bool) (a : Act) (w : World), Closed md ops listed → C w → wpAnyT P md ops C k target R fuel listed a → wpAny P md ops Q (n + fuel) listed a w
  | 0, listed, a, w, hcl, hw, h => by
    obtain ⟨e, h⟩ := h
    subst e
    exact hR hcl a w hw h
  | fuel + 1, listed, a, w, hcl, hw, h => ⟨fun h0 => (h.1 h0).elim, fun i hi => wpOp_of_qOp hw (fun a' w' hw' hk => wpAny_of_T hR fuel _ a' w' (closed_set hcl hi) hw' hk) (h.2 i hi).2⟩
theorem wpAnyT_first {i : Nat} {oi : Oper} {v : Value} (hi : ops[i]? = some oi) (hsel : ∀ (j : Nat) (o : Oper) cs b, ops[j]? = some o → o.op ≠ .select cs b) (hik : i < k) (htg : ∀ j, j < k → target.getD j true = true)
    (hwt : ∀ j, k ≤ j → j < ops.size → waitsB md ops ops.size j i = true) :
    ∀ (fuel : Nat) (listed : Array Bool) (a : Act), Closed md ops listed →
      (∀ j oj, ops[j]? = some oj → j ≠ i → listed.getD j true = false → (∀ e ∈ oj.after, Region.binds md e = true → e.on ≠ i) → oi.apart ops oj = true) →
      i ∈ Region.ready md ops listed → YieldsIn P ops C oi v a →
      wpAnyT P md ops C k target R fuel (listed.setIfInBounds i true) (a.put oi.dst v) → wpAnyT P md ops C k target R (fuel + 1) listed a := by
  have low : ∀ (listed : Array Bool) (j : Nat), Closed md ops listed → i ∈ Region.ready md ops listed → j ∈ Region.ready md ops listed → j < k := by
    intro listed j hcl hr hj
    rcases Nat.lt_or_ge j k with h | h
    · exact h
    · obtain ⟨hjun, oj, hoj, hall⟩ := mem_ready.1 hj
      have hin : listed.getD i false = false := getD_both (mem_ready.1 hr).1
      have := waits_listed hcl ops.size j i (fun ok hk' e he hb => by
        rw [hoj] at hk'
        obtain rfl := Option.some.inj hk'
        exact hall e he hb) (hwt j h (Array.getElem?_eq_some_iff.1 hoj).1)
      rw [hin] at this; cases this
  intro fuel
  induction fuel with
  | zero =>
    intro listed a hcl _ hr hy H
    refine ⟨fun h => (by rw [h] at hr; cases hr), fun j hj => ⟨low listed j hcl hr hj, ?_⟩⟩
    by_cases hji : j = i
    · subst hji; exact hy.qOp hi H
    · have h1 := ready_mono hj hji
      rw [H.1] at h1
      have h2 := (mem_ready.1 h1).1
      rw [htg j (low listed j hcl hr hj)] at h2
      cases h2
  | succ fuel ih =>
    intro listed a hcl hfree hr hy H
    refine ⟨fun h => (by rw [h] at hr; cases hr), fun j hj => ⟨low listed j hcl hr hj, ?_⟩⟩
    by_cases hji : j = i
    · subst hji; exact hy.qOp hi H
    · have h1 := (H.2 j (ready_mono hj hji)).2
      obtain ⟨hjun, oj, hoj, hall⟩ := mem_ready.1 hj
      have hin : listed.getD i false = false := getD_both (mem_ready.1 hr).1
      have hnot : ∀ e ∈ oj.after, Region.binds md e = true → e.on ≠ i := fun e he hb heq => by
        have h1 := hall e he hb
        rw [heq, hin] at h1; cases h1
      have h2 := qOp_put hoj (hfree j oj hoj hji hjun hnot) (fun cs b => hsel i oi cs b hi) (fun cs b => hsel j oj cs b hoj) hy h1
      have hfree' : ∀ k ok, ops[k]? = some ok → k ≠ i → (listed.setIfInBounds j true).getD k true = false →
          (∀ e ∈ ok.after, Region.binds md e = true → e.on ≠ i) → oi.apart ops ok = true := fun k ok hk hki hun hno => by
        refine hfree k ok hk hki ?_ hno
        by_cases hjk : j = k
        · subst hjk; exact hjun
        · rw [getD_set_ne true hjk] at hun; exact hun
      refine qOp_mono (fun a' h3 => ih (listed.setIfInBounds j true) a' (closed_set hcl hj) hfree' (ready_mono hr (Ne.symm hji)) h3.1 ?_) h2
      rw [Array.setIfInBounds_comm _ _ hji]
      exact h3.2
def lexTo (md : Region.Mode) (ops : Array Oper) (k : Nat) (target : Array Bool) : Nat → Nat → Array Bool → Bool
  | 0, _, listed => listed == target
  | n + 1, i, listed => (Region.ready md ops listed).contains i && (Region.free md ops listed i && (decide (i < k) && (((List.range ops.size).all fun j => decide (j < k) || waitsB md ops ops.size j i) && lexTo md ops k target n (i + 1) (listed.setIfInBounds i true))))
theorem wpAnyT_lex (hs : Region.noSelect ops = true) (htg : ∀ j, j < k → target.getD j true = true) : ∀ (l : List Oper) (i : Nat) (listed : Array Bool) (a : Act), (∀ j, j < l.length → l[j]? = ops[i + j]?) → Closed md ops listed →
    lexTo md ops k target l.length i listed = true → wpQuiet P ops C R l a → wpAnyT P md ops C k target R l.length listed a
  | [], _, _, _, _, _, hB, h => ⟨by simpa [lexTo] using hB, h⟩
  | o :: l, i, listed, a, hl, hcl, hB, h => by
    have h0 : ops[i]? = some o := by simpa using (hl 0 (by simp)).symm
    simp only [List.length_cons, lexTo, Bool.and_eq_true, decide_eq_true_eq] at hB
    obtain ⟨hr, hf, hik, hw, hB'⟩ := hB
    have hst : qOp P ops C i (wpQuiet P ops C R l) a := by unfold qOp; simp only [h0]; exact h
    obtain ⟨v, hy, hK⟩ := yieldsIn_of_qOp h0 hst
    have hr' : i ∈ Region.ready md ops listed := by simpa using hr
    refine wpAnyT_first h0 (Region.noSelect_spec hs) hik htg (fun j hj hjs => ?_) l.length listed a hcl (Region.free_spec h0 hf) hr' hy
      (wpAnyT_lex hs htg l (i + 1) _ _ (fun j hj => by have := hl (j + 1) (by simp; omega); simpa [Nat.add_assoc, Nat.add_comm 1 j] using this) (closed_set hcl hr') hB' hK)
    have := List.all_eq_true.1 hw j (List.mem_range.2 hjs)
    simp only [Bool.or_eq_true, decide_eq_true_eq] at this
    exact this.resolve_left (by omega)
def targetOf (n k : Nat) : Array Bool := ((List.range n).map fun i => decide (i < k)).toArray
def thenB (L : List Oper) (k : Nat) (T : List Nat) : Bool :=
  Region.noSelect L.toArray && (lexTo .any L.toArray k (targetOf L.length k) k 0 (Array.replicate L.length false) && (decide (k ≤ L.length) && ((T.all fun i => (nthL L i).isSome) && ((T.length + k == L.length) && checkB .any L.toArray (fun _ => false) (T.map fun i => (false, i)) (targetOf L.length k)))))
/-- First what is quiet, then what waits for it. -/
theorem wp_then {id : Nat} {L : List Oper} {a : Act} {w : World} (k : Nat) (T : List Nat) (hm : P.follows .mixedOrders = true) (hB : thenB L k T = true) (hC : C w.drew)
    (h : wpQuiet P L.toArray C (fun a' => ∀ w', C w' → wpList P L.toArray Q (pickL L T) a' w') (L.take k) a) : (Code.region id L.toArray true).wp P Q a w := by
  simp only [thenB, Bool.and_eq_true, beq_iff_eq, decide_eq_true_eq] at hB
  obtain ⟨h1, h2, h3, h4, h5, h6⟩ := hB
  have hlen : (L.take k).length = k := by simp; omega
  have htg : ∀ j, j < k → (targetOf L.length k).getD j true = true := fun j hj => by
    have : j < L.length := by omega
    simp [targetOf, this, hj]
  have hcl0 : Closed .any L.toArray (Array.replicate L.length false) := ⟨by simp, fun j oj _ hl => by
    rcases Nat.lt_or_ge j L.length with hj | hj
    · simp [hj] at hl
    · simp [hj] at hl⟩
  have hT := wpAnyT_lex (P := P) (C := C) (R := fun a' => ∀ w', C w' → wpList P L.toArray Q (pickL L T) a' w') h1 htg (L.take k) 0 (Array.replicate L.length false) a (fun j hj => by
    rw [hlen] at hj
    rw [List.getElem?_take, if_pos hj]; simp) hcl0 (by rw [hlen]; exact h2) h
  refine wp_region_any hm ?_
  have h7 := wpAny_of_T (P := P) (Q := Q) (n := T.length) (fun hcl a' w' hw' hr => wpAny_of_U (keep := fun _ => false) _ _ _ _ (by
    have := sched_sound (P := P) (Q := Q) h1 (T.map fun i => (false, i)) _ a' w' h6 hcl (seg_tail T a' w' (fun i hi => ⟨rfl, List.all_eq_true.1 h4 i hi⟩) (hr w' hw'))
    simpa using this)) _ _ a w.drew hcl0 hC hT
  rw [hlen, h5] at h7
  simpa using h7
end
end Go.Proofs.YthfilnflgahcjaaGreatDoor

