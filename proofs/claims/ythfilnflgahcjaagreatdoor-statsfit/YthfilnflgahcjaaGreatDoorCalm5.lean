/- A region that draws its order is cut in two: its first operations are a region of their own, what is behind waits for them all. -/
import Derived.Test.YthfilnflgahcjaaGreatDoorJoin2
import Derived.Test.YthfilnflgahcjaaGreatDoorFacts
namespace Go.Proofs.YthfilnflgahcjaaGreatDoor
open Go.RowKit
set_option linter.unusedVariables false
set_option linter.unusedSimpArgs false
section
variable {P : Program} {pre ops : Array Oper} {md : Region.Mode} {Q : Exit → Act → World → Prop} {N : Act → World → Prop} {k : Nat}
theorem oper_then {o : Oper} {a : Act} {w : World} {K : Act → World → Prop} (h : o.wp P a w K (Exit.then N Q)) : o.wp P a w K Q := by
  unfold Oper.wp at *
  generalize (execOp a.eval o).run P w = r at *
  cases r with
  | ok n w' => cases n <;> simp only [Oper.upon] at h ⊢ <;> exact h
  | halt x w' => cases x <;> simp only [Oper.upon] at h ⊢ <;> exact h
theorem oper_back {o : Oper} {a : Act} {w : World} {K : Act → World → Prop} (h : o.wp P a w K Q) : o.wp P a w K (Exit.then N Q) := by
  unfold Oper.wp at *
  generalize (execOp a.eval o).run P w = r at *
  cases r with
  | ok n w' => cases n <;> simp only [Oper.upon] at h ⊢ <;> exact h
  | halt x w' => cases x <;> simp only [Oper.upon] at h ⊢ <;> exact h
theorem any_then {N' : Act → World → Prop} (hN : ∀ a w, N a w → N' a w) : ∀ (fuel : Nat) (listed : Array Bool) (a : Act) (w : World), wpAny P md ops (Exit.then N Q) fuel listed a w → wpAny P md ops (Exit.then N' Q) fuel listed a w
  | 0, _, a, w, h => ⟨h.1, hN a w h.2⟩
  | fuel + 1, listed, a, w, h => ⟨fun h0 => hN a w (h.1 h0), fun i hi => by
      have h1 := wpOp_mono (any_then hN fuel _) (h.2 i hi)
      unfold wpOp at h1 ⊢
      split
      · rename_i ho; simpa only [ho] using h1
      · rename_i o ho
        simp only [ho] at h1
        split
        · rename_i hw
          rw [if_pos hw] at h1
          rcases h1 with h1 | ⟨h4, h5⟩
          · exact .inl (oper_back (oper_then h1))
          · exact .inr ⟨h4, h5⟩
        · rename_i hw
          rw [if_neg hw] at h1
          exact h1⟩
theorem getD_in {l : Array Bool} {i : Nat} (h : i < l.size) : l.getD i true = l.getD i false := by simp [h]
theorem least_left {lp : Array Bool} (h : left lp ≠ 0) : ∃ i, i < lp.size ∧ lp.getD i false = false ∧ ∀ j, j < i → lp.getD j false = true := by
  have hex : ∃ i, i < lp.size ∧ lp.getD i false = false := by
    apply Classical.byContradiction
    intro hn
    apply h
    unfold left
    rw [List.countP_eq_zero]
    intro b hb
    obtain ⟨i, hi, rfl⟩ := List.getElem_of_mem hb
    have hi' : i < lp.size := by simpa using hi
    cases hv : lp[i] with
    | true => simp [hv]
    | false => exact absurd ⟨i, hi', by simp [hi', hv]⟩ hn
  obtain ⟨i, hi⟩ := hex
  induction i using Nat.strongRecOn with
  | ind i ih =>
    by_cases hall : ∀ j, j < i → lp.getD j false = true
    · exact ⟨i, hi.1, hi.2, hall⟩
    · obtain ⟨j, hj⟩ := Classical.not_forall.1 hall
      obtain ⟨hji, hjf⟩ := Classical.not_imp.1 hj
      exact ih j hji ⟨by omega, by simpa using hjf⟩
theorem any_cut {n : Nat} (hps : pre.size = k) (hpre : ∀ i, i < k → pre[i]? = ops[i]?) (hk : k ≤ ops.size)
    (hg : ∀ i o, i < k → ops[i]? = some o → ∀ g b, o.guard = some (g, b) → g < k)
    (hed : ∀ i o, i < k → ops[i]? = some o → ∀ e ∈ o.after, Region.binds md e = true → e.on < i)
    (hwt : ∀ j, k ≤ j → j < ops.size → ∀ i, i < k → waitsB md ops ops.size j i = true) :
    ∀ (fuel : Nat) (lp l : Array Bool) (a : Act) (w : World), lp.size = k → Closed md ops l → (∀ i, i < k → l.getD i false = lp.getD i false) → (∀ i, k ≤ i → l.getD i false = false) → left lp = fuel →
      wpAny P md pre (Exit.then (fun a w => Closed md ops (targetOf ops.size k) → wpAny P md ops Q n (targetOf ops.size k) a w) Q) fuel lp a w → wpAny P md ops Q (n + fuel) l a w := by
  intro fuel
  induction fuel with
  | zero =>
    intro lp l a w hls hcl h1 h2 hf h
    have : l = targetOf ops.size k := by
      apply Array.ext
      · rw [hcl.1]; simp [targetOf]
      · intro i hi hi2
        have hio : i < ops.size := by rw [← hcl.1]; exact hi
        have e1 : l.getD i false = l[i] := by simp [hi]
        rw [← e1]
        simp only [targetOf, List.getElem_toArray, List.getElem_map, List.getElem_range]
        by_cases hik : i < k
        · have h3 := left_zero hf i
          rw [getD_in (by omega)] at h3
          rw [h1 i hik, h3]; simp [hik]
        · rw [h2 i (by omega)]; simp [hik]
    rw [this] at hcl ⊢
    exact h.2 hcl
  | succ fuel ih =>
    intro lp l a w hls hcl h1 h2 hf h
    obtain ⟨i, hi, hif, hij⟩ := least_left (lp := lp) (by omega)
    have hik : i < k := by omega
    obtain ⟨oi, hoi⟩ : ∃ o, ops[i]? = some o := ⟨_, Array.getElem?_eq_getElem (by omega)⟩
    have hri : i ∈ Region.ready md ops l := mem_ready.2 ⟨by rw [getD_in (by rw [hcl.1]; omega), h1 i hik]; exact hif, oi, hoi, fun e he hb => by
      have := hed i oi hik hoi e he hb
      rw [h1 _ (by omega)]; exact hij _ this⟩
    refine ⟨fun h0 => (by rw [h0] at hri; cases hri), fun j hj => ?_⟩
    obtain ⟨hjun, oj, hoj, hall⟩ := mem_ready.1 hj
    have hjs : j < ops.size := (Array.getElem?_eq_some_iff.1 hoj).1
    have hjk : j < k := by
      rcases Nat.lt_or_ge j k with h' | h'
      · exact h'
      · have := waits_listed hcl ops.size j i (fun ok hk' e he hb => by
          rw [hoj] at hk'
          obtain rfl := Option.some.inj hk'
          exact hall e he hb) (hwt j h' hjs i hik)
        rw [h1 i hik, hif] at this; cases this
    have hjl : lp.getD j true = false := by
      rw [getD_in (by omega), ← h1 j hjk, ← getD_in (by rw [hcl.1]; exact hjs)]; exact hjun
    have hrj : j ∈ Region.ready md pre lp := mem_ready.2 ⟨hjl, oj, (hpre j hjk).trans hoj, fun e he hb => by
      have := hed j oj hjk hoj e he hb
      rw [← h1 _ (by omega)]; exact hall e he hb⟩
    have h3 := h.2 j hrj
    have hgo : ∀ a' w', wpAny P md pre (Exit.then (fun a w => Closed md ops (targetOf ops.size k) → wpAny P md ops Q n (targetOf ops.size k) a w) Q) fuel (lp.setIfInBounds j true) a' w' → wpAny P md ops Q (n + fuel) (l.setIfInBounds j true) a' w' := fun a' w' h4 => by
      refine ih (lp.setIfInBounds j true) (l.setIfInBounds j true) a' w' (by simpa using hls) (closed_set hcl hj) (fun q hq => ?_) (fun q hq => ?_) (by have := left_set hjl; omega) h4
      · by_cases hqj : j = q
        · subst hqj
          have e1 : j < l.size := by rw [hcl.1]; exact hjs
          have e2 : j < lp.size := by omega
          simp [e1, e2]
        · rw [getD_set_ne false hqj, getD_set_ne false hqj]; exact h1 q hq
      · rw [getD_set_ne false (by omega)]; exact h2 q hq
    unfold wpOp at h3 ⊢
    rw [hpre j hjk] at h3
    simp only [hoj] at h3 ⊢
    have hw : Region.wanted oj (yielded pre a.tmps) = Region.wanted oj (yielded ops a.tmps) := by
      unfold Region.wanted
      cases hgd : oj.guard with
      | none => rfl
      | some gb =>
        obtain ⟨g, b⟩ := gb
        have := hg j oj hjk hoj g b hgd
        simp only [yielded, hpre g this]
    rw [hw] at h3
    split
    · rename_i hw1
      rw [if_pos hw1] at h3
      rcases h3 with h3 | ⟨h4, h5⟩
      · exact .inl (Oper.wp_mono hgo (oper_then h3))
      · exact .inr ⟨h4, h5⟩
    · rename_i hw1
      rw [if_neg hw1] at h3
      exact hgo _ _ h3
end
def cutB (L : List Oper) (k : Nat) (T : List Nat) : Bool :=
  Region.noSelect L.toArray && (decide (k ≤ L.length) && (((L.take k).zipIdx.all fun p => (match p.1.guard with | none => true | some (g, _) => decide (g < k)) && p.1.after.all fun e => !Region.binds .any e || decide (e.on < p.2)) &&
    (((List.range L.length).all fun j => decide (j < k) || (List.range k).all fun i => waitsB .any L.toArray L.length j i) && ((T.all fun i => (nthL L i).isSome) && ((T.length + k == L.length) && checkB .any L.toArray (fun _ => false) (T.map fun i => (false, i)) (targetOf L.length k))))))
/-- First some as a region of their own, then what waits for them all. -/
theorem wp_cut {P : Program} {Q : Exit → Act → World → Prop} {id : Nat} {L : List Oper} {a : Act} {w : World} (k : Nat) (T : List Nat) (hm : P.follows .mixedOrders = true) (hB : cutB L k T = true)
    (h : wpAny P .any (L.take k).toArray (Exit.then (fun a' w' => wpList P L.toArray Q (pickL L T) a' w') Q) k (Array.replicate k false) a w.drew) : (Code.region id L.toArray true).wp P Q a w := by
  simp only [cutB, Bool.and_eq_true, beq_iff_eq, decide_eq_true_eq] at hB
  obtain ⟨h1, h2, h3, h4, h5, h6, h7⟩ := hB
  have hat : ∀ i o, i < k → L.toArray[i]? = some o → (o, i) ∈ (L.take k).zipIdx := fun i o hi ho => by
    rw [List.mem_zipIdx_iff_getElem?, List.getElem?_take, if_pos hi]
    simpa using ho
  have hcl0 : Closed .any L.toArray (Array.replicate L.length false) := ⟨by simp, fun j oj _ hl => by
    rcases Nat.lt_or_ge j L.length with hj | hj
    · simp [hj] at hl
    · simp [hj] at hl⟩
  have hcut := any_cut (P := P) (Q := Q) (pre := (L.take k).toArray) (ops := L.toArray) (md := .any) (k := k) (n := T.length) (by simp; omega) (fun i hi => by simp [List.getElem?_take, hi]) (by simpa using h2)
    (fun i o hi ho g b hgd => by
      have := List.all_eq_true.1 h3 _ (hat i o hi ho)
      simp only [hgd, Bool.and_eq_true, decide_eq_true_eq] at this
      exact this.1)
    (fun i o hi ho e he hb => by
      have := List.all_eq_true.1 h3 _ (hat i o hi ho)
      simp only [Bool.and_eq_true] at this
      have h8 := Array.all_eq_true'.1 this.2 e he
      simpa [hb] using h8)
    (fun j hj hjs i hi => by
      have := List.all_eq_true.1 h4 j (List.mem_range.2 (by simpa using hjs))
      simp only [Bool.or_eq_true, decide_eq_true_eq] at this
      have h8 := List.all_eq_true.1 (this.resolve_left (by omega)) i (List.mem_range.2 hi)
      simpa using h8)
    k (Array.replicate k false) (Array.replicate L.length false) a w.drew (by simp) hcl0
    (fun i hi => by
      have : i < L.length := by omega
      simp [hi, this])
    (fun i hi => by
      rcases Nat.lt_or_ge i L.length with hj | hj
      · simp [hj]
      · simp [hj])
    (left_new k)
    (any_then (fun a' w' hr hcl => wpAny_of_U (keep := fun _ => false) _ _ _ _ (by
      have := sched_sound (P := P) (Q := Q) h1 (T.map fun i => (false, i)) _ a' w' (by simpa using h7) hcl (seg_tail T a' w' (fun i hi => ⟨rfl, List.all_eq_true.1 h5 i hi⟩) hr)
      simpa using this)) _ _ _ _ h)
  refine wp_region_any hm ?_
  rw [h6] at hcut
  simpa using hcut
end Go.Proofs.YthfilnflgahcjaaGreatDoor
