/- What labels tell: the program's and the reference's are the same. -/
import Derived.Test.YthfilnflgahcjaaGreatDoorRpur
import Derived.Test.YthfilnflgahcjaaGreatDoorRlab
namespace Go.Proofs.YthfilnflgahcjaaGreatDoor
open Go.RowKit Go.Shelf
set_option linter.unusedVariables false
set_option linter.unusedSimpArgs false
section
variable {R K : Type} [DecidableEq K]
def getF (key : R → K) (rows : List R) (k : K) : Option R := rows.find? fun r => decide (key r = k)
theorem getF_key {key : R → K} {rows : List R} {k : K} {r : R} (h : getF key rows k = some r) : key r = k := by
  have := List.find?_some h
  simpa using this
theorem getF_cons (key : R → K) (r : R) (rs : List R) (k : K) : getF key (r :: rs) k = if key r = k then some r else getF key rs k := by
  unfold getF
  by_cases h : key r = k
  · rw [if_pos h, List.find?_cons_of_pos (by simp [h])]
  · rw [if_neg h, List.find?_cons_of_neg (by simp [h])]
theorem goFirst_mem (key : R → K) : ∀ (rows : List R) (left : List K), left.Nodup → (∀ r, r ∈ (goFirst key rows left).1 ↔ ∃ k ∈ left, getF key rows k = some r) ∧ (∀ k, k ∈ (goFirst key rows left).2 ↔ k ∈ left ∧ getF key rows k = none)
  | [], left, _ => by simp [goFirst, getF]
  | r :: rs, left, hn => by
    rw [goFirst]
    by_cases h0 : left = []
    · rw [if_pos h0]; subst h0; simp
    · rw [if_neg h0]
      by_cases hm : key r ∈ left
      · rw [if_pos hm]
        obtain ⟨i1, i2⟩ := goFirst_mem key rs (delS (key r) left) (delS_nodup hn _)
        constructor
        · intro x
          rw [List.mem_cons, i1]
          constructor
          · rintro (rfl | ⟨k, hk, hx⟩)
            · exact ⟨key x, hm, by rw [getF_cons, if_pos rfl]⟩
            · obtain ⟨hk1, hk2⟩ := (mem_delS hn).1 hk
              exact ⟨k, hk1, by rw [getF_cons, if_neg (fun e => hk2 e.symm)]; exact hx⟩
          · rintro ⟨k, hk, hx⟩
            rw [getF_cons] at hx
            split at hx
            · injection hx with hx; exact .inl hx.symm
            · rename_i hne
              exact .inr ⟨k, (mem_delS hn).2 ⟨hk, fun e => hne e.symm⟩, hx⟩
        · intro k
          rw [i2, mem_delS hn, getF_cons]
          constructor
          · rintro ⟨⟨h1, h2⟩, h3⟩
            exact ⟨h1, by rw [if_neg (fun e => h2 e.symm)]; exact h3⟩
          · rintro ⟨h1, h2⟩
            split at h2
            · cases h2
            · rename_i hne
              exact ⟨⟨h1, fun e => hne e.symm⟩, h2⟩
      · rw [if_neg hm]
        obtain ⟨i1, i2⟩ := goFirst_mem key rs left hn
        constructor
        · intro x
          rw [i1]
          constructor
          · rintro ⟨k, hk, hx⟩
            exact ⟨k, hk, by rw [getF_cons, if_neg (fun e : key r = k => hm (e ▸ hk))]; exact hx⟩
          · rintro ⟨k, hk, hx⟩
            rw [getF_cons, if_neg (fun e : key r = k => hm (e ▸ hk))] at hx
            exact ⟨k, hk, hx⟩
        · intro k
          rw [i2, getF_cons]
          constructor
          · rintro ⟨h1, h2⟩
            exact ⟨h1, by rw [if_neg (fun e : key r = k => hm (e ▸ h1))]; exact h2⟩
          · rintro ⟨h1, h2⟩
            rw [if_neg (fun e : key r = k => hm (e ▸ h1))] at h2
            exact ⟨h1, h2⟩
theorem firsts_mem (key : R → K) (zero : R) (rows : List R) (keys : List K) (r : R) : r ∈ firstsL key zero rows keys ↔ ∃ k ∈ keys, r = (getF key rows k).getD zero := by
  have hm : ∀ k, k ∈ keys.foldl putS [] ↔ k ∈ keys := fun k => by rw [puts_mem]; simp
  obtain ⟨i1, i2⟩ := goFirst_mem key rows (keys.foldl putS []) (puts_nodup keys [] List.nodup_nil)
  unfold firstsL
  rw [List.mem_append, i1, List.mem_replicate]
  constructor
  · rintro (⟨k, hk, hx⟩ | ⟨h1, rfl⟩)
    · exact ⟨k, (hm k).1 hk, by rw [hx]; rfl⟩
    · obtain ⟨k, hk⟩ := List.exists_mem_of_ne_nil (goFirst key rows (keys.foldl putS [])).2 (fun e => h1 (by rw [e]; rfl))
      obtain ⟨h2, h3⟩ := (i2 k).1 hk
      exact ⟨k, (hm k).1 h2, by rw [h3]; rfl⟩
  · rintro ⟨k, hk, rfl⟩
    cases hg : getF key rows k with
    | some x => exact .inl ⟨k, (hm k).2 hk, by rw [hg]; rfl⟩
    | none =>
      refine .inr ⟨?_, rfl⟩
      have : k ∈ (goFirst key rows (keys.foldl putS [])).2 := (i2 k).2 ⟨(hm k).2 hk, hg⟩
      intro e
      rw [List.eq_nil_of_length_eq_zero e] at this
      cases this
end
theorem least_ge : ∀ (l : List (ByteArray × Int)) (t z : Int), z ≤ leastF t l ↔ z ≤ t ∧ ∀ r ∈ l, z ≤ cutI r.2
  | [], t, z => by simp [leastF]
  | r :: l, t, z => by
    rw [leastF, least_ge l]
    simp only [List.mem_cons, forall_eq_or_imp]
    rw [← and_assoc]
    refine and_congr ?_ Iff.rfl
    split <;> omega
theorem leastR_ge (s : StatP) : ∀ (l : List ByteArray) (t z : Int), z ≤ leastR s t l ↔ z ≤ t ∧ ∀ x ∈ l, z ≤ rlabI s x
  | [], t, z => by simp [leastR]
  | x :: l, t, z => by
    rw [leastR, leastR_ge s l]
    simp only [List.mem_cons, forall_eq_or_imp]
    rw [← and_assoc]
    refine and_congr ?_ Iff.rfl
    split <;> omega
theorem rlab_get (s : StatP) (x : ByteArray) : rlabI s x = cutI ((getF Prod.fst s.labels x).getD (⟨#[]⟩, 0)).2 := by
  unfold rlabI
  rw [findF_find]
  unfold getF
  have e : (fun r : ByteArray × Int => decide (r.1 = x)) = fun r => decide (Prod.fst r = x) := by funext r; exact decide_eq_decide.2 Iff.rfl
  rw [e]
  cases List.find? (fun r : ByteArray × Int => decide (Prod.fst r = x)) s.labels with
  | none => rfl
  | some r => rfl
theorem labelled_same (s : StatP) (ls : List ByteArray) : rlabelledI s ls = labelledI s ls := by
  have h : ∀ z, z ≤ rlabelledI s ls ↔ z ≤ labelledI s ls := fun z => by
    unfold rlabelledI labelledI
    rw [least_ge, leastR_ge]
    refine and_congr Iff.rfl ?_
    constructor
    · intro h r hr
      obtain ⟨k, hk, rfl⟩ := (firsts_mem _ _ _ _ _).1 hr
      have := h k hk
      rwa [rlab_get] at this
    · intro h x hx
      rw [rlab_get]
      exact h _ ((firsts_mem _ _ _ _ _).2 ⟨x, hx, rfl⟩)
  exact Int.le_antisymm ((h _).1 (Int.le_refl _)) ((h _).2 (Int.le_refl _))
end Go.Proofs.YthfilnflgahcjaaGreatDoor
