/- Words told and read again. -/
import Derived.Test.YtbjcdpenfijfoaaGreatDoorJoin8
namespace Go.Proofs.YtbjcdpenfijfoaaGreatDoor
open Go.RowKit Go.Shelf Go.Lexed
set_option linter.unusedVariables false
set_option linter.unusedSimpArgs false
theorem may_kind (U : List UInt8 → Bool) {d : Wd} (h : mayW U d = true) : 1 ≤ d.kind := by
  rcases Nat.eq_zero_or_pos d.kind with e | e
  · unfold mayW at h; rw [e] at h; simp at h
  · exact e
theorem may_num (U : List UInt8 → Bool) {d : Wd} (h : mayW U d = true) : d.num ≤ 9223372036854775808 := by
  unfold mayW at h
  repeat' split at h
  all_goals first
    | (simp at h; done)
    | (simp only [Bool.and_eq_true, beq_iff_eq, decide_eq_true_eq] at h; omega)
theorem to_wd (d : Wd) (p : Nat) : (toW4 (d, p)).wd = d := by
  obtain ⟨k, t, n⟩ := d
  simp [toW4, W4.wd, bsOf_list]
theorem lw_wd (s : ByteArray) : (lw s).map W4.wd = (lexB Lib.validD (suf s 0)).1.map (·.1) := by
  unfold lw lexP lexQ
  simp only [List.map_map]
  refine List.map_congr_left fun x _ => ?_
  exact to_wd x.1 _
theorem lw_may (s : ByteArray) : ∀ x ∈ lw s, mayW Lib.validD x.wd = true := by
  intro x hx
  have : x.wd ∈ (lw s).map W4.wd := List.mem_map.2 ⟨x, hx, rfl⟩
  rw [lw_wd] at this
  obtain ⟨y, hy, e⟩ := List.mem_map.1 this
  rw [← e]
  exact lex_may Lib.validD _ _ (Nat.le_refl _) y hy
theorem le_sum : ∀ {l : List Nat} {n : Nat}, n ∈ l → n ≤ l.sum
  | a :: l, n, h => by
    rcases List.mem_cons.1 h with rfl | h
    · simp
    · have := le_sum h; simp; omega
theorem lw_fine (s : ByteArray) (hs : s.size ≤ 1048576) : ∀ x ∈ lw s, 0 ≤ x.n ∧ x.n < 18446744073709551616 ∧ x.t.size ≤ 1000000000 := by
  intro x hx
  unfold lw lexP lexQ at hx
  simp only [List.map_map, List.mem_map] at hx
  obtain ⟨y, hy, rfl⟩ := hx
  have h1 := may_num Lib.validD (lex_may Lib.validD _ _ (Nat.le_refl _) y hy)
  have h2 := lex_bulk Lib.validD _ (suf s 0) (Nat.le_refl _)
  have h3 : y.1.text.length ≤ bulkW (lexB Lib.validD (suf s 0)).1 := le_sum (List.mem_map.2 ⟨y, hy, rfl⟩)
  rw [suf_len] at h2
  simp only [Function.comp, toW4, bsOf_size]
  omega
theorem eqW_of {x y : W4} (h : x.wd = y.wd) (hm : mayW Lib.validD x.wd = true) (hx : 0 ≤ x.n) (hy : 0 ≤ y.n) : eqW x y = true := by
  have hk := may_kind Lib.validD hm
  obtain ⟨k, i, t, n⟩ := x
  obtain ⟨k', i', t', n'⟩ := y
  simp only [W4.wd, Wd.mk.injEq] at h hk hx hy
  obtain ⟨h1, h2, h3⟩ := h
  have e1 : k = k' := by omega
  have e2 : t = t' := by rw [← of_bs t, ← of_bs t', h2]
  have e3 : n = n' := by omega
  simp [eqW, e1, e2, e3]
theorem sameB_of : ∀ {xs ys : List W4}, xs.map W4.wd = ys.map W4.wd → (∀ x ∈ xs, mayW Lib.validD x.wd = true) → (∀ x ∈ xs, 0 ≤ x.n) → (∀ y ∈ ys, 0 ≤ y.n) → sameB xs ys = true := by
  intro xs ys h hm hx hy
  have hl : xs.length = ys.length := by have := congrArg List.length h; simpa using this
  unfold sameB
  rw [decide_eq_true hl, Bool.true_and, List.all_eq_true]
  intro p hp
  obtain ⟨j, hj⟩ := List.mem_iff_getElem?.1 hp
  rw [List.getElem?_zip_eq_some] at hj
  have h1 : (xs.map W4.wd)[j]? = some p.1.wd := by rw [List.getElem?_map, hj.1]; rfl
  have h2 : (ys.map W4.wd)[j]? = some p.2.wd := by rw [List.getElem?_map, hj.2]; rfl
  rw [h, h2] at h1
  have m1 := List.mem_of_getElem? hj.1
  have m2 := List.mem_of_getElem? hj.2
  exact eqW_of (Option.some.inj h1).symm (hm _ m1) (hx _ m1) (hy _ m2)
/-- What is told is read again. -/
theorem told_back (xs : List W4) (hm : ∀ x ∈ xs, mayW Lib.validD x.wd = true) (hl : (printW (xs.map W4.wd)).length ≤ 1048576) : lexO (bsOf (printW (xs.map W4.wd))) = none ∧ (lw (bsOf (printW (xs.map W4.wd)))).map W4.wd = xs.map W4.wd := by
  have h := lex_print Lib.validD (xs.map W4.wd) (fun d hd => by obtain ⟨x, hx, rfl⟩ := List.mem_map.1 hd; exact hm x hx)
  have e : suf (bsOf (printW (xs.map W4.wd))) 0 = printW (xs.map W4.wd) := bsOf_list _
  refine ⟨?_, ?_⟩
  · unfold lexO; rw [e]; exact h.2
  · rw [lw_wd, e]; exact h.1
theorem all_may {xs : List W4} (h : ∀ x ∈ xs, mayW Lib.validD x.wd = true) : (xs.all fun x => mayW Lib.validD x.wd) = true := List.all_eq_true.2 h
/-- A text's words, told: not long. -/
theorem lw_told (s : ByteArray) : (printW ((lw s).map W4.wd)).length ≤ 42 * s.size := by
  rw [lw_wd]
  have := lex_told Lib.validD (suf s 0)
  rwa [suf_len] at this
end Go.Proofs.YtbjcdpenfijfoaaGreatDoor
