/- The words of two texts with a line end between. -/
import Derived.Test.YtbjcdpenfijfoaaGreatDoorJoin7
namespace Go.Proofs.YtbjcdpenfijfoaaGreatDoor
open Go.RowKit Go.Shelf Go.Lexed
set_option linter.unusedVariables false
set_option linter.unusedSimpArgs false
theorem lex_left (U : List UInt8 → Bool) : ∀ (n : Nat) (l : List UInt8), l.length ≤ n → ∀ x ∈ (lexB U l).1, x.2 ≤ l.length := by
  intro n
  induction n with
  | zero =>
    intro l hl
    have e : l = [] := List.eq_nil_of_length_eq_zero (by omega)
    subst e
    rw [lex_end U (by rw [skipB.eq_def])]; simp
  | succ n ih =>
    intro l hl x hx
    rcases lex_cases U l with ⟨r, h⟩ | h | ⟨r, h, hr, hw⟩ | ⟨r, p, h, hr, hw, hp⟩
    · rw [lex_bad U h] at hx; simp at hx
    · rw [lex_end U h] at hx; simp at hx
    · rw [lex_none U h hr hw] at hx; simp at hx
    · rw [lex_of U h hr hw] at hx
      rcases List.mem_cons.1 hx with rfl | hx
      · have := skipB_le _ l (Nat.le_refl _)
        rw [h] at this
        exact this
      · have := ih p.2 (by omega) x hx
        omega
/-- A text's words. -/
def lw (s : ByteArray) : List W4 := (lexP s).map toW4
def shiftW (n : Nat) (x : W4) : W4 := ⟨x.k, x.i + (n : Int) + 1, x.t, x.n⟩
theorem lw_len (s : ByteArray) : (lw s).length ≤ s.size := by unfold lw; rw [List.length_map]; exact lexP_len s
/-- Where words lie, and how great they are. -/
theorem lw_small (s : ByteArray) : ∀ x ∈ lw s, 0 ≤ x.i ∧ x.i ≤ s.size := by
  intro x hx
  unfold lw lexP lexQ at hx
  simp only [List.map_map, List.mem_map] at hx
  obtain ⟨y, hy, rfl⟩ := hx
  simp only [Function.comp, toW4]
  omega
def joined (s t : ByteArray) : ByteArray := bsOf (s.data.toList ++ 10 :: t.data.toList)
theorem joined_size (s t : ByteArray) : (joined s t).size = s.size + 1 + t.size := by
  unfold joined
  rw [bsOf_size, List.length_append, List.length_cons]
  show s.size + (t.size + 1) = _
  omega
theorem lw_join (s t : ByteArray) (h : lexO s = none) : lw (joined s t) = lw s ++ (lw t).map (shiftW s.size) ∧ lexO (joined s t) = lexO t := by
  have e0 : suf (joined s t) 0 = s.data.toList ++ 10 :: t.data.toList := bsOf_list _
  have h0 : (lexB Lib.validD s.data.toList).2 = none := h
  have hj := lex_join Lib.validD _ s.data.toList t.data.toList (Nat.le_refl _) h0
  refine ⟨?_, ?_⟩
  · unfold lw lexP lexQ
    rw [e0, hj, joined_size]
    simp only [List.map_append, List.map_map]
    have es : suf s 0 = s.data.toList := rfl
    have et : suf t 0 = t.data.toList := rfl
    rw [es, et]
    congr 1
    · refine List.map_congr_left fun x hx => ?_
      simp only [Function.comp, toW4, W4.mk.injEq, true_and, and_true]
      have : t.data.toList.length = t.size := rfl
      omega
    · refine List.map_congr_left fun x hx => ?_
      have hl := lex_left Lib.validD _ t.data.toList (Nat.le_refl _) x hx
      have : t.data.toList.length = t.size := rfl
      simp only [Function.comp, toW4, shiftW, W4.mk.injEq, true_and, and_true]
      omega
  · unfold lexO
    rw [e0, hj]
    rfl
theorem join_text (s t : ByteArray) : s ++ ⟨#[10]⟩ ++ t = joined s t := by
  unfold joined
  rw [← of_bs (s ++ ⟨#[10]⟩ ++ t)]
  congr 1
  simp [ByteArray.data_append]
end Go.Proofs.YtbjcdpenfijfoaaGreatDoor
