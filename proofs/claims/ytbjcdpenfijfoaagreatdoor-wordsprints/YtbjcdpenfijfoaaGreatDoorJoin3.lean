/- The gaps of WordsGaps, the ends of its texts, names as they are spelt: about rows of bytes alone. Numbers by their runs, comments by lines, many points: about rows of bytes alone. -/
import Derived.Test.YtbjcdpenfijfoaaGreatDoorWlex3
namespace Go.Lexed
open Go.Lib
set_option linter.unusedVariables false
set_option linter.unusedSimpArgs false
section
variable (U : List UInt8 → Bool)

theorem gap_line : Gap [10] := ⟨fun s => skip_blank (by decide) s, 10, [], rfl, by decide⟩
/-- A comment between two signs, and one up to the line's end. -/
theorem gap_star : Gap [32, 47, 42, 32, 39, 32, 47, 47, 32, 42, 42, 47] := by
  refine ⟨fun s => ?_, 32, _, rfl, by decide⟩
  show skipB (32 :: 47 :: 42 :: (32 :: 39 :: 32 :: 47 :: 47 :: 32 :: 42 :: 42 :: 47 :: s)) = _
  rw [skip_blank (by decide)]
  exact skip_star (by simp [starB])
theorem gap_note : Gap [9, 13, 32, 47, 47, 32, 97, 34, 91, 47, 42, 10] := by
  refine ⟨fun s => ?_, 9, _, rfl, by decide⟩
  show skipB (9 :: 13 :: 32 :: 47 :: 47 :: (32 :: 97 :: 34 :: 91 :: 47 :: 42 :: 10 :: s)) = _
  rw [skip_blank (by decide), skip_blank (by decide), skip_blank (by decide), skip_line]
  have : lineB (32 :: 97 :: 34 :: 91 :: 47 :: 42 :: 10 :: s) = 10 :: s := by simp [lineB]
  rw [this, skip_blank (by decide)]
/-- Ends: a line end and an empty comment; a sign that is none; a comment without its end. -/
theorem end_note : lexB U [10, 32, 47, 47] = ([], none) := by
  refine lex_end U ?_
  rw [skip_blank (by decide), skip_blank (by decide), skip_line, lineB, skipB.eq_def]
theorem end_bad : lexB U [32, 35] = ([], some 1) := by
  refine lex_none U (r := [35]) ?_ (by simp) ?_
  · rw [skip_blank (by decide)]
    exact skip_stay (by decide) (fun h => absurd h (by decide))
  · simp [wordB, isL, isD, signB, oneB]
theorem end_open : lexB U [32, 47, 42, 32, 42] = ([], some 4) := by
  refine lex_bad U (r := [47, 42, 32, 42]) ?_
  rw [skip_blank (by decide)]
  exact skip_open (by simp [starB])

/-- A name that is read as it is, and one between two signs. -/
theorem lex_name (t : List UInt8) (hb : bareB t = true) (hn : nameOk U t = true) : lexB U t = ([(⟨1, t, 0⟩, t.length)], none) := by
  have h := lex_one U ⟨1, t, 0⟩ [] (by simp [mayW, hb, hn]) (fun c hc => by simp at hc)
  have h0 : lexB U [] = ([], none) := lex_end U (by rw [skipB.eq_def])
  rw [h0, List.append_nil] at h
  exact h
theorem lex_quoted (t : List UInt8) (hn : nameOk U t = true) : lexB U (tellW ⟨2, t, 0⟩) = ([(⟨2, t, 0⟩, (tellW ⟨2, t, 0⟩).length)], none) := by
  have h := lex_one U ⟨2, t, 0⟩ [] (by simp [mayW, hn]) (fun c hc => by simp at hc)
  have h0 : lexB U [] = ([], none) := lex_end U (by rw [skipB.eq_def])
  rw [h0, List.append_nil] at h
  exact h
/-- A text that is read as one name alone is one that needs no signs. -/
theorem name_bare {l : List UInt8} {n : Nat} (h : (lexB U l).1 = [(⟨1, l, 0⟩, n)]) : bareB l = true ∧ nameOk U l = true := by
  have := lex_may U _ l (Nat.le_refl _) (⟨1, l, 0⟩, n) (by rw [h]; simp)
  simpa [mayW] using this

/-- How long words are that are told. -/
theorem esc_len (c : UInt8) : (escC c).length ≤ 6 := by
  unfold escC
  repeat' split
  all_goals simp
theorem dbl_len (c : UInt8) : (dblC c).length ≤ 2 := by
  unfold dblC
  split <;> simp
theorem flat_len {f : UInt8 → List UInt8} {k : Nat} (h : ∀ c, (f c).length ≤ k) : ∀ (l : List UInt8), ((l.map f).flatten).length ≤ k * l.length
  | [] => by simp
  | c :: l => by
    have h1 := h c
    have h2 := flat_len h l
    simp only [List.map_cons, List.flatten_cons, List.length_append, List.length_cons, Nat.mul_add]
    omega
theorem dec_len : ∀ (k u : Nat), u < 10 ^ (k + 1) → (decDigits u).length ≤ k + 1
  | 0, u, h => by rw [decDigits, dif_pos (by omega)]; simp
  | k + 1, u, h => by
    rw [decDigits]
    split
    · simp
    · have := dec_len k (u / 10) (by rw [Nat.pow_succ] at h; omega)
      simp; omega
theorem tell_len (w : Wd) (h : mayW U w = true) : (tellW w).length ≤ 6 * w.text.length + 20 := by
  unfold tellW
  split
  · have := flat_len dbl_len w.text; simp only [List.length_cons, List.length_append, List.length_nil]; omega
  · split
    · have := flat_len esc_len w.text; simp only [List.length_cons, List.length_append, List.length_nil]; omega
    · split
      · rename_i h4
        have hn : w.num ≤ 9223372036854775808 := by
          unfold mayW at h
          rw [h4] at h
          simp at h
          exact h.2
        have := dec_len 19 w.num (by omega)
        omega
      · omega
end
end Go.Lexed

namespace Go.Lexed
open Go.Lib
set_option linter.unusedVariables false
set_option linter.unusedSimpArgs false
section
variable (U : List UInt8 → Bool)

theorem run_cases : ∀ (l : List UInt8), ((l.takeWhile isLD).all isD = true ∧ l.takeWhile isD = l.takeWhile isLD ∧ l.dropWhile isD = l.dropWhile isLD ∧ ∀ c ∈ (l.dropWhile isLD).head?, isL c = false) ∨ ((l.takeWhile isLD).all isD = false ∧ ∃ c, (l.dropWhile isD).head? = some c ∧ isL c = true)
  | [] => .inl ⟨rfl, rfl, rfl, fun c hc => by simp at hc⟩
  | c :: l => by
    by_cases hd : isD c = true
    · have hld : isLD c = true := by simp [isLD, hd]
      simp only [List.takeWhile, List.dropWhile, hd, hld, List.all_cons, Bool.true_and]
      rcases run_cases l with ⟨h1, h2, h3, h4⟩ | ⟨h1, h2⟩
      · exact .inl ⟨h1, by rw [h2], h3, h4⟩
      · exact .inr ⟨h1, h2⟩
    · have hd' : isD c = false := by simpa using hd
      by_cases hl : isL c = true
      · have hld : isLD c = true := by simp [isLD, hl]
        right
        simp only [List.takeWhile, List.dropWhile, hd', hld, List.all_cons, Bool.false_and, List.head?_cons]
        exact ⟨trivial, c, rfl, hl⟩
      · have hl' : isL c = false := by simpa using hl
        have hld : isLD c = false := by simp [isLD, hd', hl']
        left
        simp only [List.takeWhile, List.dropWhile, hd', hld, List.head?_cons]
        refine ⟨by simp, by simp, by simp, fun x hx => ?_⟩
        simp only [Option.mem_some_iff] at hx
        subst hx
        exact hl'
/-- A number, by the run of letters and digits that begins with it. -/
theorem num_run (l : List UInt8) : numB l = if (l.takeWhile isLD).all isD = true ∧ valD (l.takeWhile isLD) ≤ 9223372036854775808 ∧ (l.head? ≠ some 48 ∨ (l.takeWhile isLD).length = 1) then some (⟨4, [], valD (l.takeWhile isLD)⟩, l.dropWhile isLD) else none := by
  unfold numB
  simp only
  rcases run_cases l with ⟨h1, h2, h3, h4⟩ | ⟨h1, c, h2, h3⟩
  · rw [h2, h3]
    by_cases hc : valD (l.takeWhile isLD) ≤ 9223372036854775808 ∧ (l.head? ≠ some 48 ∨ (l.takeWhile isLD).length = 1)
    · rw [if_pos ⟨hc.1, hc.2, h4⟩, if_pos ⟨h1, hc.1, hc.2⟩]
    · rw [if_neg (fun h => hc ⟨h.1, h.2.1⟩), if_neg (fun h => hc ⟨h.2.1, h.2.2⟩)]
  · rw [if_neg (fun h => by rw [h.2.2 c (by rw [h2]; simp)] at h3; cases h3), if_neg (fun h => by rw [h1] at h; cases h.1)]

/-- Behind a comment's line. -/
def overB : List UInt8 → List UInt8
  | [] => []
  | c :: r => if c = 10 then r else overB r
theorem skip_over : ∀ (l : List UInt8), skipB (lineB l) = skipB (overB l)
  | [] => rfl
  | c :: l => by
    rw [lineB, overB]
    split
    · rename_i h; rw [h]; exact skip_blank (by decide) l
    · exact skip_over l

/-- As many points as one likes. -/
theorem lex_points : ∀ (n : Nat), lexB U (List.replicate n 46) = ((List.range n).map (fun i => (⟨5, [46], 0⟩, n - i)), none)
  | 0 => lex_end U (by show skipB [] = _; rw [skipB.eq_def])
  | n + 1 => by
    have hs : skipB (46 :: List.replicate n 46) = (46 :: List.replicate n 46, true) := skip_stay (by decide) (fun h => absurd h (by decide))
    have hw : wordB U (46 :: List.replicate n 46) = some (⟨5, [46], 0⟩, List.replicate n 46) := by
      cases n with
      | zero => simp [wordB, isL, isD, signB, oneB]
      | succ m => simp [wordB, isL, isD, signB, oneB, twoB, List.replicate_succ]
    rw [List.replicate_succ, lex_of U hs (by simp) hw, lex_points n]
    simp only [List.length_cons, List.length_replicate, Prod.mk.injEq, and_true]
    rw [List.range_succ_eq_map, List.map_cons, List.map_map]
    refine List.cons_eq_cons.2 ⟨rfl, ?_⟩
    refine List.map_congr_left fun i hi => ?_
    simp only [Function.comp, Prod.mk.injEq, true_and]
    omega
end
end Go.Lexed

