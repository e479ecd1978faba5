/- What is read may be; two texts with a line end between: about rows of bytes alone. -/
import Derived.Test.YtbjcdpenfijfoaaGreatDoorWlex2
namespace Go.Lexed
open Go.Lib
set_option linter.unusedVariables false
set_option linter.unusedSimpArgs false
section
variable (U : List UInt8 → Bool)

theorem take_all {p : UInt8 → Bool} : ∀ (l : List UInt8), (l.takeWhile p).all p = true
  | [] => rfl
  | c :: l => by
    rw [List.takeWhile]
    split
    · rename_i h; simp only [List.all_cons, h, take_all l, Bool.and_self]
    · rfl

/-- What is read may be. -/
theorem word_may {l : List UInt8} {p : Wd × List UInt8} (h : wordB U l = some p) : mayW U p.1 = true := by
  cases l with
  | nil => simp [wordB] at h
  | cons c r =>
    simp only [wordB] at h
    split at h
    · rename_i hc
      split at h
      · rename_i hok
        simp only [Option.some.injEq] at h
        subst h
        have hld : isLD c = true := by simp [isLD, hc]
        have hb : bareB ((c :: r).takeWhile isLD) = true := by
          have h1 := take_all (p := isLD) (c :: r)
          unfold bareB
          rw [h1, Bool.and_true, List.takeWhile, hld]
          exact hc
        simp [mayW, hb, hok]
      · cases h
    · split at h
      · split at h
        · split at h
          · rename_i hok
            simp only [Option.some.injEq] at h
            subst h
            simp [mayW, hok]
          · cases h
        · cases h
      · split at h
        · split at h
          · split at h
            · rename_i hok
              simp only [Option.some.injEq] at h
              subst h
              simp [mayW, hok]
            · cases h
          · cases h
        · split at h
          · unfold numB at h
            simp only at h
            split at h
            · rename_i hok
              simp only [Option.some.injEq] at h
              subst h
              simp [mayW, hok.1]
            · cases h
          · unfold signB at h
            cases r with
            | nil =>
              simp only at h
              split at h
              · rename_i hok
                simp only [Option.some.injEq] at h; subst h; simp [mayW, signOk, hok]
              · cases h
            | cons b r' =>
              simp only at h
              split at h
              · rename_i hok
                simp only [Option.some.injEq] at h; subst h; simp [mayW, signOk, hok]
              · split at h
                · rename_i hok
                  simp only [Option.some.injEq] at h; subst h; simp [mayW, signOk, hok]
                · cases h

theorem lex_cases (l : List UInt8) : (∃ r, skipB l = (r, false)) ∨ skipB l = ([], true) ∨ (∃ r, skipB l = (r, true) ∧ r ≠ [] ∧ wordB U r = none) ∨ ∃ r p, skipB l = (r, true) ∧ r ≠ [] ∧ wordB U r = some p ∧ p.2.length < l.length := by
  cases e : skipB l with
  | mk r ok =>
    cases ok with
    | false => exact .inl ⟨r, rfl⟩
    | true =>
      by_cases hr : r = []
      · subst hr; exact .inr (.inl rfl)
      · cases hw : wordB U r with
        | none => exact .inr (.inr (.inl ⟨r, rfl, hr, hw⟩))
        | some p =>
          refine .inr (.inr (.inr ⟨r, p, rfl, hr, hw, ?_⟩))
          have h1 := wordB_lt U hw
          have h2 := skipB_le _ l (Nat.le_refl _)
          rw [e] at h2
          simp only at h2
          omega

theorem lex_may : ∀ (n : Nat) (l : List UInt8), l.length ≤ n → ∀ x ∈ (lexB U l).1, mayW U x.1 = true := by
  intro n
  induction n with
  | zero =>
    intro l hl x hx
    have : l = [] := by cases l <;> simp_all
    subst this
    rw [lex_end U (by rw [skipB.eq_def])] at hx
    simp at hx
  | succ n ih =>
    intro l hl x hx
    rcases lex_cases U l with ⟨r, h⟩ | h | ⟨r, h, hr, hw⟩ | ⟨r, p, h, hr, hw, hlt⟩
    · rw [lex_bad U h] at hx; simp at hx
    · rw [lex_end U h] at hx; simp at hx
    · rw [lex_none U h hr hw] at hx; simp at hx
    · rw [lex_of U h hr hw] at hx
      rcases List.mem_cons.1 hx with rfl | hx
      · exact word_may U hw
      · exact ih p.2 (by omega) x hx

/-! Two texts with a line end between -/
theorem line_join : ∀ (l b : List UInt8), lineB (l ++ 10 :: b) = lineB l ++ 10 :: b
  | [], b => by simp [lineB]
  | c :: l, b => by
    rw [List.cons_append, lineB, lineB]
    split
    · rfl
    · exact line_join l b
theorem star_join : ∀ (l b : List UInt8) (r : List UInt8), starB l = some r → starB (l ++ 10 :: b) = some (r ++ 10 :: b)
  | [], b, r, h => by simp [starB] at h
  | [a], b, r, h => by simp [starB] at h
  | a :: c :: l, b, r, h => by
    rw [starB] at h
    rw [List.cons_append, List.cons_append, starB]
    split at h
    · rename_i hc
      simp only [Option.some.injEq] at h
      subst h
      rw [if_pos hc]
    · rename_i hc
      rw [if_neg hc]
      exact star_join (c :: l) b r h
theorem skip_line (l : List UInt8) : skipB (47 :: 47 :: l) = skipB (lineB l) := by
  rw [skipB.eq_def]; simp [show isB 47 = false from rfl]
theorem skip_star {l r : List UInt8} (h : starB l = some r) : skipB (47 :: 42 :: l) = skipB r := by
  rw [skipB.eq_def]
  simp only [show isB 47 = false from rfl, Bool.false_eq_true, if_false, if_true, show ¬ (42 : UInt8) = 47 by decide]
  split
  · rename_i h0; rw [h] at h0; cases h0
  · rename_i q h0
    rw [h] at h0
    simp only [Option.some.injEq] at h0
    subst h0
    rfl
theorem skip_open {l : List UInt8} (h : starB l = none) : skipB (47 :: 42 :: l) = (47 :: 42 :: l, false) := by
  rw [skipB.eq_def]
  simp only [show isB 47 = false from rfl, Bool.false_eq_true, if_false, if_true, show ¬ (42 : UInt8) = 47 by decide]
  split
  · rfl
  · rename_i q h0
    rw [h] at h0
    cases h0
theorem skip_join : ∀ (n : Nat) (a b : List UInt8), a.length ≤ n → ∀ r, skipB a = (r, true) → skipB (a ++ 10 :: b) = if r = [] then skipB b else (r ++ 10 :: b, true) := by
  intro n
  induction n with
  | zero =>
    intro a b hl r h
    have : a = [] := by cases a <;> simp_all
    subst this
    rw [skipB.eq_def] at h
    simp only [Prod.mk.injEq] at h
    rw [if_pos h.1.symm]
    exact skip_blank (by decide) b
  | succ n ih =>
    intro a b hl r h
    cases a with
    | nil =>
      rw [skipB.eq_def] at h
      simp only [Prod.mk.injEq] at h
      rw [if_pos h.1.symm]
      exact skip_blank (by decide) b
    | cons c a =>
      simp only [List.length_cons] at hl
      by_cases hc : isB c = true
      · rw [skip_blank hc] at h
        rw [List.cons_append, skip_blank hc]
        exact ih a b (by omega) r h
      · have hc' : isB c = false := by simpa using hc
        by_cases h47 : c = 47
        · cases a with
          | nil =>
            rw [skip_stay hc' (fun _ d hd => by simp at hd)] at h
            simp only [Prod.mk.injEq] at h
            rw [← h.1, if_neg (by simp)]
            exact skip_stay hc' (fun _ d hd => by simp at hd; subst hd; decide)
          | cons d a =>
            simp only [List.length_cons] at hl
            rw [List.cons_append, List.cons_append]
            subst h47
            by_cases hd : d = 47
            · subst hd
              rw [skip_line] at h ⊢
              rw [line_join]
              exact ih _ b (by have := lineB_le a; omega) r h
            · by_cases hd' : d = 42
              · subst hd'
                cases hst : starB a with
                | none => rw [skip_open hst] at h; simp at h
                | some r'' =>
                  rw [skip_star hst] at h
                  rw [skip_star (star_join a b r'' hst)]
                  exact ih r'' b (by have := starB_lt hst; omega) r h
              · rw [skip_stay hc' (fun _ e he => by simp at he; subst he; exact ⟨hd, hd'⟩)] at h
                simp only [Prod.mk.injEq] at h
                rw [← h.1, if_neg (by simp)]
                exact skip_stay hc' (fun _ e he => by simp at he; subst he; exact ⟨hd, hd'⟩)
        · rw [skip_stay hc' (fun e => absurd e h47)] at h
          simp only [Prod.mk.injEq] at h
          rw [← h.1, if_neg (by simp), List.cons_append]
          exact skip_stay hc' (fun e => absurd e h47)

theorem take_join {p : UInt8 → Bool} (hp : p 10 = false) : ∀ (l b : List UInt8), (l ++ 10 :: b).takeWhile p = l.takeWhile p ∧ (l ++ 10 :: b).dropWhile p = l.dropWhile p ++ 10 :: b
  | [], b => by simp [List.takeWhile, List.dropWhile, hp]
  | c :: l, b => by
    obtain ⟨e1, e2⟩ := take_join hp l b
    rw [List.cons_append, List.takeWhile, List.takeWhile, List.dropWhile, List.dropWhile, e1, e2]
    cases p c <;> simp
theorem quot_join : ∀ (n : Nat) (l b : List UInt8), l.length ≤ n → ∀ p, quotB l = some p → quotB (l ++ 10 :: b) = some (p.1, p.2 ++ 10 :: b)
  | n, [], b, _, p, h => by simp [quotB] at h
  | 0, c :: r, b, hl, p, h => by simp at hl
  | n + 1, c :: r, b, hl, p, h => by
    rw [List.cons_append]
    rw [quotB.eq_def] at h ⊢
    simp only at h ⊢
    simp only [List.length_cons] at hl
    by_cases hc : c = 96
    · simp only [hc, if_true] at h ⊢
      cases r with
      | nil => simp only [Option.some.injEq] at h; subst h; simp
      | cons d r' =>
        simp only [List.cons_append] at h ⊢
        by_cases hd : d = 96
        · simp only [hd, if_true] at h ⊢
          obtain ⟨q, h1, rfl⟩ := Option.map_eq_some_iff.1 h
          rw [quot_join n r' b (by simp at hl; omega) q h1]
          rfl
        · simp only [hd, if_false, Option.some.injEq] at h ⊢
          subst h; rfl
    · simp only [hc, if_false] at h ⊢
      obtain ⟨q, h1, rfl⟩ := Option.map_eq_some_iff.1 h
      rw [quot_join n r b (by omega) q h1]
      rfl
theorem text_join (q : UInt8) : ∀ (n : Nat) (l b : List UInt8), l.length ≤ n → ∀ p, textB q l = some p → textB q (l ++ 10 :: b) = some (p.1, p.2 ++ 10 :: b)
  | n, [], b, _, p, h => by rw [textB.eq_def] at h; simp at h
  | 0, c :: r, b, hl, p, h => by simp at hl
  | n + 1, c :: r, b, hl, p, h => by
    rw [List.cons_append]
    rw [textB.eq_def] at h ⊢
    simp only at h ⊢
    simp only [List.length_cons] at hl
    by_cases hc : c = q
    · simp only [hc, if_true, Option.some.injEq] at h ⊢
      subst h; rfl
    · simp only [hc, if_false] at h ⊢
      by_cases h92 : c = 92
      · simp only [h92, if_true] at h ⊢
        cases r with
        | nil => simp at h
        | cons e r' =>
          simp only [List.length_cons] at hl
          simp only [List.cons_append] at h ⊢
          cases hb : bitB e with
          | some x =>
            simp only [hb] at h ⊢
            obtain ⟨q', h1, rfl⟩ := Option.map_eq_some_iff.1 h
            rw [text_join q n r' b (by omega) q' h1]
            rfl
          | none =>
            simp only [hb] at h ⊢
            by_cases h117 : e = 117
            · simp only [h117, if_true] at h ⊢
              match r', h, hl with
              | [], h, _ => simp at h
              | [_], h, _ => simp at h
              | [_, _], h, _ => simp at h
              | [_, _, _], h, _ => simp at h
              | x :: y :: z :: u :: r'', h, hl =>
                simp only [List.cons_append, List.length_cons] at h hl ⊢
                cases hu : rune4 x y z u with
                | none => simp [hu] at h
                | some v =>
                  simp only [hu] at h ⊢
                  obtain ⟨q', h1, rfl⟩ := Option.map_eq_some_iff.1 h
                  rw [text_join q n r'' b (by omega) q' h1]
                  rfl
            · simp [h117] at h
      · simp only [h92, if_false] at h ⊢
        obtain ⟨q', h1, rfl⟩ := Option.map_eq_some_iff.1 h
        rw [text_join q n r b (by omega) q' h1]
        rfl
theorem word_join {l : List UInt8} {p : Wd × List UInt8} (b : List UInt8) (h : wordB U l = some p) : wordB U (l ++ 10 :: b) = some (p.1, p.2 ++ 10 :: b) := by
  cases l with
  | nil => simp [wordB] at h
  | cons c r =>
    rw [List.cons_append]
    simp only [wordB] at h ⊢
    obtain ⟨t1, t2⟩ := take_join (p := isLD) (by decide) (c :: r) b
    rw [List.cons_append] at t1 t2
    rw [t1, t2]
    by_cases h1 : isL c = true
    · simp only [h1, if_true] at h ⊢
      by_cases h2 : nameOk U ((c :: r).takeWhile isLD) = true
      · simp only [h2, if_true, Option.some.injEq] at h ⊢
        subst h; rfl
      · simp [h2] at h
    · simp only [h1, Bool.false_eq_true, if_false] at h ⊢
      by_cases h2 : c = 96
      · simp only [h2, if_true] at h ⊢
        cases hq : quotB r with
        | none => simp [hq] at h
        | some q =>
          rw [quot_join _ r b (Nat.le_refl _) q hq]
          simp only [hq] at h ⊢
          by_cases h3 : nameOk U q.1 = true
          · simp only [h3, if_true, Option.some.injEq] at h ⊢
            subst h; rfl
          · simp [h3] at h
      · simp only [h2, if_false] at h ⊢
        by_cases h3 : c = 39 ∨ c = 34
        · simp only [h3, if_true] at h ⊢
          cases hq : textB c r with
          | none => simp [hq] at h
          | some q =>
            rw [text_join c _ r b (Nat.le_refl _) q hq]
            simp only [hq] at h ⊢
            by_cases h4 : U q.1 = true
            · simp only [h4, if_true, Option.some.injEq] at h ⊢
              subst h; rfl
            · simp [h4] at h
        · simp only [h3, if_false] at h ⊢
          by_cases h4 : isD c = true
          · simp only [h4, if_true] at h ⊢
            obtain ⟨t1, t2⟩ := take_join (p := isD) (by decide) (c :: r) b
            rw [List.cons_append] at t1 t2
            unfold numB at h ⊢
            simp only at h ⊢
            rw [t1, t2]
            split at h
            · rename_i hk
              simp only [Option.some.injEq] at h
              subst h
              refine if_pos ⟨hk.1, hk.2.1, fun x hx => ?_⟩
              cases hdr : (c :: r).dropWhile isD with
              | nil =>
                rw [hdr] at hx
                simp at hx
                subst hx
                decide
              | cons y ys =>
                refine hk.2.2 x ?_
                rw [hdr] at hx ⊢
                simpa using hx
            · cases h
          · simp only [h4, Bool.false_eq_true, if_false] at h ⊢
            unfold signB at h ⊢
            cases r with
            | nil =>
              simp only [List.nil_append] at h ⊢
              have ht : twoB c 10 = false := by simp [twoB]
              by_cases h5 : oneB c = true
              · simp only [h5, ht, if_true, Option.some.injEq, Bool.false_eq_true, if_false] at h ⊢
                subst h; rfl
              · simp [h5] at h
            | cons d r' =>
              simp only [List.cons_append] at h ⊢
              by_cases h6 : twoB c d = true
              · simp only [h6, if_true, Option.some.injEq] at h ⊢
                subst h; rfl
              · simp only [h6, Bool.false_eq_true, if_false] at h ⊢
                by_cases h5 : oneB c = true
                · simp only [h5, if_true, Option.some.injEq] at h ⊢
                  subst h; rfl
                · simp [h5] at h
/-- The words of two texts with a line end between. -/
theorem lex_join : ∀ (n : Nat) (a b : List UInt8), a.length ≤ n → (lexB U a).2 = none → lexB U (a ++ 10 :: b) = ((lexB U a).1.map (fun x => (x.1, x.2 + 1 + b.length)) ++ (lexB U b).1, (lexB U b).2) := by
  intro n
  induction n with
  | zero =>
    intro a b hl h
    have : a = [] := by cases a <;> simp_all
    subst this
    rw [lex_end U (l := []) (by rw [skipB.eq_def])]
    exact lex_skip U (skip_blank (by decide) b)
  | succ n ih =>
    intro a b hl h
    rcases lex_cases U a with ⟨r, h0⟩ | h0 | ⟨r, h0, hr, hw⟩ | ⟨r, p, h0, hr, hw, hlt⟩
    · rw [lex_bad U h0] at h; cases h
    · have h1 := skip_join _ a b (Nat.le_refl _) [] h0
      rw [if_pos rfl] at h1
      rw [lex_end U h0, lex_skip U h1]
      rfl
    · rw [lex_none U h0 hr hw] at h; cases h
    · have h1 := skip_join _ a b (Nat.le_refl _) r h0
      rw [if_neg hr] at h1
      rw [lex_of U h0 hr hw] at h ⊢
      rw [lex_of U h1 (by simp) (word_join U b hw)]
      have h2 := ih p.2 b (by omega) h
      simp only [h2]
      simp [Nat.add_assoc, Nat.add_comm 1]
end
end Go.Lexed
