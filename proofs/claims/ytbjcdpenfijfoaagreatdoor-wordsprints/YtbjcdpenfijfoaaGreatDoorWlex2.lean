/- Words that are told are read again; gaps and joins: about rows of bytes alone. -/
import Derived.Test.YtbjcdpenfijfoaaGreatDoorWlex
namespace Go.Lexed
open Go.Lib
set_option linter.unusedVariables false
set_option linter.unusedSimpArgs false
section
variable (U : List UInt8 → Bool)

theorem skip_blank {c : UInt8} (h : isB c = true) (l : List UInt8) : skipB (c :: l) = skipB l := by
  rw [skipB.eq_def]; simp [h]
theorem skip_stay {c : UInt8} {l : List UInt8} (h : isB c = false) (h' : c = 47 → ∀ d ∈ l.head?, d ≠ 47 ∧ d ≠ 42) : skipB (c :: l) = (c :: l, true) := by
  rw [skipB.eq_def]
  simp only [h, Bool.false_eq_true, if_false]
  split
  · rename_i hc
    cases l with
    | nil => rfl
    | cons d l' =>
      obtain ⟨h1, h2⟩ := h' hc d (by simp)
      simp [h1, h2]
  · rfl

set_option maxRecDepth 20000 in
theorem tell_head (w : Wd) (hw : mayW U w = true) : ∃ c t, tellW w = c :: t ∧ isB c = false ∧ (c = 47 → t = []) := by
  obtain ⟨k, t, n⟩ := w
  have hnl : ∀ c, isLD c = true → isB c = false ∧ c ≠ 47 := by
    intro c
    refine all_bytes (p := fun c => isLD c = true → isB c = false ∧ c ≠ 47) ?_ c
    decide
  unfold mayW at hw
  simp only at hw
  by_cases k1 : k = 1
  · subst k1
    simp only [if_true, Bool.and_eq_true, beq_iff_eq] at hw
    cases t with
    | nil => simp [bareB] at hw
    | cons c t =>
      have h := hw.1.1
      simp only [bareB, Bool.and_eq_true] at h
      obtain ⟨h1, h2⟩ := hnl c (by simp [isLD, h.1])
      exact ⟨c, t, rfl, h1, fun e => absurd e h2⟩
  · rw [if_neg k1] at hw
    by_cases k2 : k = 2
    · subst k2
      exact ⟨96, _, rfl, rfl, fun e => absurd e (by decide)⟩
    · rw [if_neg k2] at hw
      by_cases k3 : k = 3
      · subst k3
        exact ⟨39, _, rfl, rfl, fun e => absurd e (by decide)⟩
      · rw [if_neg k3] at hw
        by_cases k4 : k = 4
        · subst k4
          obtain ⟨c, l, e, hc⟩ := digits_head n
          obtain ⟨h1, h2⟩ := hnl c (by simp [isLD, (digit_isD c hc).1])
          exact ⟨c, l, e, h1, fun e => absurd e h2⟩
        · rw [if_neg k4] at hw
          by_cases k5 : k = 5
          · subst k5
            simp only [if_true, Bool.and_eq_true, beq_iff_eq] at hw
            have hs := hw.1
            match t, hs with
            | [a], hs =>
              refine ⟨a, [], rfl, ?_, fun _ => rfl⟩
              revert hs
              refine all_bytes (p := fun a => signOk [a] = true → isB a = false) ?_ a
              decide
            | [a, b], hs =>
              have h1 : twoB a b = true := hs
              have : a = 60 ∨ a = 62 := by
                simp only [twoB, Bool.or_eq_true, Bool.and_eq_true, beq_iff_eq] at h1
                rcases h1 with (h | h) | h
                · exact .inl h.1
                · exact .inl h.1
                · exact .inr h.1
              rcases this with rfl | rfl
              · exact ⟨60, [b], rfl, rfl, fun e => absurd e (by decide)⟩
              · exact ⟨62, [b], rfl, rfl, fun e => absurd e (by decide)⟩
          · rw [if_neg k5] at hw
            cases hw

theorem blank_sign (c : UInt8) : isB c = true → c ≠ 47 ∧ c ≠ 42 := by
  intro h
  have h1 : c = 32 ∨ c = 9 ∨ c = 10 ∨ c = 13 := by simpa [isB, or_assoc] using h
  rcases h1 with rfl | rfl | rfl | rfl <;> exact ⟨by decide, by decide⟩

theorem skip_tell (w : Wd) (r : List UInt8) (hw : mayW U w = true) (hr : Stop r) : skipB (tellW w ++ r) = (tellW w ++ r, true) := by
  obtain ⟨c, t, e, h1, h2⟩ := tell_head U w hw
  rw [e, List.cons_append]
  refine skip_stay h1 fun hc d hd => ?_
  rw [h2 hc, List.nil_append] at hd
  exact blank_sign d (hr d hd)

theorem lex_of {l r : List UInt8} {p : Wd × List UInt8} (hs : skipB l = (r, true)) (hr : r ≠ []) (hw : wordB U r = some p) : lexB U l = ((p.1, r.length) :: (lexB U p.2).1, (lexB U p.2).2) := by
  rw [lexB.eq_def]
  split
  rename_i r0 ok h0
  rw [hs] at h0
  simp only [Prod.mk.injEq] at h0
  obtain ⟨rfl, rfl⟩ := h0
  simp only [if_true, hr, if_false]
  split
  · rename_i h; rw [hw] at h; cases h
  · rename_i q h
    rw [hw] at h
    simp only [Option.some.injEq] at h
    subst h
    rfl
theorem lex_end {l : List UInt8} (hs : skipB l = ([], true)) : lexB U l = ([], none) := by
  rw [lexB.eq_def]
  split
  rename_i r0 ok h0
  rw [hs] at h0
  simp only [Prod.mk.injEq] at h0
  obtain ⟨rfl, rfl⟩ := h0
  simp
theorem lex_bad {l r : List UInt8} (hs : skipB l = (r, false)) : lexB U l = ([], some r.length) := by
  rw [lexB.eq_def]
  split
  rename_i r0 ok h0
  rw [hs] at h0
  simp only [Prod.mk.injEq] at h0
  obtain ⟨rfl, rfl⟩ := h0
  simp
theorem lex_none {l r : List UInt8} (hs : skipB l = (r, true)) (hr : r ≠ []) (hw : wordB U r = none) : lexB U l = ([], some r.length) := by
  rw [lexB.eq_def]
  split
  rename_i r0 ok h0
  rw [hs] at h0
  simp only [Prod.mk.injEq] at h0
  obtain ⟨rfl, rfl⟩ := h0
  simp only [if_true, hr, if_false]
  split
  · rfl
  · rename_i q h; rw [hw] at h; cases h
/-- Reading goes by what lies behind blanks alone. -/
theorem lex_skip {l l' : List UInt8} (h : skipB l = skipB l') : lexB U l = lexB U l' := by
  cases e : skipB l' with
  | mk r ok =>
    rw [e] at h
    cases ok with
    | false => rw [lex_bad U h, lex_bad U e]
    | true =>
      by_cases hr : r = []
      · subst hr; rw [lex_end U h, lex_end U e]
      · cases hw : wordB U r with
        | none => rw [lex_none U h hr hw, lex_none U e hr hw]
        | some p => rw [lex_of U h hr hw, lex_of U e hr hw]

/-! Words laid with gaps -/
/-- A gap: reading goes over it, and it begins with a blank. -/
def Gap (g : List UInt8) : Prop := (∀ s, skipB (g ++ s) = skipB s) ∧ ∃ c g', g = c :: g' ∧ isB c = true
def laidW : List (List UInt8 × Wd) → List UInt8 → List UInt8
  | [], z => z
  | p :: r, z => p.1 ++ (tellW p.2 ++ laidW r z)
def marksW : List (List UInt8 × Wd) → List UInt8 → List (Wd × Nat)
  | [], z => []
  | p :: r, z => (p.2, (tellW p.2 ++ laidW r z).length) :: marksW r z
theorem gap_stop : ∀ {l : List (List UInt8 × Wd)} {z : List UInt8}, (∀ p ∈ l, Gap p.1) → Stop z → Stop (laidW l z)
  | [], z, _, hz => hz
  | p :: r, z, hg, hz => by
    obtain ⟨_, c, g', e, hc⟩ := hg p (by simp)
    intro d hd
    rw [laidW, e, List.cons_append, List.head?_cons, Option.mem_some_iff] at hd
    subst hd
    exact hc
theorem lex_one (w : Wd) (r : List UInt8) (hw : mayW U w = true) (hr : Stop r) : lexB U (tellW w ++ r) = ((w, (tellW w ++ r).length) :: (lexB U r).1, (lexB U r).2) := by
  have hne : tellW w ++ r ≠ [] := by
    obtain ⟨c, t, e, _⟩ := tell_head U w hw
    rw [e]; simp
  exact lex_of U (skip_tell U w r hw hr) hne (word_back U w r hw hr)
theorem lex_laid : ∀ (l : List (List UInt8 × Wd)) (z : List UInt8), (∀ p ∈ l, Gap p.1) → (∀ p ∈ l, mayW U p.2 = true) → Stop z → lexB U (laidW l z) = (marksW l z ++ (lexB U z).1, (lexB U z).2)
  | [], z, _, _, _ => by simp [laidW, marksW]
  | p :: r, z, hg, hm, hz => by
    have ih := lex_laid r z (fun q hq => hg q (by simp [hq])) (fun q hq => hm q (by simp [hq])) hz
    have h1 : lexB U (laidW (p :: r) z) = lexB U (tellW p.2 ++ laidW r z) := lex_skip U ((hg p (by simp)).1 _)
    rw [h1, lex_one U p.2 _ (hm p (by simp)) (gap_stop (fun q hq => hg q (by simp [hq])) hz), ih]
    rfl

theorem gap_space : Gap [32] := ⟨fun s => skip_blank (by decide) s, 32, [], rfl, by decide⟩
/-- Words as they are told. -/
def tailW (l : List Wd) : List UInt8 := (l.map fun w => 32 :: tellW w).flatten
def printW : List Wd → List UInt8
  | [] => []
  | w :: l => tellW w ++ tailW l
theorem tail_laid : ∀ (l : List Wd), tailW l = laidW (l.map fun w => ([32], w)) []
  | [] => rfl
  | w :: l => by
    rw [List.map_cons, laidW, ← tail_laid l]
    simp [tailW]
theorem marks_fst : ∀ (l : List (List UInt8 × Wd)) (z : List UInt8), (marksW l z).map (·.1) = l.map (·.2)
  | [], z => rfl
  | p :: r, z => by simp [marksW, marks_fst r z]
/-- Words that are told are read again. -/
theorem lex_print (l : List Wd) (hm : ∀ w ∈ l, mayW U w = true) : (lexB U (printW l)).1.map (·.1) = l ∧ (lexB U (printW l)).2 = none := by
  have h0 : lexB U [] = ([], none) := lex_end U (by rw [skipB.eq_def])
  cases l with
  | nil => rw [printW, h0]; exact ⟨rfl, rfl⟩
  | cons w l =>
    have hg : ∀ p ∈ l.map (fun w => (([32] : List UInt8), w)), Gap p.1 := fun p hp => by
      obtain ⟨x, _, rfl⟩ := List.mem_map.1 hp
      exact gap_space
    have hm' : ∀ p ∈ l.map (fun w => (([32] : List UInt8), w)), mayW U p.2 = true := fun p hp => by
      obtain ⟨x, hx, rfl⟩ := List.mem_map.1 hp
      exact hm x (by simp [hx])
    have hz : Stop [] := fun c hc => by simp at hc
    rw [printW, tail_laid, lex_one U w _ (hm w (by simp)) (gap_stop hg hz), lex_laid U _ [] hg hm' hz, h0]
    simp only [List.map_cons, List.append_nil, marks_fst, List.map_map, and_true, List.cons.injEq, true_and]
    exact List.map_id l
end
end Go.Lexed
