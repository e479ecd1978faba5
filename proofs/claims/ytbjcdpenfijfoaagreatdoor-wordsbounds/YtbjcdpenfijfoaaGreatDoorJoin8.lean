/- small: not many words, and their texts not long. How long words are that were read. -/
import Derived.Test.YtbjcdpenfijfoaaGreatDoorPsame
namespace Go.Proofs.YtbjcdpenfijfoaaGreatDoor
open Go.RowKit Go.Shelf Go.Lexed
set_option linter.unusedVariables false
set_option linter.unusedSimpArgs false
attribute [local go_sem] Oper.semAt_some
/-- What small answers. -/
def SmallTo (xs : List W4) (w : World) (e : Ending) (w' : World) : Prop := ∃ b : Bool, e = .returned (.bool b) ∧ w' = w ∧ (b = true → xs.length ≤ 200 ∧ ∀ x ∈ xs, x.t.size ≤ 4000)
set_option maxRecDepth 100000 in
set_option maxHeartbeats 4000000 in
theorem small_any (xs : List W4) (v : Value) (w : World) (hx : Lie4 w.heap.size w v xs) :
    Calls Tryz.prog 18 #[v] w fun e w' => SmallTo xs w e w' := by
  have HX := hidE hx
  obtain ⟨ad1, cp1, rfl, l1, m1, -⟩ := hx
  go_enter Tryz.func18, Tryz.ntmps18
  go_wp2_with fail
  go_loopw [3, 4] (fun s i wr => ∃ j n : Nat, j ≤ xs.length ∧ j ≤ 201 ∧ i = .int .i64 j ∧ s = .int .i64 n ∧ n ≤ 4001 * j ∧ wr = w ∧ ∀ x ∈ xs.take j, min x.t.size 4001 ≤ n) (fun _ i _ => xs.length - (intOf i).toNat)
  case atStart => exact ⟨0, 0, Nat.zero_le _, by omega, rfl, rfl, by omega, rfl, by simp⟩
  case round =>
    obtain ⟨j, n, hj, hj2, rfl, rfl, hn, rfl, hall⟩ := hrel
    have HA := hidE hall
    clear hall
    by_cases hlt : j < xs.length
    · have hlt' : (j : Int) < xs.length := by omega
      by_cases h200 : j ≤ 200
      · have h200' : (j : Int) ≤ 200 := by omega
        obtain ⟨x, hxj⟩ : ∃ x, xs[j]? = some x := ⟨_, List.getElem?_eq_getElem hlt⟩
        obtain ⟨bl1, off1, cap1, hv1, hbl1, _, c0, c1, c2, c3⟩ := HX.out.at hxj
        cases hv1
        have HXJ := hidE hxj
        clear hxj
        go_wp2_with fail
        go_roundw
        case rel =>
          refine ⟨j + 1, n + min x.t.size 4001, by omega, by omega, by go_num, by congr 1; omega, by omega, trivial, fun y hy => ?_⟩
          rw [List.take_add_one, HXJ.out] at hy
          rcases List.mem_append.1 hy with hy | hy
          · have := HA.out y hy; omega
          · simp only [Option.toList_some, List.mem_singleton] at hy
            subst hy; omega
        case measure => simp [intOf]; omega
      · have h200' : ¬ (j : Int) ≤ 200 := by omega
        have hl200 : ¬ (xs.length : Int) ≤ 200 := by omega
        go_wp2_with fail
        go_ret
        exact ⟨false, rfl, rfl, fun h => by cases h⟩
    · have hlt' : ¬ (j : Int) < xs.length := by omega
      by_cases hl : xs.length ≤ 200
      · have hl' : (xs.length : Int) ≤ 200 := by omega
        by_cases h4 : n ≤ 4000
        · have h4' : (n : Int) ≤ 4000 := by omega
          have HF : Hid (∀ x ∈ xs, x.t.size ≤ 4000) := fun x hx => by
            have := HA.out x (by rw [List.take_of_length_le (by omega)]; exact hx)
            omega
          go_wp2_with fail
          go_ret
          exact ⟨true, rfl, rfl, fun _ => ⟨hl, HF.out⟩⟩
        · have h4' : ¬ (n : Int) ≤ 4000 := by omega
          go_wp2_with fail
          go_ret
          exact ⟨false, rfl, rfl, fun h => by cases h⟩
      · have hl' : ¬ (xs.length : Int) ≤ 200 := by omega
        go_wp2_with fail
        go_ret
        exact ⟨false, rfl, rfl, fun h => by cases h⟩
end Go.Proofs.YtbjcdpenfijfoaaGreatDoor

namespace Go.Lexed
set_option linter.unusedVariables false
set_option linter.unusedSimpArgs false
theorem rune_len {a b c d : UInt8} {x : List UInt8} (h : rune4 a b c d = some x) : x.length ≤ 3 := by
  unfold rune4 at h
  cases h1 : hexN a with
  | none => simp [h1] at h
  | some a' =>
    cases h2 : hexN b with
    | none => simp [h1, h2] at h
    | some b' =>
      cases h3 : hexN c with
      | none => simp [h1, h2, h3] at h
      | some c' =>
        cases h4 : hexN d with
        | none => simp [h1, h2, h3, h4] at h
        | some d' =>
          simp only [h1, h2, h3, h4, Option.bind_eq_bind, Option.bind_some] at h
          repeat' split at h
          all_goals first | cases h; done | (simp only [Option.some.injEq] at h; subst h; simp)
theorem quotB_sum : ∀ (n : Nat) (l : List UInt8), l.length ≤ n → ∀ p, quotB l = some p → p.1.length + p.2.length ≤ l.length
  | n, [], _, p, h => by simp [quotB] at h
  | 0, c :: r, hl, p, h => by simp at hl
  | n + 1, c :: r, hl, p, h => by
    rw [quotB.eq_def] at h
    simp only at h
    simp only [List.length_cons] at hl
    split at h
    · cases r with
      | nil => simp only [Option.some.injEq] at h; subst h; simp
      | cons d r' =>
        simp only at h
        split at h
        · obtain ⟨q, h1, rfl⟩ := Option.map_eq_some_iff.1 h
          have := quotB_sum n r' (by simp at hl; omega) q h1
          simp; omega
        · simp only [Option.some.injEq] at h; subst h; simp
    · obtain ⟨q, h1, rfl⟩ := Option.map_eq_some_iff.1 h
      have := quotB_sum n r (by omega) q h1
      simp; omega
theorem textB_sum (q : UInt8) : ∀ (n : Nat) (l : List UInt8), l.length ≤ n → ∀ p, textB q l = some p → p.1.length + p.2.length ≤ l.length
  | n, [], _, p, h => by rw [textB.eq_def] at h; simp at h
  | 0, c :: r, hl, p, h => by simp at hl
  | n + 1, c :: r, hl, p, h => by
    rw [textB.eq_def] at h
    simp only at h
    simp only [List.length_cons] at hl
    split at h
    · simp only [Option.some.injEq] at h; subst h; simp
    · split at h
      · cases r with
        | nil => simp at h
        | cons e r' =>
          simp only [List.length_cons] at hl
          simp only at h
          split at h
          · obtain ⟨q', h1, rfl⟩ := Option.map_eq_some_iff.1 h
            have := textB_sum q n r' (by omega) q' h1
            simp; omega
          · split at h
            · split at h
              · split at h
                · rename_i hx
                  have hr4 := rune_len hx
                  obtain ⟨q', h1, rfl⟩ := Option.map_eq_some_iff.1 h
                  simp only [List.length_cons] at hl
                  have := textB_sum q n _ (by omega) q' h1
                  simp; omega
                · cases h
              · cases h
            · cases h
      · obtain ⟨q', h1, rfl⟩ := Option.map_eq_some_iff.1 h
        have := textB_sum q n r (by omega) q' h1
        simp; omega
section
variable (U : List UInt8 → Bool)
theorem wordB_sum {l : List UInt8} {p : Wd × List UInt8} (h : wordB U l = some p) : p.1.text.length + p.2.length ≤ l.length := by
  cases l with
  | nil => simp [wordB] at h
  | cons c r =>
    simp only [wordB] at h
    split at h
    · rename_i hc
      split at h
      · simp only [Option.some.injEq] at h
        subst h
        simp only
        rw [← List.length_append, List.takeWhile_append_dropWhile]
        exact Nat.le_refl _
      · cases h
    · split at h
      · split at h
        · rename_i q hq
          split at h
          · simp only [Option.some.injEq] at h
            subst h
            have := quotB_sum _ r (Nat.le_refl _) q hq
            simp; omega
          · cases h
        · cases h
      · split at h
        · split at h
          · rename_i q hq
            split at h
            · simp only [Option.some.injEq] at h
              subst h
              have := textB_sum c _ r (Nat.le_refl _) q hq
              simp; omega
            · cases h
          · cases h
        · split at h
          · rename_i hd
            unfold numB at h
            simp only at h
            split at h
            · simp only [Option.some.injEq] at h
              subst h
              have := drop_le (p := isD) (c :: r)
              simpa using this
            · cases h
          · unfold signB at h
            cases r with
            | nil =>
              simp only at h
              split at h
              · simp only [Option.some.injEq] at h; subst h; simp
              · cases h
            | cons b r' =>
              simp only at h
              split at h
              · simp only [Option.some.injEq] at h; subst h; simp; omega
              · split at h
                · simp only [Option.some.injEq] at h; subst h; simp <;> omega
                · cases h

/-- How many bytes words have. -/
def bulkW (l : List (Wd × Nat)) : Nat := (l.map fun x => x.1.text.length).sum
theorem lex_bulk : ∀ (n : Nat) (l : List UInt8), l.length ≤ n → bulkW (lexB U l).1 + (lexB U l).1.length ≤ 2 * l.length := by
  intro n
  induction n with
  | zero =>
    intro l hl
    have e : l = [] := List.eq_nil_of_length_eq_zero (by omega)
    subst e
    rw [lex_end U (by rw [skipB.eq_def])]; simp [bulkW]
  | succ n ih =>
    intro l hl
    rcases lex_cases U l with ⟨r, h⟩ | h | ⟨r, h, hr, hw⟩ | ⟨r, p, h, hr, hw, hp⟩
    · rw [lex_bad U h]; simp [bulkW]
    · rw [lex_end U h]; simp [bulkW]
    · rw [lex_none U h hr hw]; simp [bulkW]
    · rw [lex_of U h hr hw]
      have h1 := ih p.2 (by omega)
      have h2 := wordB_sum U hw
      have h3 := skipB_le _ l (Nat.le_refl _)
      rw [h] at h3
      simp only at h3
      simp only [bulkW, List.map_cons, List.sum_cons, List.length_cons] at h1 ⊢
      omega
theorem tail_bulk : ∀ (l : List Wd), (∀ w ∈ l, mayW U w = true) → (tailW l).length ≤ 6 * (l.map fun x => x.text.length).sum + 21 * l.length
  | [], _ => by simp [tailW]
  | w :: l, h => by
    have h1 := tell_len U w (h w (by simp))
    have h2 := tail_bulk l (fun x hx => h x (by simp [hx]))
    simp only [tailW, List.map_cons, List.flatten_cons, List.length_append, List.length_cons, List.sum_cons] at h2 ⊢
    omega
theorem print_bulk (l : List Wd) (h : ∀ w ∈ l, mayW U w = true) : (printW l).length ≤ 6 * (l.map fun x => x.text.length).sum + 21 * l.length := by
  cases l with
  | nil => simp [printW]
  | cons w l =>
    have h1 := tell_len U w (h w (by simp))
    have h2 := tail_bulk U l (fun x hx => h x (by simp [hx]))
    simp only [printW, List.length_append, List.map_cons, List.sum_cons, List.length_cons] at h2 ⊢
    omega
/-- Words that were read, told: not long. -/
theorem lex_told (l : List UInt8) : (printW ((lexB U l).1.map (·.1))).length ≤ 42 * l.length := by
  have h1 := lex_bulk U _ l (Nat.le_refl _)
  have h2 := print_bulk U ((lexB U l).1.map (·.1)) (fun w hw => by
    obtain ⟨x, hx, rfl⟩ := List.mem_map.1 hw
    exact lex_may U _ l (Nat.le_refl _) x hx)
  simp only [bulkW, List.length_map, List.map_map] at h1 h2
  have e : ((lexB U l).1.map ((fun x => x.text.length) ∘ (·.1))) = (lexB U l).1.map fun x => x.1.text.length := rfl
  rw [e] at h2
  omega
end
end Go.Lexed

