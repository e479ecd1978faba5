/- Words told and read again. Words with gaps between: what is read of them. -/
import Derived.Test.YtbjcdpenfijfoaaGreatDoorJoin8
namespace Go.Proofs.YtbjcdpenfijfoaaGreatDoor
open Go.RowKit Go.Shelf Go.Lexed
set_option linter.unusedVariables false
set_option linter.unusedSimpArgs false
theorem may_kind (U : List UInt8 → Bool) {d : Wd} (h : mayW U d = true) : 1 ≤ d.kind := by
  rcases Nat.eq_zero_or_pos d.kind with e | e
  · unfold mayW at h; rw [e] at h; simp at h
  · exact e
theorem may_num (U : List UInt8 → Bool) {d : Wd} (h : mayW U d = true) : d.num ≤ 9223372036854775808 := by
  unfold mayW at h
  repeat' split at h
  all_goals first
    | (simp at h; done)
    | (simp only [Bool.and_eq_true, beq_iff_eq, decide_eq_true_eq] at h; omega)
theorem to_wd (d : Wd) (p : Nat) : (toW4 (d, p)).wd = d := by
  obtain ⟨k, t, n⟩ := d
  simp [toW4, W4.wd, bsOf_list]
theorem lw_wd (s : ByteArray) : (lw s).map W4.wd = (lexB Lib.validD (suf s 0)).1.map (·.1) := by
  unfold lw lexP lexQ
  simp only [List.map_map]
  refine List.map_congr_left fun x _ => ?_
  exact to_wd x.1 _
theorem lw_may (s : ByteArray) : ∀ x ∈ lw s, mayW Lib.validD x.wd = true := by
  intro x hx
  have : x.wd ∈ (lw s).map W4.wd := List.mem_map.2 ⟨x, hx, rfl⟩
  rw [lw_wd] at this
  obtain ⟨y, hy, e⟩ := List.mem_map.1 this
  rw [← e]
  exact lex_may Lib.validD _ _ (Nat.le_refl _) y hy
theorem le_sum : ∀ {l : List Nat} {n : Nat}, n ∈ l → n ≤ l.sum
  | a :: l, n, h => by
    rcases List.mem_cons.1 h with rfl | h
    · simp
    · have := le_sum h; simp; omega
theorem lw_fine (s : ByteArray) (hs : s.size ≤ 1048576) : ∀ x ∈ lw s, 0 ≤ x.n ∧ x.n < 18446744073709551616 ∧ x.t.size ≤ 1000000000 := by
  intro x hx
  unfold lw lexP lexQ at hx
  simp only [List.map_map, List.mem_map] at hx
  obtain ⟨y, hy, rfl⟩ := hx
  have h1 := may_num Lib.validD (lex_may Lib.validD _ _ (Nat.le_refl _) y hy)
  have h2 := lex_bulk Lib.validD _ (suf s 0) (Nat.le_refl _)
  have h3 : y.1.text.length ≤ bulkW (lexB Lib.validD (suf s 0)).1 := le_sum (List.mem_map.2 ⟨y, hy, rfl⟩)
  rw [suf_len] at h2
  simp only [Function.comp, toW4, bsOf_size]
  omega
theorem eqW_of {x y : W4} (h : x.wd = y.wd) (hm : mayW Lib.validD x.wd = true) (hx : 0 ≤ x.n) (hy : 0 ≤ y.n) : eqW x y = true := by
  have hk := may_kind Lib.validD hm
  obtain ⟨k, i, t, n⟩ := x
  obtain ⟨k', i', t', n'⟩ := y
  simp only [W4.wd, Wd.mk.injEq] at h hk hx hy
  obtain ⟨h1, h2, h3⟩ := h
  have e1 : k = k' := by omega
  have e2 : t = t' := by rw [← of_bs t, ← of_bs t', h2]
  have e3 : n = n' := by omega
  simp [eqW, e1, e2, e3]
theorem sameB_of : ∀ {xs ys : List W4}, xs.map W4.wd = ys.map W4.wd → (∀ x ∈ xs, mayW Lib.validD x.wd = true) → (∀ x ∈ xs, 0 ≤ x.n) → (∀ y ∈ ys, 0 ≤ y.n) → sameB xs ys = true := by
  intro xs ys h hm hx hy
  have hl : xs.length = ys.length := by have := congrArg List.length h; simpa using this
  unfold sameB
  rw [decide_eq_true hl, Bool.true_and, List.all_eq_true]
  intro p hp
  obtain ⟨j, hj⟩ := List.mem_iff_getElem?.1 hp
  rw [List.getElem?_zip_eq_some] at hj
  have h1 : (xs.map W4.wd)[j]? = some p.1.wd := by rw [List.getElem?_map, hj.1]; rfl
  have h2 : (ys.map W4.wd)[j]? = some p.2.wd := by rw [List.getElem?_map, hj.2]; rfl
  rw [h, h2] at h1
  have m1 := List.mem_of_getElem? hj.1
  have m2 := List.mem_of_getElem? hj.2
  exact eqW_of (Option.some.inj h1).symm (hm _ m1) (hx _ m1) (hy _ m2)
/-- What is told is read again. -/
theorem told_back (xs : List W4) (hm : ∀ x ∈ xs, mayW Lib.validD x.wd = true) (hl : (printW (xs.map W4.wd)).length ≤ 1048576) : lexO (bsOf (printW (xs.map W4.wd))) = none ∧ (lw (bsOf (printW (xs.map W4.wd)))).map W4.wd = xs.map W4.wd := by
  have h := lex_print Lib.validD (xs.map W4.wd) (fun d hd => by obtain ⟨x, hx, rfl⟩ := List.mem_map.1 hd; exact hm x hx)
  have e : suf (bsOf (printW (xs.map W4.wd))) 0 = printW (xs.map W4.wd) := bsOf_list _
  refine ⟨?_, ?_⟩
  · unfold lexO; rw [e]; exact h.2
  · rw [lw_wd, e]; exact h.1
theorem all_may {xs : List W4} (h : ∀ x ∈ xs, mayW Lib.validD x.wd = true) : (xs.all fun x => mayW Lib.validD x.wd) = true := List.all_eq_true.2 h
/-- A text's words, told: not long. -/
theorem lw_told (s : ByteArray) : (printW ((lw s).map W4.wd)).length ≤ 42 * s.size := by
  rw [lw_wd]
  have := lex_told Lib.validD (suf s 0)
  rwa [suf_len] at this
end Go.Proofs.YtbjcdpenfijfoaaGreatDoor

namespace Go.Proofs.YtbjcdpenfijfoaaGreatDoor
open Go.RowKit Go.Shelf Go.Lexed
set_option linter.unusedVariables false
set_option linter.unusedSimpArgs false
attribute [local go_sem] Oper.semAt_some
/-- What small answers, and how long the texts are together. -/
def SmallSum (xs : List W4) (w : World) (e : Ending) (w' : World) : Prop := ∃ b : Bool, e = .returned (.bool b) ∧ w' = w ∧ (b = true → xs.length ≤ 200 ∧ (xs.map fun x => x.t.size).sum ≤ 4000)
theorem sum_snoc (l : List Nat) (n : Nat) : (l ++ [n]).sum = l.sum + n := by simp
theorem min_sum : ∀ {l : List Nat}, (l.map fun n => min n 4001).sum ≤ 4000 → l.sum ≤ 4000 ∧ (l.map fun n => min n 4001).sum = l.sum
  | [], _ => by simp
  | a :: l, h => by
    simp only [List.map_cons, List.sum_cons] at h ⊢
    obtain ⟨h1, h2⟩ := min_sum (l := l) (by omega)
    omega
set_option maxRecDepth 100000 in
set_option maxHeartbeats 4000000 in
theorem small_sum (xs : List W4) (v : Value) (w : World) (hx : Lie4 w.heap.size w v xs) :
    Calls Tryz.prog 18 #[v] w fun e w' => SmallSum xs w e w' := by
  have HX := hidE hx
  obtain ⟨ad1, cp1, rfl, l1, m1, -⟩ := hx
  go_enter Tryz.func18, Tryz.ntmps18
  go_wp2_with fail
  go_loopw [3, 4] (fun s i wr => ∃ j n : Nat, j ≤ xs.length ∧ j ≤ 201 ∧ i = .int .i64 j ∧ s = .int .i64 n ∧ n ≤ 4001 * j ∧ wr = w ∧ n = (((xs.take j).map fun x => x.t.size).map fun n => min n 4001).sum) (fun _ i _ => xs.length - (intOf i).toNat)
  case atStart => exact ⟨0, 0, Nat.zero_le _, by omega, rfl, rfl, by omega, rfl, by simp⟩
  case round =>
    obtain ⟨j, n, hj, hj2, rfl, rfl, hn, rfl, hall⟩ := hrel
    have HA := hidE hall
    clear hall
    by_cases hlt : j < xs.length
    · have hlt' : (j : Int) < xs.length := by omega
      by_cases h200 : j ≤ 200
      · have h200' : (j : Int) ≤ 200 := by omega
        obtain ⟨x, hxj⟩ : ∃ x, xs[j]? = some x := ⟨_, List.getElem?_eq_getElem hlt⟩
        obtain ⟨bl1, off1, cap1, hv1, hbl1, _, c0, c1, c2, c3⟩ := HX.out.at hxj
        cases hv1
        have HXJ := hidE hxj
        clear hxj
        go_wp2_with fail
        go_roundw
        case rel =>
          refine ⟨j + 1, n + min x.t.size 4001, by omega, by omega, by go_num, by congr 1; omega, by omega, trivial, ?_⟩
          rw [List.take_add_one, HXJ.out, HA.out]
          simp only [Option.toList_some, List.map_append, List.map_cons, List.map_nil]
          rw [sum_snoc]
        case measure => simp [intOf]; omega
      · have h200' : ¬ (j : Int) ≤ 200 := by omega
        have hl200 : ¬ (xs.length : Int) ≤ 200 := by omega
        go_wp2_with fail
        go_ret
        exact ⟨false, rfl, rfl, fun h => by cases h⟩
    · have hlt' : ¬ (j : Int) < xs.length := by omega
      by_cases hl : xs.length ≤ 200
      · have hl' : (xs.length : Int) ≤ 200 := by omega
        by_cases h4 : n ≤ 4000
        · have h4' : (n : Int) ≤ 4000 := by omega
          have HF : Hid ((xs.map fun x => x.t.size).sum ≤ 4000) := by
            have := HA.out
            rw [List.take_of_length_le (by omega)] at this
            rw [this] at h4
            exact (min_sum h4).1
          go_wp2_with fail
          go_ret
          exact ⟨true, rfl, rfl, fun _ => ⟨hl, HF.out⟩⟩
        · have h4' : ¬ (n : Int) ≤ 4000 := by omega
          go_wp2_with fail
          go_ret
          exact ⟨false, rfl, rfl, fun h => by cases h⟩
      · have hl' : ¬ (xs.length : Int) ≤ 200 := by omega
        go_wp2_with fail
        go_ret
        exact ⟨false, rfl, rfl, fun h => by cases h⟩
/-- The four gaps. -/
def gapX : Nat → List UInt8
  | 0 => [32]
  | 1 => [10]
  | 2 => [32, 47, 42, 32, 39, 32, 47, 47, 32, 42, 42, 47]
  | _ => [9, 13, 32, 47, 47, 32, 97, 34, 91, 47, 42, 10]
theorem gapX_gap (g : Nat) : Gap (gapX g) := by
  match g with
  | 0 => exact gap_space
  | 1 => exact gap_line
  | 2 => exact gap_star
  | g + 3 => exact gap_note
theorem gapX_len (g : Nat) : (gapX g).length ≤ 12 := by
  match g with
  | 0 => decide
  | 1 => decide
  | 2 => decide
  | g + 3 => exact Nat.le_refl 12
theorem laid_end : ∀ (l : List (List UInt8 × Wd)) (z : List UInt8), laidW l z = laidW l [] ++ z
  | [], z => rfl
  | p :: r, z => by
    show p.1 ++ (tellW p.2 ++ laidW r z) = (p.1 ++ (tellW p.2 ++ laidW r [])) ++ z
    rw [laid_end r z]; simp
theorem laid_snoc : ∀ (l : List (List UInt8 × Wd)) (p : List UInt8 × Wd), laidW (l ++ [p]) [] = (laidW l [] ++ p.1) ++ tellW p.2
  | [], p => by simp [laidW]
  | q :: r, p => by
    show q.1 ++ (tellW q.2 ++ laidW (r ++ [p]) []) = _
    rw [laid_snoc r p]
    simp [laidW]
/-- Where words begin. -/
def atsW : Nat → List (List UInt8 × Wd) → List Nat
  | _, [] => []
  | n, p :: r => (n + p.1.length) :: atsW (n + p.1.length + (tellW p.2).length) r
theorem ats_len : ∀ (l : List (List UInt8 × Wd)) (n : Nat), (atsW n l).length = l.length
  | [], n => rfl
  | p :: r, n => by simp [atsW, ats_len r]
theorem ats_snoc : ∀ (l : List (List UInt8 × Wd)) (n : Nat) (p : List UInt8 × Wd), atsW n (l ++ [p]) = atsW n l ++ [n + (laidW l []).length + p.1.length]
  | [], n, p => by simp [atsW, laidW]
  | q :: r, n, p => by
    show (n + q.1.length) :: atsW _ (r ++ [p]) = _
    rw [ats_snoc r]
    simp [atsW, laidW]
    omega
theorem marks_ats : ∀ (l : List (List UInt8 × Wd)) (z : List UInt8) (n : Nat), (marksW l z).map (fun x => n + (laidW l z).length - x.2) = atsW n l
  | [], z, n => rfl
  | p :: r, z, n => by
    have ih := marks_ats r z (n + p.1.length + (tellW p.2).length)
    simp only [marksW, List.map_cons, atsW, laidW, List.length_append]
    congr 1
    · omega
    · rw [← ih]
      refine List.map_congr_left fun x _ => ?_
      omega
theorem laid_bulk : ∀ (l : List (List UInt8 × Wd)), (∀ p ∈ l, p.1.length ≤ 12) → (∀ p ∈ l, mayW Lib.validD p.2 = true) → (laidW l []).length ≤ 6 * ((l.map (·.2)).map fun d => d.text.length).sum + 32 * l.length
  | [], _, _ => by simp [laidW]
  | p :: r, h, hm => by
    have h1 := tell_len Lib.validD p.2 (hm p (by simp))
    have h2 := h p (by simp)
    have h3 := laid_bulk r (fun q hq => h q (by simp [hq])) (fun q hq => hm q (by simp [hq]))
    simp only [laidW, List.length_append, List.map_cons, List.sum_cons, List.length_cons] at h3 ⊢
    omega
/-- What is read of a text that is laid. -/
theorem laid_read (l : List (List UInt8 × Wd)) (hg : ∀ p ∈ l, Gap p.1) (hm : ∀ p ∈ l, mayW Lib.validD p.2 = true) :
    (lexO (bsOf (laidW l [] ++ [10, 32, 47, 47])) = none ∧ (lw (bsOf (laidW l [] ++ [10, 32, 47, 47]))).map W4.wd = l.map (·.2) ∧ (lw (bsOf (laidW l [] ++ [10, 32, 47, 47]))).map W4.i = (atsW 0 l).map fun n : Nat => (n : Int)) ∧
    lexO (bsOf (laidW l [] ++ [32, 35])) = some 1 ∧ lexO (bsOf (laidW l [] ++ [32, 47, 42, 32, 42])) = some 4 := by
  have st : ∀ c r, isB c = true → Stop (c :: r) := fun c r hc d hd => by
    rw [List.head?_cons, Option.mem_some_iff] at hd; subst hd; exact hc
  have e1 := lex_laid Lib.validD l [10, 32, 47, 47] hg hm (st _ _ (by decide))
  have e2 := lex_laid Lib.validD l [32, 35] hg hm (st _ _ (by decide))
  have e3 := lex_laid Lib.validD l [32, 47, 42, 32, 42] hg hm (st _ _ (by decide))
  rw [end_note] at e1
  rw [end_bad] at e2
  rw [end_open] at e3
  have s1 : suf (bsOf (laidW l [] ++ [10, 32, 47, 47])) 0 = laidW l [10, 32, 47, 47] := by rw [laid_end l [10, 32, 47, 47]]; exact bsOf_list _
  have s2 : suf (bsOf (laidW l [] ++ [32, 35])) 0 = laidW l [32, 35] := by rw [laid_end l [32, 35]]; exact bsOf_list _
  have s3 : suf (bsOf (laidW l [] ++ [32, 47, 42, 32, 42])) 0 = laidW l [32, 47, 42, 32, 42] := by rw [laid_end l [32, 47, 42, 32, 42]]; exact bsOf_list _
  refine ⟨⟨?_, ?_, ?_⟩, ?_, ?_⟩
  · unfold lexO; rw [s1, e1]
  · rw [lw_wd, s1, e1]
    simp only [List.append_nil]
    exact marks_fst l _
  · unfold lw lexP lexQ
    rw [s1, e1, bsOf_size, ← laid_end]
    simp only [List.append_nil, List.map_map]
    have := marks_ats l [10, 32, 47, 47] 0
    rw [← this]
    simp only [List.map_map]
    refine List.map_congr_left fun x _ => ?_
    simp [toW4]
  · unfold lexO; rw [s2, e2]
  · unfold lexO; rw [s3, e3]
end Go.Proofs.YtbjcdpenfijfoaaGreatDoor

