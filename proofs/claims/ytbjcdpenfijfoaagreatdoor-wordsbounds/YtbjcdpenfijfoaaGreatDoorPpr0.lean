/- Print: what is said of words and their telling. -/
import Derived.Test.YtbjcdpenfijfoaaGreatDoorPmay
import Derived.Test.YtbjcdpenfijfoaaGreatDoorLex2
namespace Go.Proofs.YtbjcdpenfijfoaaGreatDoor
open Go.RowKit Go.Shelf Go.Lexed
open Go.Lib (byteCells byteCells_length)
set_option linter.unusedVariables false
set_option linter.unusedSimpArgs false
theorem cells4_at : ∀ {xs : List W4} {j : Nat} {x : W4}, xs[j]? = some x → (cells4 xs)[j * 4]? = some (.int .i64 x.k) ∧ (cells4 xs)[j * 4 + 1]? = some (.int .i64 x.i) ∧ (cells4 xs)[j * 4 + 2]? = some (.string x.t) ∧ (cells4 xs)[j * 4 + 3]? = some (.int .u64 x.n)
  | [], j, x, h => by simp at h
  | y :: ys, 0, x, h => by
    simp only [List.getElem?_cons_zero, Option.some.injEq] at h
    subst h
    exact ⟨rfl, rfl, rfl, rfl⟩
  | y :: ys, j + 1, x, h => by
    rw [List.getElem?_cons_succ] at h
    obtain ⟨h0, h1, h2, h3⟩ := cells4_at h
    have e : ∀ i, (cells4 (y :: ys))[(j + 1) * 4 + i]? = (cells4 ys)[j * 4 + i]? := fun i => by
      show (y.cells ++ cells4 ys)[(j + 1) * 4 + i]? = _
      rw [List.getElem?_append_right (by simp [W4.cells]; omega)]
      congr 1
      simp [W4.cells]; omega
    exact ⟨(e 0).trans h0, (e 1).trans h1, (e 2).trans h2, (e 3).trans h3⟩
/-- A word's cells. -/
theorem Lie4.at {B : Nat} {w : World} {v : Value} {xs : List W4} (h : Lie4 B w v xs) {j : Nat} {x : W4} (hx : xs[j]? = some x) :
    ∃ bl off cap, v = .slice (some ⟨bl, off, none⟩) xs.length cap ∧ bl < B ∧ xs.length ≤ cap ∧ w.cell? ⟨bl, off + j * 4, none⟩ = some (.int .i64 x.k) ∧ w.cell? ⟨bl, off + j * 4 + 1, none⟩ = some (.int .i64 x.i) ∧ w.cell? ⟨bl, off + j * 4 + 2, none⟩ = some (.string x.t) ∧ w.cell? ⟨bl, off + j * 4 + 3, none⟩ = some (.int .u64 x.n) := by
  obtain ⟨ad, cap, h1, h2, h3, h4⟩ := h
  have hne : xs ≠ [] := by intro e; rw [e] at hx; simp at hx
  obtain ⟨bl, off, rfl, hl, hc⟩ := h4.resolve_left hne
  obtain ⟨g0, g1, g2, g3⟩ := cells4_at hx
  exact ⟨bl, off, cap, h1, hl, h2, hc _ _ g0, hc _ _ g1, hc _ _ g2, hc _ _ g3⟩
theorem print_app (a b : List Wd) : printW (a ++ b) = if a = [] then printW b else printW a ++ tailW b := by
  cases a with
  | nil => rfl
  | cons x a => simp [printW, tailW]
theorem print_snoc (l : List Wd) (d : Wd) : printW (l ++ [d]) = (printW l ++ (if l = [] then [] else [32])) ++ tellW d := by
  rw [print_app]
  cases l with
  | nil => simp [printW, tailW]
  | cons x a => simp [printW, tailW]
theorem print_take (l : List Wd) (q : Nat) : (printW (l.take q)).length ≤ (printW l).length := by
  have h := print_app (l.take q) (l.drop q)
  rw [List.take_append_drop] at h
  rw [h]
  split
  · rename_i e; rw [e]; simp [printW]
  · simp
theorem flat_ge {f : UInt8 → List UInt8} (h : ∀ c, 1 ≤ (f c).length) : ∀ (l : List UInt8), l.length ≤ ((l.map f).flatten).length
  | [] => by simp
  | c :: l => by
    have h1 := h c
    have h2 := flat_ge h l
    simp only [List.map_cons, List.flatten_cons, List.length_append, List.length_cons]
    omega
theorem esc_pos (c : UInt8) : 1 ≤ (escC c).length := by
  unfold escC
  repeat' split
  all_goals simp
theorem tell_ge (U : List UInt8 → Bool) (w : Wd) (h : mayW U w = true) : w.text.length ≤ (tellW w).length := by
  unfold tellW
  split
  · have := flat_ge (f := dblC) (by intro c; unfold dblC; split <;> simp) w.text; simp only [List.length_cons, List.length_append, List.length_nil]; omega
  · split
    · have := flat_ge (f := escC) esc_pos w.text; simp only [List.length_cons, List.length_append, List.length_nil]; omega
    · split
      · rename_i h4
        unfold mayW at h
        rw [h4] at h
        simp at h
        rw [h.1]; simp
      · omega
theorem tell_pos (U : List UInt8 → Bool) (w : Wd) (h : mayW U w = true) : 0 < (tellW w).length := by
  obtain ⟨c, t, e, _⟩ := tell_head U w h
  rw [e]; simp
/-- What Print answers. -/
def printV (xs : List W4) : Value :=
  if (xs.all fun x => mayW Lib.validD x.wd) = true then if 1048576 < (printW (xs.map W4.wd)).length then .tuple #[.string ⟨#[]⟩, .int .i64 3] else .tuple #[.string (bsOf (printW (xs.map W4.wd))), .int .i64 0] else .tuple #[.string ⟨#[]⟩, .int .i64 2]
theorem printV_may {xs : List W4} {x : W4} (hx : x ∈ xs) (h : mayW Lib.validD x.wd = false) : printV xs = .tuple #[.string ⟨#[]⟩, .int .i64 2] := by
  unfold printV
  rw [if_neg]
  intro e
  rw [List.all_eq_true] at e
  rw [e x hx] at h
  exact absurd h (by decide)
theorem printV_long {xs : List W4} (hm : (xs.all fun x => mayW Lib.validD x.wd) = true) {j : Nat} (h : 1048576 < (printW ((xs.take j).map W4.wd)).length) : printV xs = .tuple #[.string ⟨#[]⟩, .int .i64 3] := by
  unfold printV
  rw [if_pos hm, if_pos]
  have := print_take (xs.map W4.wd) j
  rw [← List.map_take] at this
  omega
theorem printV_ok {xs : List W4} (hm : (xs.all fun x => mayW Lib.validD x.wd) = true) (h : (printW (xs.map W4.wd)).length ≤ 1048576) : printV xs = .tuple #[.string (bsOf (printW (xs.map W4.wd))), .int .i64 0] := by
  unfold printV
  rw [if_pos hm, if_neg (by omega)]
theorem told_word {base n p : Nat} {xs : List Value} {v v' : Value} {w W w' : World} {bs : List UInt8} {k i nn : Int} {t : ByteArray} (hown : w.ownsRow base 5 1 v n xs) (hp : w.heap.size ≤ p) (hW : Wo W p k i nn t) (ht : Told base n xs v W bs v' w') : Wo w' p k i nn t := by
  refine hW.keep (ht.grown.block p hW.lt fun e => ?_)
  have := (hown.lt p e.symm).2
  omega
end Go.Proofs.YtbjcdpenfijfoaaGreatDoor
