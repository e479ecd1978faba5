/- Two values in a row; what less and equal say of two values together. -/
import Derived.Test.YtbpmhgcjefpigaaGreatDoorTotalW
import Derived.Test.YtbpmhgcjefpigaaGreatDoorNothing
namespace Go.Proofs.YtbpmhgcjefpigaaGreatDoor
open Go.RowKit Go.Shelf Go.Lib
set_option linter.unusedVariables false

theorem kids_two {W : World} {bl B : Nat} {a0 a1 a2 a3 a4 a5 b0 b1 b2 b3 b4 b5 : Value} {S T : Tree}
    (hc : W.heap[bl]? = some (.cells #[a0, a1, a2, a3, a4, a5, b0, b1, b2, b3, b4, b5] 26 (0, 0)))
    (h1 : Lies B W (.agg #[a0, a1, a2, a3, a4, a5]) S) (h2 : Lies B W (.agg #[b0, b1, b2, b3, b4, b5]) T) : KidsLie B W bl 0 [S, T] := by
  have hcell : ∀ i v, (#[a0, a1, a2, a3, a4, a5, b0, b1, b2, b3, b4, b5] : Array Value)[i]? = some v → W.cell? ⟨bl, i, none⟩ = some v := by
    intro i v hi; unfold World.cell?; simp only [hc]; simpa using hi
  simp only [KidsLie]
  refine ⟨⟨_, _, _, _, _, _, ⟨hcell 0 _ rfl, hcell 1 _ rfl, hcell 2 _ rfl, hcell 3 _ rfl, hcell 4 _ rfl, hcell 5 _ rfl⟩, h1⟩, ⟨_, _, _, _, _, _, ⟨hcell 6 _ rfl, hcell 7 _ rfl, hcell 8 _ rfl, hcell 9 _ rfl, hcell 10 _ rfl, hcell 11 _ rfl⟩, h2⟩, trivial⟩
theorem lies_kind {B : Nat} {w : World} {k : Int} {v1 v2 v3 v4 v5 : Value} {T : Tree} (h : Lies B w (.agg #[.int .i64 k, v1, v2, v3, v4, v5]) T) : T.kind = k := by
  obtain ⟨k', x, n, s, ks, ts⟩ := T
  simp only [Lies] at h
  obtain ⟨ka, kc, la, lc, e, -⟩ := h
  injection e with e
  injection e with e
  injection e with e1 e2
  injection e1 with _ e3
  exact e3.symm
theorem less_laws {A B : Tree} (ha : checkN A = 0) (hb : checkN B = 0) :
    ((A.kind = B.kind ∧ plainB A.kind = true) ∧ ((lessN A B = 2 ∧ lessN B A = 0 ∧ equalN A B = 0) ∨ (lessN A B = 0 ∧ lessN B A = 0 ∧ equalN A B = 2) ∨ (lessN A B = 0 ∧ lessN B A = 2 ∧ equalN A B = 0))) ∨
    (¬ (A.kind = B.kind ∧ plainB A.kind = true) ∧ lessN A B = 1 ∧ lessN B A = 1) := by
  by_cases h : A.kind = B.kind ∧ plainB A.kind = true
  · refine .inl ⟨h, ?_⟩
    have h' : B.kind = A.kind ∧ plainB B.kind = true := ⟨h.1.symm, h.1 ▸ h.2⟩
    have ho := ordT_turn A B (known_check ha) (known_check hb)
    have h3 := ordT_three A B
    unfold lessN equalN
    rw [if_pos ⟨h.1, h.2, ha, hb⟩, if_pos ⟨h'.1, h'.2, hb, ha⟩, if_pos ⟨ha, hb⟩, ho]
    have he : eqT A B = truthI (ordT A B == 0) := by
      obtain ⟨k, x, n, s, ks, ts⟩ := A
      obtain ⟨k', x', n', s', ks', ts'⟩ := B
      obtain ⟨h1, h2⟩ := h
      simp only [Tree.kind] at h1 h2
      have hk : k = 1 ∨ k = 2 ∨ k = 3 := by simpa [plainB, or_assoc] using h2
      rw [eqT, if_neg (by omega), if_neg (by omega), if_pos (by omega)]
    rw [he]
    generalize ordT A B = o at h3
    rcases h3 with rfl | rfl | rfl
    · exact .inl ⟨rfl, rfl, rfl⟩
    · exact .inr (.inl ⟨rfl, rfl, rfl⟩)
    · exact .inr (.inr ⟨rfl, rfl, rfl⟩)
  · refine .inr ⟨h, ?_, ?_⟩
    · unfold lessN; rw [if_neg]; rintro ⟨g1, g2, -⟩; exact h ⟨g1, g2⟩
    · unfold lessN; rw [if_neg]; rintro ⟨g1, g2, -⟩; exact h ⟨g1.symm, g1 ▸ g2⟩
theorem plain_three {k : Int} (h : plainB k = true) : k = 1 ∨ k = 2 ∨ k = 3 := by simpa [plainB, or_assoc] using h
end Go.Proofs.YtbpmhgcjefpigaaGreatDoor
