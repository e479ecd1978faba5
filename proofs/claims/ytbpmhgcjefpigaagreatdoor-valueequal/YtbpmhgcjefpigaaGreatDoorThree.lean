/- Small values are modest; three values in a row. -/
import Derived.Test.YtbpmhgcjefpigaaGreatDoorSmalls
import Derived.Test.YtbpmhgcjefpigaaGreatDoorWalked
import Derived.Test.YtbpmhgcjefpigaaGreatDoorTotal3
import Derived.Test.YtbpmhgcjefpigaaGreatDoorTotal
namespace Go.Proofs.YtbpmhgcjefpigaaGreatDoor
open Go.RowKit Go.Shelf
set_option linter.unusedVariables false

theorem keyBytes_pos : ∀ ks : List ByteArray, 0 ≤ keyBytes ks
  | [] => by simp [keyBytes]
  | k :: ks => by
    have := keyBytes_pos ks
    simp only [keyBytes, List.map_cons, List.sum_cons] at this ⊢
    omega
theorem bytesOf_app (a b : List (Int × Tree)) : bytesOf (a ++ b) = bytesOf a + bytesOf b := by
  unfold bytesOf; rw [List.map_append, List.sum_append]
mutual
theorem total_bounds : ∀ (T : Tree) (d : Int), (T.height : Int) ≤ T.total ∧ bytesOf (T.pre d) ≤ T.total ∧ 1 ≤ T.total
  | .mk k b n s ks ts, d => by
    obtain ⟨h1, h2, h3⟩ := totalL_bounds ts (d + 1)
    have h4 := keyBytes_pos ks
    have e : bytesOf ((d, Tree.mk k b n s ks ts) :: Tree.preL (d + 1) ts) = ((s.size : Int) + keyBytes ks) + bytesOf (Tree.preL (d + 1) ts) := by
      simp [bytesOf, Tree.bytes, Tree.text, Tree.keys]
    rw [Tree.height, Tree.total, Tree.pre, e]
    refine ⟨?_, ?_, ?_⟩ <;> omega
theorem totalL_bounds : ∀ (ts : List Tree) (d : Int), (Tree.heightL ts : Int) ≤ Tree.totalL ts ∧ bytesOf (Tree.preL d ts) ≤ Tree.totalL ts ∧ 0 ≤ Tree.totalL ts
  | [], d => by simp [Tree.heightL, Tree.totalL, Tree.preL, bytesOf]
  | t :: ts, d => by
    obtain ⟨h1, h2, h3⟩ := total_bounds t d
    obtain ⟨g1, g2, g3⟩ := totalL_bounds ts d
    rw [Tree.heightL, Tree.totalL, Tree.preL, bytesOf_app]
    refine ⟨?_, ?_, ?_⟩ <;> omega
end
theorem modest_total {T : Tree} (h : T.total ≤ 2000) : Modest T := by
  obtain ⟨h1, h2, _⟩ := total_bounds T 1
  exact ⟨by omega, by omega⟩
theorem small_total {ts : List Tree} (h : smalls ts ≤ 2000) : ∀ t ∈ ts, t.total ≤ 2000 := fun t ht => by
  have hp : ∀ u ∈ ts, 0 ≤ smallN u 2000 := fun u _ => by have := smallN_pos u 2000; omega
  have : smallN t 2000 ≤ 2000 := by
    obtain ⟨i, hi⟩ := List.mem_iff_getElem?.1 ht
    have h1 := smalls_take hi
    have h2 := smalls_take_le (i + 1) hp
    have h3 := smalls_pos (ts := ts.take i) fun u hu => hp u (List.mem_of_mem_take hu)
    omega
  have e := smallN_eq t 2000 this
  omega
theorem three_kids {W : World} {bl B : Nat} {a0 a1 a2 a3 a4 a5 b0 b1 b2 b3 b4 b5 c0 c1 c2 c3 c4 c5 : Value} {S T U : Tree}
    (hc : W.heap[bl]? = some (.cells #[a0, a1, a2, a3, a4, a5, b0, b1, b2, b3, b4, b5, c0, c1, c2, c3, c4, c5] 26 (0, 0)))
    (h1 : Lies B W (.agg #[a0, a1, a2, a3, a4, a5]) S) (h2 : Lies B W (.agg #[b0, b1, b2, b3, b4, b5]) T) (h3 : Lies B W (.agg #[c0, c1, c2, c3, c4, c5]) U) : KidsLie B W bl 0 [S, T, U] := by
  have hcell : ∀ i v, (#[a0, a1, a2, a3, a4, a5, b0, b1, b2, b3, b4, b5, c0, c1, c2, c3, c4, c5] : Array Value)[i]? = some v → W.cell? ⟨bl, i, none⟩ = some v := by
    intro i v hi; unfold World.cell?; simp only [hc]; simpa using hi
  simp only [KidsLie]
  refine ⟨⟨_, _, _, _, _, _, ⟨hcell 0 _ rfl, hcell 1 _ rfl, hcell 2 _ rfl, hcell 3 _ rfl, hcell 4 _ rfl, hcell 5 _ rfl⟩, h1⟩, ⟨_, _, _, _, _, _, ⟨hcell 6 _ rfl, hcell 7 _ rfl, hcell 8 _ rfl, hcell 9 _ rfl, hcell 10 _ rfl, hcell 11 _ rfl⟩, h2⟩, ⟨_, _, _, _, _, _, ⟨hcell 12 _ rfl, hcell 13 _ rfl, hcell 14 _ rfl, hcell 15 _ rfl, hcell 16 _ rfl, hcell 17 _ rfl⟩, h3⟩, trivial⟩
end Go.Proofs.YtbpmhgcjefpigaaGreatDoor
