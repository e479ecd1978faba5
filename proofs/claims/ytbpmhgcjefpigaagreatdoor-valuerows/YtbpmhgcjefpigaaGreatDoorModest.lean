/- Small values are modest; the shape of a value; two values in a row. -/
import Derived.Test.YtbpmhgcjefpigaaGreatDoorJoin4
import Derived.Test.YtbpmhgcjefpigaaGreatDoorWalked
import Derived.Test.YtbpmhgcjefpigaaGreatDoorTotal
namespace Go.Proofs.YtbpmhgcjefpigaaGreatDoor
open Go.RowKit Go.Shelf
set_option linter.unusedVariables false

theorem keyBytes_pos : ∀ ks : List ByteArray, 0 ≤ keyBytes ks
  | [] => by simp [keyBytes]
  | k :: ks => by
    have := keyBytes_pos ks
    simp only [keyBytes, List.map_cons, List.sum_cons] at this ⊢
    omega
theorem bytesOf_app (a b : List (Int × Tree)) : bytesOf (a ++ b) = bytesOf a + bytesOf b := by
  unfold bytesOf; rw [List.map_append, List.sum_append]
mutual
theorem total_bounds : ∀ (T : Tree) (d : Int), (T.height : Int) ≤ T.total ∧ bytesOf (T.pre d) ≤ T.total ∧ 1 ≤ T.total
  | .mk k b n s ks ts, d => by
    obtain ⟨h1, h2, h3⟩ := totalL_bounds ts (d + 1)
    have h4 := keyBytes_pos ks
    have e : bytesOf ((d, Tree.mk k b n s ks ts) :: Tree.preL (d + 1) ts) = ((s.size : Int) + keyBytes ks) + bytesOf (Tree.preL (d + 1) ts) := by
      simp [bytesOf, Tree.bytes, Tree.text, Tree.keys]
    rw [Tree.height, Tree.total, Tree.pre, e]
    refine ⟨?_, ?_, ?_⟩ <;> omega
theorem totalL_bounds : ∀ (ts : List Tree) (d : Int), (Tree.heightL ts : Int) ≤ Tree.totalL ts ∧ bytesOf (Tree.preL d ts) ≤ Tree.totalL ts ∧ 0 ≤ Tree.totalL ts
  | [], d => by simp [Tree.heightL, Tree.totalL, Tree.preL, bytesOf]
  | t :: ts, d => by
    obtain ⟨h1, h2, h3⟩ := total_bounds t d
    obtain ⟨g1, g2, g3⟩ := totalL_bounds ts d
    rw [Tree.heightL, Tree.totalL, Tree.preL, bytesOf_app]
    refine ⟨?_, ?_, ?_⟩ <;> omega
end
theorem modest_total {T : Tree} (h : T.total ≤ 2000) : Modest T := by
  obtain ⟨h1, h2, _⟩ := total_bounds T 1
  exact ⟨by omega, by omega⟩
theorem small_total {ts : List Tree} (h : smalls ts ≤ 2000) : ∀ t ∈ ts, t.total ≤ 2000 := fun t ht => by
  have hp : ∀ u ∈ ts, 0 ≤ smallN u 2000 := fun u _ => by have := smallN_pos u 2000; omega
  have : smallN t 2000 ≤ 2000 := by
    obtain ⟨i, hi⟩ := List.mem_iff_getElem?.1 ht
    have h1 := smalls_take hi
    have h2 := smalls_take_le (i + 1) hp
    have h3 := smalls_pos (ts := ts.take i) fun u hu => hp u (List.mem_of_mem_take hu)
    omega
  have e := smallN_eq t 2000 this
  omega
theorem lies_form {B : Nat} {w : World} {v : Value} {T : Tree} (h : Lies B w v T) : ∃ (k : Int) (x : Bool) (n : Int) (s : ByteArray) (ka : Option Addr) (kn kc : Nat) (la : Option Addr) (ln lc : Nat), v = .agg #[.int .i64 k, .bool x, .int .i64 n, .string s, .slice ka kn kc, .slice la ln lc] := by
  obtain ⟨k, x, n, s, ks, ts⟩ := T
  simp only [Lies] at h
  obtain ⟨ka, kc, la, lc, rfl, -⟩ := h
  exact ⟨_, _, _, _, _, _, _, _, _, _, rfl⟩
theorem six_cells {w : World} {q : Nat} {x0 x1 x2 x3 x4 x5 : Value} {fz : Nat × Nat} (h : w.heap[q]? = some (.cells #[x0, x1, x2, x3, x4, x5] 26 fz)) :
    w.cell? ⟨q, 0, none⟩ = some x0 ∧ w.cell? ⟨q, 1, none⟩ = some x1 ∧ w.cell? ⟨q, 2, none⟩ = some x2 ∧ w.cell? ⟨q, 3, none⟩ = some x3 ∧ w.cell? ⟨q, 4, none⟩ = some x4 ∧ w.cell? ⟨q, 5, none⟩ = some x5 :=
  ⟨box_cell h rfl, box_cell h rfl, box_cell h rfl, box_cell h rfl, box_cell h rfl, box_cell h rfl⟩
theorem kids_two {W : World} {bl B : Nat} {a0 a1 a2 a3 a4 a5 b0 b1 b2 b3 b4 b5 : Value} {S T : Tree}
    (hc : W.heap[bl]? = some (.cells #[a0, a1, a2, a3, a4, a5, b0, b1, b2, b3, b4, b5] 26 (0, 0)))
    (h1 : Lies B W (.agg #[a0, a1, a2, a3, a4, a5]) S) (h2 : Lies B W (.agg #[b0, b1, b2, b3, b4, b5]) T) : KidsLie B W bl 0 [S, T] := by
  have hcell : ∀ i v, (#[a0, a1, a2, a3, a4, a5, b0, b1, b2, b3, b4, b5] : Array Value)[i]? = some v → W.cell? ⟨bl, i, none⟩ = some v := by
    intro i v hi; unfold World.cell?; simp only [hc]; simpa using hi
  simp only [KidsLie]
  refine ⟨⟨_, _, _, _, _, _, ⟨hcell 0 _ rfl, hcell 1 _ rfl, hcell 2 _ rfl, hcell 3 _ rfl, hcell 4 _ rfl, hcell 5 _ rfl⟩, h1⟩, ⟨_, _, _, _, _, _, ⟨hcell 6 _ rfl, hcell 7 _ rfl, hcell 8 _ rfl, hcell 9 _ rfl, hcell 10 _ rfl, hcell 11 _ rfl⟩, h2⟩, trivial⟩
theorem lies_kind {B : Nat} {w : World} {k : Int} {v1 v2 v3 v4 v5 : Value} {T : Tree} (h : Lies B w (.agg #[.int .i64 k, v1, v2, v3, v4, v5]) T) : T.kind = k := by
  obtain ⟨k', x, n, s, ks, ts⟩ := T
  simp only [Lies] at h
  obtain ⟨ka, kc, la, lc, e, -⟩ := h
  injection e with e
  injection e with e
  injection e with e1 e2
  injection e1 with _ e3
  exact e3.symm
end Go.Proofs.YtbpmhgcjefpigaaGreatDoor
