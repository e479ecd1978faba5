/- Small values are modest; the shape of a value; two values in a row. Rows of a call's own that hold values. Once, at any list of values that may be. The document's own: values in order. -/
import Derived.Test.YtbpmhgcjefpigaaGreatDoorJoin17
import Derived.Test.YtbpmhgcjefpigaaGreatDoorWalked
import Derived.Test.YtbpmhgcjefpigaaGreatDoorJoin8
import Derived.Test.YtbpmhgcjefpigaaGreatDoorJoin16
import Derived.Test.YtbpmhgcjefpigaaGreatDoorJoin10
import Derived.Test.YtbpmhgcjefpigaaGreatDoorJoin14
import Derived.Test.YtbpmhgcjefpigaaGreatDoorJoin15
namespace Go.Proofs.YtbpmhgcjefpigaaGreatDoor
open Go.RowKit Go.Shelf
set_option linter.unusedVariables false
theorem keyBytes_pos : ∀ ks : List ByteArray, 0 ≤ keyBytes ks
  | [] => by simp [keyBytes]
  | k :: ks => by
    have := keyBytes_pos ks
    simp only [keyBytes, List.map_cons, List.sum_cons] at this ⊢
    omega
theorem small_total {ts : List Tree} (h : smalls ts ≤ 2000) : ∀ t ∈ ts, t.total ≤ 2000 := fun t ht => by
  have hp : ∀ u ∈ ts, 0 ≤ smallN u 2000 := fun u _ => by have := smallN_pos u 2000; omega
  have : smallN t 2000 ≤ 2000 := by
    obtain ⟨i, hi⟩ := List.mem_iff_getElem?.1 ht
    have h1 := smalls_take hi
    have h2 := smalls_take_le (i + 1) hp
    have h3 := smalls_pos (ts := ts.take i) fun u hu => hp u (List.mem_of_mem_take hu)
    omega
  have e := smallN_eq t 2000 this
  omega
theorem lies_form {B : Nat} {w : World} {v : Value} {T : Tree} (h : Lies B w v T) : ∃ (k : Int) (x : Bool) (n : Int) (s : ByteArray) (ka : Option Addr) (kn kc : Nat) (la : Option Addr) (ln lc : Nat), v = .agg #[.int .i64 k, .bool x, .int .i64 n, .string s, .slice ka kn kc, .slice la ln lc] := by
  obtain ⟨k, x, n, s, ks, ts⟩ := T
  simp only [Lies] at h
  obtain ⟨ka, kc, la, lc, rfl, -⟩ := h
  exact ⟨_, _, _, _, _, _, _, _, _, _, rfl⟩
end Go.Proofs.YtbpmhgcjefpigaaGreatDoor

namespace Go.Proofs.YtbpmhgcjefpigaaGreatDoor
open Go.RowKit Go.Shelf Go.Lib
set_option linter.unusedVariables false
/-- Values that lie below D, in a row of cells in a block from base on. -/
def RefRow (D base : Nat) (w : World) (la : Option Addr) (us : List Tree) : Prop := ∃ xs, RowL D w xs us ∧ (us = [] ∨ ∃ g, la = some ⟨g, 0, none⟩ ∧ base ≤ g ∧ g < w.heap.size ∧ ∀ j u, xs[j]? = some u → w.cell? ⟨g, j, none⟩ = some u)
theorem RefRow.at {D base : Nat} {w w' : World} {la : Option Addr} {us : List Tree} (h : RefRow D base w la us) (hne : us ≠ []) (hb : Below D w w') (hk : ∀ b, base ≤ b → b < w.heap.size → w'.heap[b]? = w.heap[b]?) : ∃ g, la = some ⟨g, 0, none⟩ ∧ g < w.heap.size ∧ KidsLie D w' g 0 us := by
  obtain ⟨xs, hr, h⟩ := h
  obtain ⟨g, rfl, h1, h2, h3⟩ := h.resolve_left hne
  have hr2 := hr.stay hb
  refine ⟨g, rfl, h2, hr2.kids (fun j u hu => ?_) hr2⟩
  rw [Nat.zero_add, World.cell?_of_block (a := ⟨g, j, none⟩) (hk g h1 h2)]
  exact h3 j u hu
end Go.Proofs.YtbpmhgcjefpigaaGreatDoor

namespace Go.Proofs.YtbpmhgcjefpigaaGreatDoor
open Go.RowKit Go.Shelf Go.WideShapes Go.Lib
set_option linter.unusedVariables false
set_option linter.unusedSimpArgs false
theorem own_keep' {base e size n : Nat} {xs : List Value} {v : Value} {w w1 : World} (hown : w.ownsRow base e size v n xs) (hk : ∀ q, base ≤ q → q < w.heap.size → w1.heap[q]? = w.heap[q]?) : w1.ownsRow base e size v n xs := by
  obtain ⟨g1, ⟨g2, g3⟩ | ⟨g, cap, cur, g2, g3, g4, g5⟩⟩ := hown
  · exact ⟨g1, .inl ⟨g2, g3⟩⟩
  · exact ⟨g1, .inr ⟨g, cap, cur, g2, g3, (hk g g3 (Array.getElem?_eq_some_iff.1 g4).1).trans g4, g5⟩⟩
theorem own_keep {base e size n : Nat} {xs : List Value} {v : Value} {w w1 : World} (hown : w.ownsRow base e size v n xs) (hb : Below w.heap.size w w1) : w1.ownsRow base e size v n xs := own_keep' hown fun q _ hq => hb.block q hq
end Go.Proofs.YtbpmhgcjefpigaaGreatDoor

namespace Go.Proofs.YtbpmhgcjefpigaaGreatDoor
open Go.RowKit Go.Shelf Go.WideShapes Go.Lib
set_option linter.unusedVariables false
set_option linter.unusedSimpArgs false
theorem RowL.takeL {B : Nat} {w : World} : ∀ {xs : List Value} {ts : List Tree} (h : RowL B w xs ts) (q : Nat), RowL B w (xs.take (q * 6)) (ts.take q)
  | _, _, .nil, q => by simp; exact .nil
  | _, _, .cons h k, 0 => by simp; exact .nil
  | _, _, .cons h k, q + 1 => by
    rw [show (q + 1) * 6 = q * 6 + 1 + 1 + 1 + 1 + 1 + 1 by omega]
    simp only [List.take_succ_cons]
    exact .cons h (RowL.takeL k q)
theorem RowL.dropL {B : Nat} {w : World} : ∀ {xs : List Value} {ts : List Tree} (h : RowL B w xs ts) (q : Nat), RowL B w (xs.drop (q * 6)) (ts.drop q)
  | _, _, .nil, q => by simp; exact .nil
  | _, _, .cons h k, 0 => by simp; exact .cons h k
  | _, _, .cons h k, q + 1 => by
    rw [show (q + 1) * 6 = q * 6 + 1 + 1 + 1 + 1 + 1 + 1 by omega]
    simp only [List.drop_succ_cons]
    exact RowL.dropL k q
end Go.Proofs.YtbpmhgcjefpigaaGreatDoor

