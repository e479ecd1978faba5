/- A row of bytes that grows inside one statement, whatever order the statement's operations are drawn in. -/
import Derived.Test.YtbjcdpenfijfoaaGreatDoorLex2
import Derived.Test.YtbjcdpenfijfoaaGreatDoorJoin2
namespace Go.Proofs.YtbjcdpenfijfoaaGreatDoor
open Go.RowKit Go.Shelf Go.Lib
set_option linter.unusedVariables false

/-- The operations that hand the row on, with what each puts behind it; the rows that are built for it, with their bytes. -/
structure Chain where
  pos : List Nat
  add : List (List UInt8)
  side : List (Nat × List UInt8)
namespace Chain
def row (C : Chain) (v : Value) (vs : Nat → Value) : Nat → Value
  | 0 => v
  | k + 1 => vs (C.pos.getD k 0)
def sofar (C : Chain) (k : Nat) : List UInt8 := (C.add.take k).flatten
/-- How far it has come. -/
def Far (C : Chain) (base n : Nat) (v : Value) (xs : List Value) (w0 : World) (l : Nat → Bool) (vs : Nat → Value) (w : World) : Prop :=
  ∃ k, k ≤ C.pos.length ∧ (∀ j, j < C.pos.length → l (C.pos.getD j 0) = decide (j < k)) ∧ Told base n xs v w0 (C.sofar k) (C.row v vs k) w ∧
    ∀ s ∈ C.side, l s.1 = true → ∃ t, vs s.1 = .slice (some ⟨t, 0, none⟩) s.2.length s.2.length ∧ (∀ j u, (byteCells s.2)[j]? = some u → w.cell? ⟨t, j, none⟩ = some u) ∧ some t ≠ (C.row v vs k).ownBlock ∧ t < w.heap.size
/-- The places are apart. -/
def apart (C : Chain) : Bool := decide (C.pos.Nodup ∧ (C.side.map (·.1)).Nodup ∧ ∀ s ∈ C.side, s.1 ∉ C.pos) && decide (C.add.length = C.pos.length)
end Chain

theorem nodup_inj {α : Type} {l : List α} (h : l.Nodup) {i j : Nat} (hi : i < l.length) (hj : j < l.length) (e : l[i] = l[j]) : i = j := by
  rcases Nat.lt_trichotomy i j with h1 | h1 | h1
  · exact absurd e (List.pairwise_iff_getElem.1 h i j hi hj h1)
  · exact h1
  · exact absurd e.symm (List.pairwise_iff_getElem.1 h j i hj hi h1)
variable {base n : Nat} {v : Value} {xs : List Value} {w0 : World}
theorem Chain.row_upd {C : Chain} {vs : Nat → Value} {i k : Nat} {u : Value} (hi : i ∉ C.pos) (hk : k ≤ C.pos.length) : C.row v (upd vs i u) k = C.row v vs k := by
  cases k with
  | zero => rfl
  | succ k =>
    show upd vs i u (C.pos.getD k 0) = vs (C.pos.getD k 0)
    refine upd_other _ _ fun e => hi ?_
    rw [← e, List.getD_eq_getElem?_getD, List.getElem?_eq_getElem (by omega)]
    exact List.getElem_mem _
theorem Chain.get_mem {C : Chain} {j : Nat} (h : j < C.pos.length) : C.pos.getD j 0 ∈ C.pos := by
  rw [List.getD_eq_getElem?_getD, List.getElem?_eq_getElem h]; exact List.getElem_mem _
theorem Chain.get_ne {C : Chain} (hn : C.pos.Nodup) {i j : Nat} (hi : i < C.pos.length) (hj : j < C.pos.length) (h : i ≠ j) : C.pos.getD i 0 ≠ C.pos.getD j 0 := by
  rw [List.getD_eq_getElem?_getD, List.getElem?_eq_getElem hi, List.getD_eq_getElem?_getD, List.getElem?_eq_getElem hj]
  intro e
  exact h (nodup_inj hn hi hj e)

/-- An operation beside the row: nothing turns. -/
theorem Chain.Far.beside {C : Chain} {l : Nat → Bool} {vs : Nat → Value} {w : World} (h : C.Far base n v xs w0 l vs w) {i : Nat} (hi : i ∉ C.pos) (hs : ∀ s ∈ C.side, s.1 ≠ i) (u : Value) : C.Far base n v xs w0 (upd l i true) (upd vs i u) w := by
  obtain ⟨k, hk, hl, ht, hside⟩ := h
  refine ⟨k, hk, fun j hj => ?_, ?_, fun s hm hls => ?_⟩
  · rw [upd_other _ _ (fun e => hi (by rw [← e]; exact get_mem hj))]; exact hl j hj
  · rw [Chain.row_upd hi hk]; exact ht
  · rw [upd_other _ _ (hs s hm)] at hls
    obtain ⟨t, h1, h2, h3, h4⟩ := hside s hm hls
    exact ⟨t, by rw [upd_other _ _ (hs s hm)]; exact h1, h2, by rw [Chain.row_upd hi hk]; exact h3, h4⟩
/-- A row is built for it. -/
theorem Chain.Far.built {C : Chain} {l : Nat → Bool} {vs : Nat → Value} {w : World} (hap : C.apart = true) (h : C.Far base n v xs w0 l vs w) {s : Nat × List UInt8} (hm : s ∈ C.side) :
    C.Far base n v xs w0 (upd l s.1 true) (upd vs s.1 (.slice (some ⟨w.heap.size, 0, none⟩) s.2.length s.2.length)) (w.alloc (.cells (byteCells s.2).toArray 5)) := by
  simp only [Chain.apart, Bool.and_eq_true, decide_eq_true_eq] at hap
  obtain ⟨⟨h1, h2, h3⟩, _⟩ := hap
  have hi := h3 s hm
  obtain ⟨k, hk, hl, ht, hside⟩ := h
  have hb : Below w.heap.size w (w.alloc (.cells (byteCells s.2).toArray 5)) := (Below.refl _ _).alloc (Nat.le_refl _) _
  have hsz : (w.alloc (.cells (byteCells s.2).toArray 5)).heap.size = w.heap.size + 1 := by simp
  refine ⟨k, hk, fun j hj => ?_, ?_, fun q hq hlq => ?_⟩
  · rw [upd_other _ _ (fun e => hi (by rw [← e]; exact get_mem hj))]; exact hl j hj
  · rw [Chain.row_upd hi hk]; exact ht.upto hb
  · rw [Chain.row_upd hi hk]
    by_cases e : q.1 = s.1
    · obtain rfl : q = s := by
        have hp := List.pairwise_map.1 h2
        rcases List.mem_iff_getElem.1 hq with ⟨i1, b1, e1⟩
        rcases List.mem_iff_getElem.1 hm with ⟨i2, b2, e2⟩
        have : i1 = i2 := by
          have hh : (C.side.map (·.1))[i1]'(by simpa using b1) = (C.side.map (·.1))[i2]'(by simpa using b2) := by simp [e1, e2, e]
          exact nodup_inj h2 _ _ hh
        subst this
        rw [← e1, ← e2]
      refine ⟨w.heap.size, by rw [upd_same], fun j u hu => ?_, fun e => ?_, by omega⟩
      · exact cell_new _ _ _ j u (by simpa using hu)
      · have := (ht.own.lt _ e.symm).2
        omega
    · rw [upd_other _ _ e] at hlq
      obtain ⟨t, g1, g2, g3, g4⟩ := hside q hq hlq
      exact ⟨t, by rw [upd_other _ _ e]; exact g1, fun j u hu => (hb.cell (p := ⟨t, j, none⟩) g4).trans (g2 j u hu), g3, by omega⟩
/-- Where the row is, when the next operation of the chain comes up. -/
theorem Chain.Far.at {C : Chain} {l : Nat → Bool} {vs : Nat → Value} {w : World} (h : C.Far base n v xs w0 l vs w) {j : Nat} (hj : j < C.pos.length) (h0 : l (C.pos.getD j 0) = false) (h1 : j = 0 ∨ l (C.pos.getD (j - 1) 0) = true) :
    Told base n xs v w0 (C.sofar j) (C.row v vs j) w ∧ ∀ s ∈ C.side, l s.1 = true → ∃ t, vs s.1 = .slice (some ⟨t, 0, none⟩) s.2.length s.2.length ∧ (∀ j u, (byteCells s.2)[j]? = some u → w.cell? ⟨t, j, none⟩ = some u) := by
  obtain ⟨k, hk, hl, ht, hside⟩ := h
  have a1 := hl j hj
  rw [h0] at a1
  have a2 : ¬ j < k := by simpa using a1.symm
  have : k = j := by
    rcases h1 with rfl | h1
    · omega
    · have a3 := hl (j - 1) (by omega)
      rw [h1] at a3
      have a4 : j - 1 < k := by simpa using a3.symm
      omega
  subst this
  exact ⟨ht, fun s hm hls => by obtain ⟨t, g1, g2, _⟩ := hside s hm hls; exact ⟨t, g1, g2⟩⟩
/-- The row is handed on. -/
theorem Chain.Far.on {C : Chain} {l : Nat → Bool} {vs : Nat → Value} {w w' : World} {u : Value} (hap : C.apart = true) (h : C.Far base n v xs w0 l vs w) {j : Nat} (hj : j < C.pos.length) (h0 : l (C.pos.getD j 0) = false) (h1 : j = 0 ∨ l (C.pos.getD (j - 1) 0) = true)
    (hu : Told base (n + (C.sofar j).length) (xs ++ byteCells (C.sofar j)) (C.row v vs j) w (C.add.getD j []) u w') : C.Far base n v xs w0 (upd l (C.pos.getD j 0) true) (upd vs (C.pos.getD j 0) u) w' := by
  have hap0 := hap
  simp only [Chain.apart, Bool.and_eq_true, decide_eq_true_eq] at hap
  obtain ⟨⟨n1, n2, n3⟩, n4⟩ := hap
  obtain ⟨k, hk, hl, ht, hside⟩ := h
  have a1 := hl j hj
  rw [h0] at a1
  have a2 : ¬ j < k := by simpa using a1.symm
  have : k = j := by
    rcases h1 with rfl | h1
    · omega
    · have a3 := hl (j - 1) (by omega)
      rw [h1] at a3
      have a4 : j - 1 < k := by simpa using a3.symm
      omega
  subst this
  have hso : C.sofar (k + 1) = C.sofar k ++ C.add.getD k [] := by
    unfold Chain.sofar
    rw [List.take_add_one, List.flatten_append, List.getD_eq_getElem?_getD, List.getElem?_eq_getElem (by omega)]
    simp only [Option.toList_some, List.flatten_cons, List.flatten_nil, List.append_nil, Option.getD_some]
  have hro : C.row v (upd vs (C.pos.getD k 0) u) (k + 1) = u := by show upd vs _ u _ = u; rw [upd_same]
  refine ⟨k + 1, by omega, fun i hi => ?_, ?_, fun s hm hls => ?_⟩
  · by_cases e : i = k
    · subst e; rw [upd_same]; simp
    · rw [upd_other _ _ (Chain.get_ne n1 hi hj e), hl i hi]
      simp only [decide_eq_decide]; omega
  · rw [hro, hso]; exact ht.trans hu
  · have hne : s.1 ≠ C.pos.getD k 0 := fun e => n3 s hm (by rw [e]; exact get_mem hj)
    rw [upd_other _ _ hne] at hls
    obtain ⟨t, g1, g2, g3, g4⟩ := hside s hm hls
    have hblk : w'.heap[t]? = w.heap[t]? := hu.grown.block t g4 g3
    refine ⟨t, by rw [upd_other _ _ hne]; exact g1, fun i c hc => (World.cell?_of_block (a := ⟨t, i, none⟩) hblk).trans (g2 i c hc), ?_, Nat.lt_of_lt_of_le g4 hu.grown.size⟩
    rw [hro]
    intro e
    rcases hu.place with p | ⟨g, p1, p2⟩
    · exact g3 (e.trans p)
    · rw [p1] at e
      have : t = g := by simpa using e
      omega
theorem Chain.Far.start {C : Chain} {vs : Nat → Value} (hown : w0.ownsRow base 5 1 v n xs) : C.Far base n v xs w0 (fun _ => false) vs w0.drew :=
  ⟨0, Nat.zero_le _, fun j _ => by simp, (told_nil hown).upto (Below.refl _ _).drew, fun s _ h => by cases h⟩
theorem Chain.Far.end {C : Chain} {l : Nat → Bool} {vs : Nat → Value} {w : World} (h : C.Far base n v xs w0 l vs w) (hl : ∀ j, j < C.pos.length → l (C.pos.getD j 0) = true) : Told base n xs v w0 (C.sofar C.pos.length) (C.row v vs C.pos.length) w := by
  obtain ⟨k, hk, g, ht, _⟩ := h
  have : k = C.pos.length := by
    by_cases h0 : C.pos.length = 0
    · omega
    · have a := g (C.pos.length - 1) (by omega)
      rw [hl _ (by omega)] at a
      have : C.pos.length - 1 < k := by simpa using a.symm
      omega
  subst this
  exact ht
end Go.Proofs.YtbjcdpenfijfoaaGreatDoor
