/- The document's own: a map of keys in any order. -/
import Derived.Test.YtbpmhgcjefpigaaGreatDoorJoin17
import Derived.Test.YtbpmhgcjefpigaaGreatDoorJoin18
import Derived.Test.YtbpmhgcjefpigaaGreatDoorJoin15
namespace Go.Proofs.YtbpmhgcjefpigaaGreatDoor
open Go.RowKit Go.Shelf Go.WideShapes Go.Lib
set_option linter.unusedVariables false
set_option linter.unusedSimpArgs false
/-- What stands behind a round. -/
structure RMapAt (w : World) (B : Nat) (ks : List ByteArray) (ts : List Tree) (j : Nat) (wr : World) : Prop where
  rows : ∃ (kv lv : Value) (xs : List Value) (M : List (ByteArray × Tree)), wr.cell? ⟨w.heap.size + 1, 4, none⟩ = some kv ∧ wr.cell? ⟨w.heap.size + 1, 5, none⟩ = some lv ∧ wr.ownsRow (w.heap.size + 2) 9 1 kv M.length (M.map fun p => .string p.1) ∧ wr.ownsRow (w.heap.size + 2) 26 6 lv M.length xs ∧ RowL B wr xs (M.map Prod.snd) ∧
    M.Perm ((ks.take j).zip (ts.take j)) ∧ M.Pairwise fun a b : ByteArray × Tree => cmpK a.1 b.1 < 0
  box : ∀ o v, o ≠ 4 → o ≠ 5 → (#[.int .i64 5, .bool false, .int .i64 0, .string ⟨#[]⟩, .slice none 0 0, .slice none 0 0] : Array Value)[o]? = some v → wr.cell? ⟨w.heap.size + 1, o, none⟩ = some v
  res : ∀ o v, (#[.int .i64 0, .bool false, .int .i64 0, .string ⟨#[]⟩, .slice none 0 0, .slice none 0 0] : Array Value)[o]? = some v → wr.cell? ⟨w.heap.size, o, none⟩ = some v
  frz : ∀ o, wr.frozen? ⟨w.heap.size, o, none⟩ = false ∧ wr.frozen? ⟨w.heap.size + 1, o, none⟩ = false
  below : Below w.heap.size w wr
  size : w.heap.size + 2 ≤ wr.heap.size
theorem owns_mono {base base' e size n : Nat} {w : World} {v : Value} {xs : List Value} (h : w.ownsRow base e size v n xs) (hb : base' ≤ base) : w.ownsRow base' e size v n xs := ⟨h.1, h.2.imp id fun ⟨g, cap, cur, h1, h2, h3⟩ => ⟨g, cap, cur, h1, Nat.le_trans hb h2, h3⟩⟩
theorem owns_set {base e size n b o : Nat} {w : World} {v u : Value} {xs : List Value} (h : w.ownsRow base e size v n xs) (hb : b < base) : (w.setCell ⟨b, o, none⟩ u).ownsRow base e size v n xs := ownsRow_setCell_below h hb u
/-- A key is put in its place. -/
theorem ins_pairs {ks : List ByteArray} {ts : List Tree} {M : List (ByteArray × Tree)} {j q : Nat} {k : ByteArray} {t : Tree} (hk : ks[j]? = some k) (ht : ts[j]? = some t) (hp : M.Perm ((ks.take j).zip (ts.take j))) (hu : M.Pairwise fun a b : ByteArray × Tree => cmpK a.1 b.1 < 0) (hq : q ≤ M.length) (h1 : ∀ i m, i < q → M[i]? = some m → cmpK m.1 k < 0) (h2 : ∀ m, M[q]? = some m → cmpK k m.1 < 0) :
    (M.take q ++ [(k, t)] ++ M.drop q).Perm ((ks.take (j + 1)).zip (ts.take (j + 1))) ∧ (M.take q ++ [(k, t)] ++ M.drop q).Pairwise fun a b : ByteArray × Tree => cmpK a.1 b.1 < 0 := by
  obtain ⟨hj1, _⟩ := List.getElem?_eq_some_iff.1 hk
  obtain ⟨hj2, _⟩ := List.getElem?_eq_some_iff.1 ht
  constructor
  · have e : (ks.take (j + 1)).zip (ts.take (j + 1)) = (ks.take j).zip (ts.take j) ++ [(k, t)] := by
      rw [List.take_add_one, List.take_add_one, hk, ht]
      exact List.zip_append (by simp; omega)
    rw [e]
    refine List.Perm.trans ?_ (hp.append_right _)
    rw [List.append_assoc]
    refine (List.Perm.append_left _ List.perm_append_comm).trans ?_
    rw [← List.append_assoc, List.take_append_drop]
  · have hgt : ∀ m ∈ M.drop q, cmpK k m.1 < 0 := fun m hm => by
      obtain ⟨i, hi⟩ := List.mem_iff_getElem?.1 hm
      rw [List.getElem?_drop] at hi
      by_cases e : i = 0
      · subst e; exact h2 m hi
      · obtain ⟨i1, e1⟩ := List.getElem?_eq_some_iff.1 hi
        have hq1 : q < M.length := by omega
        have a := h2 M[q] (List.getElem?_eq_getElem hq1)
        have b := List.pairwise_iff_getElem.1 hu q (q + i) hq1 i1 (by omega)
        rw [e1] at b
        exact cmpK_lt a b
    have hlt : ∀ m ∈ M.take q, cmpK m.1 k < 0 := fun m hm => by
      obtain ⟨i, hi⟩ := List.mem_iff_getElem?.1 hm
      rw [List.getElem?_take] at hi
      split at hi
      · exact h1 i m (by assumption) hi
      · cases hi
    rw [List.pairwise_append, List.pairwise_append]
    refine ⟨⟨hu.sublist (List.take_sublist _ _), by simp, fun a ha b hb => ?_⟩, hu.sublist (List.drop_sublist _ _), fun a ha b hb => ?_⟩
    · simp only [List.mem_cons, List.not_mem_nil, or_false] at hb
      subst hb; exact hlt a ha
    · rcases List.mem_append.1 ha with g | g
      · exact cmpK_lt (hlt a g) (hgt b hb)
      · simp only [List.mem_cons, List.not_mem_nil, or_false] at g
        subst g; exact hgt b hb
/-- A key that stands twice. -/
theorem dup_pairs {ks : List ByteArray} {ts : List Tree} {M : List (ByteArray × Tree)} {j : Nat} {k : ByteArray} (hk : ks[j]? = some k) (hp : M.Perm ((ks.take j).zip (ts.take j))) {m : ByteArray × Tree} (hm : m ∈ M) (he : m.1 = k) : ¬ ks.Nodup := by
  intro hn
  obtain ⟨hj1, hj2⟩ := List.getElem?_eq_some_iff.1 hk
  have h1 := hp.subset hm
  have h2 : m.1 ∈ ks.take j := (List.of_mem_zip (show (m.1, m.2) ∈ _ from h1)).1
  obtain ⟨i, hi⟩ := List.mem_iff_getElem?.1 h2
  rw [List.getElem?_take] at hi
  split at hi
  · obtain ⟨i1, i2⟩ := List.getElem?_eq_some_iff.1 hi
    exact List.pairwise_iff_getElem.1 hn i j i1 hj1 (by assumption) (by rw [i2, hj2, he])
  · cases hi
/-- The rows of the map, as the value that is answered. -/
theorem rmap_lies {A B n : Nat} {wr w' : World} {kv lv : Value} {xs : List Value} {M : List (ByteArray × Tree)} (hn : M.length = n) (ok : wr.ownsRow A 9 1 kv n (M.map fun p => .string p.1)) (ol : wr.ownsRow A 26 6 lv n xs) (hr : RowL B wr xs (M.map Prod.snd)) (hBs : B ≤ wr.heap.size) (hA : B ≤ A) (hk : ∀ p ∈ M, p.1.size ≤ maxLen)
    (hw : ∀ b, A ≤ b → w'.heap[b]? = wr.heap[b]?) (hb : Below B wr w') : Lies w'.heap.size w' (.agg #[.int .i64 5, .bool false, .int .i64 0, .string ⟨#[]⟩, kv, lv]) (.mk 5 false 0 ⟨#[]⟩ (M.map Prod.fst) (M.map Prod.snd)) := by
  subst hn
  simp only [Lies]
  obtain ⟨ka, kc, rfl, hka⟩ := row_any ok
  obtain ⟨la, lc, rfl, hla⟩ := row_any ol
  have hkc : M.length ≤ kc ∧ kc ≤ maxLen := by
    rcases ok.2 with ⟨h, h0⟩ | ⟨g, cap, cur, h, _, _, h5, h6, _⟩
    · simp only [Value.slice.injEq] at h; exact ⟨by omega, by unfold maxLen; omega⟩
    · simp only [Value.slice.injEq] at h; exact ⟨by omega, by omega⟩
  have hlc : M.length ≤ lc ∧ lc ≤ maxLen := by
    rcases ol.2 with ⟨h, h0⟩ | ⟨g, cap, cur, h, _, _, h5, h6, _⟩
    · simp only [Value.slice.injEq] at h; exact ⟨by omega, by unfold maxLen; omega⟩
    · simp only [Value.slice.injEq] at h; exact ⟨by omega, by omega⟩
  have hsz := hb.size
  refine ⟨ka, kc, la, lc, by simp, ⟨by show 0 ≤ _; omega, by simpa using hkc.1, hkc.2, by simpa using hlc.1, hlc.2⟩, ?_, ?_⟩
  · by_cases h0 : M.length = 0
    · exact .inl (by rw [List.eq_nil_of_length_eq_zero h0]; rfl)
    · obtain ⟨g, rfl⟩ := hka (by omega)
      have hg := ok.lt g rfl
      refine .inr ⟨g, 0, rfl, by omega, fun i hi => ?_⟩
      simp only [List.length_map] at hi
      have e : (M.map Prod.fst).getD i ⟨#[]⟩ = M[i].1 := by simp [List.getD, hi]
      rw [e, Nat.zero_add]
      refine ⟨?_, hk _ (List.getElem_mem _)⟩
      rw [World.cell?_of_block (a := ⟨g, i, none⟩) (hw g hg.1)]
      exact owns_cell ok i _ (by simp [hi])
  · by_cases h0 : M.length = 0
    · exact .inl (by rw [List.eq_nil_of_length_eq_zero h0]; rfl)
    · obtain ⟨g, rfl⟩ := hla (by omega)
      have hg := ol.lt g rfl
      refine .inr ⟨g, 0, rfl, by omega, ?_⟩
      have hr2 := (hr.stay hb).mono (Nat.le_trans hBs hsz)
      refine hr2.kids (fun i u hu => ?_) hr2
      rw [Nat.zero_add, World.cell?_of_block (a := ⟨g, i, none⟩) (hw g hg.1)]
      exact owns_cell ol i u hu
/-- What the document's Map answers. -/
def RMapTo (ks : List ByteArray) (ts : List Tree) (e : Ending) (w' : World) : Prop :=
  ((ks.length = ts.length ∧ ks.Nodup) ∧ ∃ v M, e = .returned (.tuple #[v, .int .i64 0]) ∧ MapOf ks ts M ∧ Lies w'.heap.size w' v (.mk 5 false 0 ⟨#[]⟩ (M.map Prod.fst) (M.map Prod.snd))) ∨
  (¬ (ks.length = ts.length ∧ ks.Nodup) ∧ e = .returned (.tuple #[.agg #[.int .i64 0, .bool false, .int .i64 0, .string ⟨#[]⟩, .slice none 0 0, .slice none 0 0], .int .i64 2]))
end Go.Proofs.YtbpmhgcjefpigaaGreatDoor
