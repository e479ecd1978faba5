/- Map, at any keys and values. -/
import Derived.Test.YtbpmhgcjefpigaaGreatDoorMapd
import Derived.Test.YtbpmhgcjefpigaaGreatDoorMap11F
namespace Go.Proofs.YtbpmhgcjefpigaaGreatDoor
open Go.RowKit Go.Shelf Go.WideShapes Go.Lib
set_option linter.unusedVariables false
set_option linter.unusedSimpArgs false
/-- What stands behind a round of Map. -/
structure MapAt (w w3 : World) (ks : List ByteArray) (ts : List Tree) (ps : List Nat) (j : Nat) (wr : World) : Prop where
  rows : ∃ kv lv xs, wr.cell? ⟨w.heap.size + 1, 4, none⟩ = some kv ∧ wr.cell? ⟨w.heap.size + 1, 5, none⟩ = some lv ∧ wr.ownsRow w3.heap.size 9 1 kv j ((ps.take j).map fun p => .string (keyN ks p)) ∧ wr.ownsRow w3.heap.size 26 6 lv j xs ∧
    Cops w3.heap.size (fun q => kv.ownBlock = some q ∨ lv.ownBlock = some q) wr xs ((ps.take j).map fun p => treeN ts p) ∧ (∀ q, kv.ownBlock = some q → lv.ownBlock ≠ some q)
  other : ∀ q o, q < w3.heap.size → (q ≠ w.heap.size + 1 ∨ (o ≠ 4 ∧ o ≠ 5)) → wr.cell? ⟨q, o, none⟩ = w3.cell? ⟨q, o, none⟩
  frz : ∀ q o, q < w3.heap.size → wr.frozen? ⟨q, o, none⟩ = w3.frozen? ⟨q, o, none⟩
  below : Below w.heap.size w wr
  size : w3.heap.size ≤ wr.heap.size
  up : (ps.take j).Pairwise fun a b => cmpK (keyN ks a) (keyN ks b) < 0
/-- A key is put behind the keys. -/
theorem map_key {w w3 W0 W : World} {ks : List ByteArray} {ts : List Tree} {j p g cap : Nat} {kv lv : Value} {xs ys : List Value} {us : List Tree} (hw3 : w.heap.size + 1 < w3.heap.size) (hs : w3.heap.size ≤ W0.heap.size) (b4 : W0.cell? ⟨w.heap.size + 1, 4, none⟩ = some kv) (b5 : W0.cell? ⟨w.heap.size + 1, 5, none⟩ = some lv)
    (ok : W0.ownsRow w3.heap.size 9 1 kv j ys) (ol : W0.ownsRow w3.heap.size 26 6 lv j xs) (hcop : Cops w3.heap.size (fun q => kv.ownBlock = some q ∨ lv.ownBlock = some q) W0 xs us) (hdis : ∀ q, kv.ownBlock = some q → lv.ownBlock ≠ some q)
    (hown : W.ownsRow w3.heap.size 9 1 (.slice (some ⟨g, 0, none⟩) (j + 1) cap) (j + 1) (ys ++ [.string (keyN ks p)])) (hg : W0.grownBy W kv.ownBlock) (hob : some g = kv.ownBlock ∨ W0.heap.size ≤ g) (hbw : Below w.heap.size w W0) :
    ∃ w4, W.setCell ⟨w.heap.size + 1, 4, none⟩ (.slice (some ⟨g, 0, none⟩) (j + 1) cap) = w4 ∧ W0.heap.size ≤ w4.heap.size ∧ w4.cell? ⟨w.heap.size + 1, 4, none⟩ = some (.slice (some ⟨g, 0, none⟩) (j + 1) cap) ∧ w4.cell? ⟨w.heap.size + 1, 5, none⟩ = some lv ∧
      w4.ownsRow w3.heap.size 9 1 (.slice (some ⟨g, 0, none⟩) (j + 1) cap) (j + 1) (ys ++ [.string (keyN ks p)]) ∧ w4.ownsRow w3.heap.size 26 6 lv j xs ∧ Cops w3.heap.size (fun q => g = q ∨ lv.ownBlock = some q) w4 xs us ∧ (lv.ownBlock ≠ some g) ∧
      (∀ q o, q < w3.heap.size → (q ≠ w.heap.size + 1 ∨ o ≠ 4) → w4.cell? ⟨q, o, none⟩ = W0.cell? ⟨q, o, none⟩) ∧ (∀ q o, q < w3.heap.size → w4.frozen? ⟨q, o, none⟩ = W0.frozen? ⟨q, o, none⟩) ∧ Below w.heap.size w w4 := by
  have hlow : ∀ q, kv.ownBlock = some q → w3.heap.size ≤ q ∧ q < W0.heap.size := fun q h => ok.lt q h
  have hne : ∀ q, q < w3.heap.size → some q ≠ kv.ownBlock := fun q h e => by have := hlow q e.symm; omega
  have hlv : ∀ q, lv.ownBlock = some q → w3.heap.size ≤ q ∧ q < W0.heap.size := fun q h => ol.lt q h
  have hgl : lv.ownBlock ≠ some g := fun h => by
    rcases hob with e | e
    · exact hdis g e.symm h
    · have := hlv g h; omega
  have hsz : (W.setCell ⟨w.heap.size + 1, 4, none⟩ (.slice (some ⟨g, 0, none⟩) (j + 1) cap)).heap.size = W.heap.size := by simp [World.setCell]
  have hW := hg.size
  refine ⟨_, rfl, by omega, after_box hg _ b4 (hne _ hw3), ?_, ?_, ?_, ?_, hgl, fun q o h h' => after_cell hg _ _ _ (by omega) (hne q h) h', fun q o h => after_frozen hg _ _ _ (by omega) (hne q h), after_below hbw hg (fun q h => by have := hlow q h; omega) hbw.size (by omega) _⟩
  · exact (after_cell hg _ _ _ (by omega) (hne _ hw3) (.inr (by decide))).trans b5
  · exact ownsRow_setCell_below hown (by show w.heap.size + 1 < _; omega) _
  · exact ownsRow_setCell_below (ol.kept hg (by
      cases h : lv.ownBlock with
      | none => exact .inl rfl
      | some q => exact .inr (fun e => hdis q e.symm h))) (by show w.heap.size + 1 < _; omega) _
  · refine hcop.step (fun b h1 h2 h3 => ?_) (by omega) (fun q h => ?_)
    · rw [Below.heap_setCell _ _ _ _ (by show b ≠ w.heap.size + 1; omega)]
      exact hg.block b h2 fun e => h3 (.inl e.symm)
    · rcases h with h | h
      · rcases hob with e | e
        · exact .inl (.inl (by rw [← e, h]))
        · exact .inr (by omega)
      · exact .inl (.inr h)
/-- A value is put behind the values. -/
theorem map_value {w w3 W0 W : World} {ts : List Tree} {j hi g kg cap : Nat} {kv lv : Value} {xs ys : List Value} {us : List Tree} {c0 c1 c2 c3 c4 c5 : Value} {T : Tree} (hw3 : w.heap.size + 1 < w3.heap.size) (hs : w3.heap.size ≤ W0.heap.size) (hkv : kv.ownBlock = some kg) (b4 : W0.cell? ⟨w.heap.size + 1, 4, none⟩ = some kv) (b5 : W0.cell? ⟨w.heap.size + 1, 5, none⟩ = some lv)
    (ok : W0.ownsRow w3.heap.size 9 1 kv (j + 1) ys) (ol : W0.ownsRow w3.heap.size 26 6 lv j xs) (hcop : Cops w3.heap.size (fun q => kg = q ∨ lv.ownBlock = some q) W0 xs us) (hdis : lv.ownBlock ≠ some kg)
    (hown : W.ownsRow w3.heap.size 26 6 (.slice (some ⟨g, 0, none⟩) (j + 1) cap) (j + 1) (xs ++ [c0, c1, c2, c3, c4, c5])) (hg : W0.grownBy W lv.ownBlock) (hl : LiesF W0.heap.size hi W (.agg #[c0, c1, c2, c3, c4, c5]) T) (hhi : hi ≤ W.heap.size) (hob : some g = lv.ownBlock ∨ hi ≤ g) (h0 : W0.heap.size ≤ hi) (hbw : Below w.heap.size w W0) :
    ∃ w5, W.setCell ⟨w.heap.size + 1, 5, none⟩ (.slice (some ⟨g, 0, none⟩) (j + 1) cap) = w5 ∧ W0.heap.size ≤ w5.heap.size ∧ w5.cell? ⟨w.heap.size + 1, 4, none⟩ = some kv ∧ w5.cell? ⟨w.heap.size + 1, 5, none⟩ = some (.slice (some ⟨g, 0, none⟩) (j + 1) cap) ∧
      w5.ownsRow w3.heap.size 9 1 kv (j + 1) ys ∧ w5.ownsRow w3.heap.size 26 6 (.slice (some ⟨g, 0, none⟩) (j + 1) cap) (j + 1) (xs ++ [c0, c1, c2, c3, c4, c5]) ∧ Cops w3.heap.size (fun q => kv.ownBlock = some q ∨ (Value.slice (some ⟨g, 0, none⟩) (j + 1) cap).ownBlock = some q) w5 (xs ++ [c0, c1, c2, c3, c4, c5]) (us ++ [T]) ∧ (∀ q, kv.ownBlock = some q → (Value.slice (some ⟨g, 0, none⟩) (j + 1) cap).ownBlock ≠ some q) ∧
      (∀ q o, q < w3.heap.size → (q ≠ w.heap.size + 1 ∨ o ≠ 5) → w5.cell? ⟨q, o, none⟩ = W0.cell? ⟨q, o, none⟩) ∧ (∀ q o, q < w3.heap.size → w5.frozen? ⟨q, o, none⟩ = W0.frozen? ⟨q, o, none⟩) ∧ Below w.heap.size w w5 := by
  have hlow : ∀ q, lv.ownBlock = some q → w3.heap.size ≤ q ∧ q < W0.heap.size := fun q h => ol.lt q h
  have hne : ∀ q, q < w3.heap.size → some q ≠ lv.ownBlock := fun q h e => by have := hlow q e.symm; omega
  have hkg := ok.lt kg hkv
  have hgk : g ≠ kg := fun h => by
    rcases hob with e | e
    · exact hdis (by rw [← e, h])
    · omega
  have hsz : (W.setCell ⟨w.heap.size + 1, 5, none⟩ (.slice (some ⟨g, 0, none⟩) (j + 1) cap)).heap.size = W.heap.size := by simp [World.setCell]
  have hW := hg.size
  have hsc : ∀ b, w3.heap.size ≤ b → (W.setCell ⟨w.heap.size + 1, 5, none⟩ (.slice (some ⟨g, 0, none⟩) (j + 1) cap)).heap[b]? = W.heap[b]? := fun b h => Below.heap_setCell _ _ _ _ (by show b ≠ w.heap.size + 1; omega)
  have hS : ∀ q, (kv.ownBlock = some q ∨ (Value.slice (some ⟨g, 0, none⟩) (j + 1) cap).ownBlock = some q) → q = kg ∨ q = g := fun q h => by
    rcases h with h | h
    · rw [hkv] at h; exact .inl (Option.some.inj h).symm
    · exact .inr (Option.some.inj h).symm
  refine ⟨_, rfl, by omega, ?_, after_box hg _ b5 (hne _ hw3), ?_, ownsRow_setCell_below hown (by show w.heap.size + 1 < _; omega) _, ?_, fun q h h' => ?_, fun q o h h' => after_cell hg _ _ _ (by omega) (hne q h) h', fun q o h => after_frozen hg _ _ _ (by omega) (hne q h), after_below hbw hg (fun q h => by have := hlow q h; omega) hbw.size (by omega) _⟩
  · exact (after_cell hg _ _ _ (by omega) (hne _ hw3) (.inr (by decide))).trans b4
  · exact ownsRow_setCell_below (ok.kept hg (.inr (by rw [hkv]; exact fun e => hdis e.symm))) (by show w.heap.size + 1 < _; omega) _
  · refine Cops.snoc (lo := W0.heap.size) (hi := hi) (hcop.step (fun b h1 h2 h3 => ?_) (by omega) (fun q h => ?_)) (hl.keep (keepsF_of fun b b1 b2 => hsc b (by omega))) hs (by omega) (fun q h => ?_)
    · rw [hsc b h1]
      exact hg.block b h2 fun e => h3 (.inr e.symm)
    · rcases hS q h with h | h
      · exact .inl (.inl h.symm)
      · rcases hob with e | e
        · exact .inl (.inr (by rw [← e, h]))
        · exact .inr (by omega)
    · rcases hS q h with h | h
      · exact .inl (by omega)
      · rcases hob with e | e
        · have := hlow g e.symm; exact .inl (by omega)
        · exact .inr (by omega)
  · rw [hkv] at h
    have h1 : kg = q := Option.some.inj h
    have h2 : g = q := Option.some.inj h'
    omega
/-- What Map answers. -/
def MapTo (ks : List ByteArray) (ts : List Tree) (A : Nat) (e : Ending) (w' : World) : Prop :=
  ((ks.length = ts.length ∧ ks.Nodup) ∧ ∃ v M, e = .returned (.tuple #[v, .int .i64 0]) ∧ MapOf ks ts M ∧ LiesF A w'.heap.size w' v (.mk 5 false 0 ⟨#[]⟩ (M.map Prod.fst) (M.map Prod.snd))) ∨
  (¬ (ks.length = ts.length ∧ ks.Nodup) ∧ e = .returned (.tuple #[.agg #[.int .i64 0, .bool false, .int .i64 0, .string ⟨#[]⟩, .slice none 0 0, .slice none 0 0], .int .i64 2]))
/-- The rows of Map, as the value that it answers. -/
theorem map_lies {w w3 wr w' : World} {ks : List ByteArray} {ts : List Tree} {ps : List Nat} {kv lv : Value} {xs : List Value} {n : Nat} (hn : ps.length = n) (hw3 : w.heap.size + 1 < w3.heap.size) (hs : w3.heap.size ≤ wr.heap.size) (ok : wr.ownsRow w3.heap.size 9 1 kv n (ps.map fun p => .string (keyN ks p))) (ol : wr.ownsRow w3.heap.size 26 6 lv n xs) (hcop : Cops w3.heap.size (fun q => kv.ownBlock = some q ∨ lv.ownBlock = some q) wr xs (ps.map fun p => treeN ts p)) (hk : ∀ p ∈ ps, (keyN ks p).size ≤ maxLen)
    (hw : ∀ b, w3.heap.size ≤ b → w'.heap[b]? = wr.heap[b]?) (hsz : w'.heap.size = wr.heap.size) : LiesF w.heap.size w'.heap.size w' (.agg #[.int .i64 5, .bool false, .int .i64 0, .string ⟨#[]⟩, kv, lv]) (.mk 5 false 0 ⟨#[]⟩ ((ps.map fun p => (keyN ks p, treeN ts p)).map Prod.fst) ((ps.map fun p => (keyN ks p, treeN ts p)).map Prod.snd)) := by
  have e1 : (ps.map fun p => (keyN ks p, treeN ts p)).map Prod.fst = ps.map (keyN ks) := by simp [List.map_map, Function.comp_def]
  have e2 : (ps.map fun p => (keyN ks p, treeN ts p)).map Prod.snd = ps.map (treeN ts) := by simp [List.map_map, Function.comp_def]
  rw [e1, e2]
  subst hn
  simp only [LiesF]
  obtain ⟨ka, kc, rfl, hka⟩ := row_any ok
  obtain ⟨la, lc, rfl, hla⟩ := row_any ol
  have hkc : ps.length ≤ kc ∧ kc ≤ maxLen := by
    rcases ok.2 with ⟨h, h0⟩ | ⟨g, cap, cur, h, _, _, h5, h6, _⟩
    · simp only [Value.slice.injEq] at h; exact ⟨by omega, by unfold maxLen; omega⟩
    · simp only [Value.slice.injEq] at h; exact ⟨by omega, by omega⟩
  have hlc : ps.length ≤ lc ∧ lc ≤ maxLen := by
    rcases ol.2 with ⟨h, h0⟩ | ⟨g, cap, cur, h, _, _, h5, h6, _⟩
    · simp only [Value.slice.injEq] at h; exact ⟨by omega, by unfold maxLen; omega⟩
    · simp only [Value.slice.injEq] at h; exact ⟨by omega, by omega⟩
  refine ⟨ka, kc, la, lc, by simp, ⟨by show 0 ≤ _; omega, by simpa using hkc.1, hkc.2, by simpa using hlc.1, hlc.2⟩, ?_, ?_⟩
  · by_cases h0 : ps.length = 0
    · exact .inl (by rw [List.eq_nil_of_length_eq_zero h0]; rfl)
    · obtain ⟨g, rfl⟩ := hka (by omega)
      have hg := ok.lt g rfl
      refine .inr ⟨g, 0, rfl, by omega, by omega, fun i hi => ?_⟩
      simp only [List.length_map] at hi
      have e : (ps.map (keyN ks)).getD i ⟨#[]⟩ = keyN ks ps[i] := by simp [List.getD, hi]
      rw [e, Nat.zero_add]
      refine ⟨?_, hk _ (List.getElem_mem _), ?_⟩
      · rw [World.cell?_of_block (a := ⟨g, i, none⟩) (hw g hg.1)]
        have := ok.cells (g := g) rfl i (.string (keyN ks ps[i])) (by simp [hi])
        rwa [Lib.add_plain, Nat.zero_add] at this
      · rw [World.frozen?_of_block (a := ⟨g, i, none⟩) (hw g hg.1)]
        exact owns_frozen ok i
  · by_cases h0 : ps.length = 0
    · exact .inl (by rw [List.eq_nil_of_length_eq_zero h0]; rfl)
    · obtain ⟨g, rfl⟩ := hla (by omega)
      have hg := ol.lt g rfl
      refine .inr ⟨g, 0, rfl, by omega, by omega, ?_⟩
      obtain ⟨es, hx, ht, hes⟩ := hcop.step (w' := w') (fun b h1 h2 _ => hw b h1) (by omega) (S' := fun _ => False) (fun q h => h.elim)
      have hel : es.length = ps.length := by have := congrArg List.length ht; simpa using this
      have := Cops.kids (g := g) (off := 0) (B := w'.heap.size) hes (Nat.le_refl _) (fun i u hu => by
        rw [Nat.zero_add, World.cell?_of_block (a := ⟨g, i, none⟩) (hw g hg.1)]
        have := ol.cells (g := g) rfl i u (by rw [hx]; exact hu)
        rwa [Lib.add_plain, Nat.zero_add] at this) (fun i hi => by
        rw [Nat.zero_add, World.frozen?_of_block (a := ⟨g, i, none⟩) (hw g hg.1)]
        exact owns_frozen ol i)
      rw [ht] at this
      exact this.mono (by omega) (Nat.le_refl _)
end Go.Proofs.YtbpmhgcjefpigaaGreatDoor
