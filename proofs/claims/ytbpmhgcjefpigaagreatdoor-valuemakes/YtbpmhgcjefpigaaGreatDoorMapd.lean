/- Keys and values as the keys rise: what a map of them is. -/
import Derived.Test.YtbpmhgcjefpigaaGreatDoorJoin8
import Derived.Test.YtbpmhgcjefpigaaGreatDoorJoin9
import Derived.Test.YtbpmhgcjefpigaaGreatDoorMapTwo
namespace Go.Proofs.YtbpmhgcjefpigaaGreatDoor
open Go.RowKit Go.Shelf Go.WideShapes Go.Lib
set_option linter.unusedVariables false
set_option linter.unusedSimpArgs false
def treeN (ts : List Tree) (i : Nat) : Tree := ts.getD i (.mk 0 false 0 ⟨#[]⟩ [] [])
def cmpK (a b : ByteArray) : Int := Lib.compareBytes a.data.toList b.data.toList
theorem cmpK_turn (a b : ByteArray) : cmpK b a = -cmpK a b := cmpB_turn _ _
theorem cmpK_self (a : ByteArray) : cmpK a a = 0 := by have := cmpK_turn a a; omega
theorem cmpL_zero : ∀ {a b : List UInt8}, Lib.compareBytes a b = 0 → a = b
  | [], [], _ => rfl
  | [], _ :: _, h => by simp [Lib.compareBytes] at h
  | _ :: _, [], h => by simp [Lib.compareBytes] at h
  | a :: r, b :: t, h => by
    rw [Lib.compareBytes] at h
    by_cases h1 : a < b
    · rw [if_pos h1] at h; simp at h
    · rw [if_neg h1] at h
      by_cases h2 : b < a
      · rw [if_pos h2] at h; simp at h
      · rw [if_neg h2] at h
        have e : a = b := by
          apply UInt8.toNat_inj.mp
          have h3 : ¬ a.toNat < b.toNat := fun c => h1 (UInt8.lt_iff_toNat_lt.mpr c)
          have h4 : ¬ b.toNat < a.toNat := fun c => h2 (UInt8.lt_iff_toNat_lt.mpr c)
          omega
        rw [e, cmpL_zero h]
theorem cmpK_one {a b : ByteArray} (h : cmpK a b = 0) : a = b := by
  have := cmpL_zero h
  obtain ⟨⟨a⟩⟩ := a
  obtain ⟨⟨b⟩⟩ := b
  simpa using this
theorem cmpK_lt {a b c : ByteArray} (h1 : cmpK a b < 0) (h2 : cmpK b c < 0) : cmpK a c < 0 := by
  obtain ⟨_, _, h7⟩ := cmpB_leads a.data.toList b.data.toList c.data.toList
  have h3 := cmpB_three a.data.toList b.data.toList
  have h4 := cmpB_three b.data.toList c.data.toList
  unfold Three at h3 h4
  unfold cmpK at *
  have := h7 (by omega)
  omega
/-- Keys and values, the keys rising. -/
structure MapOf (ks : List ByteArray) (ts : List Tree) (M : List (ByteArray × Tree)) : Prop where
  perm : M.Perm (ks.zip ts)
  up : M.Pairwise fun a b => cmpK a.1 b.1 < 0
theorem MapOf.one {ks : List ByteArray} {ts : List Tree} {M M' : List (ByteArray × Tree)} (h : MapOf ks ts M) (h' : MapOf ks ts M') : M = M' := by
  refine List.Perm.eq_of_pairwise (le := fun a b => cmpK a.1 b.1 < 0) (fun a b _ _ h1 h2 => ?_) h.up h'.up (h.perm.trans h'.perm.symm)
  have := cmpK_turn a.1 b.1
  omega
theorem MapOf.keys {ks : List ByteArray} {ts : List Tree} {M : List (ByteArray × Tree)} (h : MapOf ks ts M) (hl : ks.length = ts.length) : (M.map Prod.fst).Perm ks := by
  have := h.perm.map Prod.fst
  rwa [List.map_fst_zip (by omega)] at this
theorem MapOf.nodup {ks : List ByteArray} {ts : List Tree} {M : List (ByteArray × Tree)} (h : MapOf ks ts M) (hl : ks.length = ts.length) : ks.Nodup := by
  refine (h.keys hl).nodup ?_
  rw [List.Nodup, List.pairwise_map]
  refine h.up.imp fun {a b} hab e => ?_
  rw [e, cmpK_self] at hab
  omega
theorem zip_places (ks : List ByteArray) (ts : List Tree) (hl : ks.length = ts.length) : (List.range ks.length).map (fun p => (keyN ks p, treeN ts p)) = ks.zip ts := by
  refine List.ext_getElem (by simp [hl]) fun i h1 h2 => ?_
  have hi : i < ks.length := by simpa using h1
  have hi' : i < ts.length := by omega
  simp [keyN, treeN, List.getD, hi, hi']
theorem map_places {ks : List ByteArray} {ts : List Tree} {ps : List Nat} (hl : ks.length = ts.length) (hp : ps.Perm (List.range ks.length)) (hu : ps.Pairwise fun a b => cmpK (keyN ks a) (keyN ks b) < 0) : MapOf ks ts (ps.map fun p => (keyN ks p, treeN ts p)) :=
  ⟨zip_places ks ts hl ▸ hp.map _, List.pairwise_map.2 hu⟩
theorem places_dup {ks : List ByteArray} {ps : List Nat} (hp : ps.Perm (List.range ks.length)) {i : Nat} {a b : Nat} (ha : ps[i]? = some a) (hb : ps[i + 1]? = some b) (he : keyN ks a = keyN ks b) : ¬ ks.Nodup := by
  intro hn
  have hnd : ps.Nodup := hp.nodup_iff.2 List.nodup_range
  obtain ⟨i1, e1⟩ := List.getElem?_eq_some_iff.1 ha
  obtain ⟨i2, e2⟩ := List.getElem?_eq_some_iff.1 hb
  have hne : a ≠ b := by
    have := List.pairwise_iff_getElem.1 hnd i (i + 1) i1 i2 (by omega)
    rwa [e1, e2] at this
  have ha' : a < ks.length := by have := hp.subset (List.mem_of_getElem? ha); simpa using this
  have hb' : b < ks.length := by have := hp.subset (List.mem_of_getElem? hb); simpa using this
  have e3 : ks[a] = ks[b] := by simpa [keyN, List.getD, ha', hb'] using he
  rcases Nat.lt_or_gt_of_ne hne with h | h
  · exact List.pairwise_iff_getElem.1 hn a b ha' hb' h e3
  · exact List.pairwise_iff_getElem.1 hn b a hb' ha' h e3.symm
theorem places_up {ks : List ByteArray} {ps : List Nat} {j p : Nat} (h : ps[j]? = some p) (hu : (ps.take j).Pairwise fun a b => cmpK (keyN ks a) (keyN ks b) < 0) (hp : ∀ q, j = q + 1 → ∀ a, ps[q]? = some a → cmpK (keyN ks a) (keyN ks p) < 0) : (ps.take (j + 1)).Pairwise fun a b => cmpK (keyN ks a) (keyN ks b) < 0 := by
  rw [List.take_add_one, h]
  show (ps.take j ++ [p]).Pairwise _
  rw [List.pairwise_append]
  refine ⟨hu, by simp, fun a ha b hb => ?_⟩
  simp only [List.mem_cons, List.not_mem_nil, or_false] at hb
  subst hb
  cases j with
  | zero => simp at ha
  | succ q =>
    obtain ⟨hq, _⟩ := List.getElem?_eq_some_iff.1 h
    have hl := hp q rfl ps[q] (List.getElem?_eq_getElem (by omega))
    obtain ⟨i, hi⟩ := List.mem_iff_getElem?.1 ha
    obtain ⟨hi1, hi2⟩ := List.getElem?_eq_some_iff.1 hi
    simp only [List.length_take] at hi1
    by_cases e : i = q
    · subst e
      rw [List.getElem_take] at hi2
      rw [← hi2]; exact hl
    · have hlq : q < (ps.take (q + 1)).length := by simp; omega
      have := List.pairwise_iff_getElem.1 hu i q (by simp; omega) hlq (by omega)
      rw [hi2, List.getElem_take] at this
      exact cmpK_lt this hl
/-- Copies in a row, apart from some blocks. -/
def Cops (A : Nat) (S : Nat → Prop) (w : World) (xs : List Value) (us : List Tree) : Prop := ∃ es : List Ent, xs = es.flatMap Ent.cells ∧ es.map Ent.t = us ∧ ∀ e ∈ es, LiesF e.lo e.hi w e.val e.t ∧ A ≤ e.lo ∧ e.hi ≤ w.heap.size ∧ ∀ q, S q → q < e.lo ∨ e.hi ≤ q
theorem Cops.start (A : Nat) (S : Nat → Prop) (w : World) : Cops A S w [] [] := ⟨[], rfl, rfl, fun e h => by simp at h⟩
theorem Cops.step {A : Nat} {S S' : Nat → Prop} {w w' : World} {xs : List Value} {us : List Tree} (h : Cops A S w xs us) (hk : ∀ b, A ≤ b → b < w.heap.size → ¬ S b → w'.heap[b]? = w.heap[b]?) (hs : w.heap.size ≤ w'.heap.size) (hS : ∀ q, S' q → S q ∨ w.heap.size ≤ q) : Cops A S' w' xs us := by
  obtain ⟨es, h1, h2, h3⟩ := h
  refine ⟨es, h1, h2, fun e he => ?_⟩
  obtain ⟨g1, g2, g3, g4⟩ := h3 e he
  refine ⟨g1.keep (keepsF_of fun b b1 b2 => hk b (by omega) (by omega) fun hb => ?_), g2, by omega, fun q hq => ?_⟩
  · have := g4 b hb; omega
  · rcases hS q hq with h | h
    · exact g4 q h
    · exact .inr (by omega)
theorem Cops.snoc {A lo hi : Nat} {S : Nat → Prop} {w : World} {xs : List Value} {us : List Tree} {c0 c1 c2 c3 c4 c5 : Value} {t : Tree} (h : Cops A S w xs us) (hl : LiesF lo hi w (.agg #[c0, c1, c2, c3, c4, c5]) t) (h1 : A ≤ lo) (h2 : hi ≤ w.heap.size) (h3 : ∀ q, S q → q < lo ∨ hi ≤ q) : Cops A S w (xs ++ [c0, c1, c2, c3, c4, c5]) (us ++ [t]) := by
  obtain ⟨es, rfl, rfl, g⟩ := h
  refine ⟨es ++ [⟨c0, c1, c2, c3, c4, c5, t, lo, hi⟩], by rw [List.flatMap_append]; rfl, by rw [List.map_append]; rfl, fun e he => ?_⟩
  rcases List.mem_append.1 he with m | m
  · exact g e m
  · simp only [List.mem_cons, List.not_mem_nil, or_false] at m
    subst m
    exact ⟨hl, h1, h2, h3⟩
theorem Cops.kids {A B g : Nat} {S : Nat → Prop} {w : World} : ∀ {es : List Ent} {off : Nat}, (∀ e ∈ es, LiesF e.lo e.hi w e.val e.t ∧ A ≤ e.lo ∧ e.hi ≤ w.heap.size ∧ ∀ q, S q → q < e.lo ∨ e.hi ≤ q) → w.heap.size ≤ B → (∀ i u, (es.flatMap Ent.cells)[i]? = some u → w.cell? ⟨g, off + i, none⟩ = some u) → (∀ i, i < es.length * 6 → w.frozen? ⟨g, off + i, none⟩ = false) → KidsF A B w g off (es.map Ent.t)
  | [], off, _, _, _, _ => by simp only [List.map_nil, KidsF]
  | e :: r, off, h, hB, hc, hf => by
    simp only [List.map_cons, KidsF]
    obtain ⟨g1, g2, g3, g4⟩ := h e (List.mem_cons_self ..)
    refine ⟨⟨e.c0, e.c1, e.c2, e.c3, e.c4, e.c5, ⟨?_, hc 1 _ rfl, hc 2 _ rfl, hc 3 _ rfl, hc 4 _ rfl, hc 5 _ rfl⟩, ?_, g1.mono g2 (by omega)⟩, Cops.kids (fun x hx => h x (List.mem_cons_of_mem _ hx)) hB (fun i u hu => ?_) (fun i hi => ?_)⟩
    · have := hc 0 _ rfl; simpa using this
    · have := hf 0 (by simp); simpa using this
    · have := hc (i + 6) u (by rw [List.flatMap_cons, List.getElem?_append_right (by simp [Ent.cells])]; simpa [Ent.cells] using hu)
      rwa [show off + (i + 6) = off + 6 + i by omega] at this
    · have := hf (i + 6) (by simp; omega)
      rwa [show off + (i + 6) = off + 6 + i by omega] at this
theorem owns_frozen {base e size n g m cap : Nat} {w : World} {xs : List Value} (h : w.ownsRow base e size (.slice (some ⟨g, 0, none⟩) m cap) n xs) (o : Nat) : w.frozen? ⟨g, o, none⟩ = false := by
  rcases h.2 with ⟨h, _⟩ | ⟨g', cap', cur, h, _, hh, _⟩
  · cases h
  · simp only [Value.slice.injEq, Option.some.injEq, Addr.mk.injEq] at h
    obtain ⟨⟨rfl, _⟩, _⟩ := h
    unfold World.frozen?
    simp [hh]
theorem row_any {w : World} {base e size n : Nat} {o : Value} {xs : List Value} (h : w.ownsRow base e size o n xs) : ∃ ad cap, o = .slice ad n cap ∧ (0 < n → ∃ g, ad = some ⟨g, 0, none⟩) := by
  rcases h.2 with ⟨rfl, h0⟩ | ⟨g, cap, cur, rfl, _⟩
  · exact ⟨none, 0, by rw [h0], fun h' => by omega⟩
  · exact ⟨some ⟨g, 0, none⟩, cap, rfl, fun _ => ⟨g, rfl⟩⟩
end Go.Proofs.YtbpmhgcjefpigaaGreatDoor
