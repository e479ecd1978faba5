/- A copy lies in memory of its own: what is said of it, and small things about blocks. -/
import Derived.Test.YteddjlbfbpecjaaGreatDoorJoin14
import Derived.Test.YteddjlbfbpecjaaGreatDoorJoin15
import Derived.Laws.IdiomCopy
import Derived.Laws.MakeOwn
namespace Go.Proofs.YteddjlbfbpecjaaGreatDoor
open Go.RowKit Go.Shelf
set_option linter.unusedVariables false

/-- Texts in a row, in blocks from lo up to B. -/
def KeysR (lo B : Nat) (w : World) (ad : Option Addr) (ks : List ByteArray) : Prop :=
  ks = [] ∨ ∃ b off, ad = some ⟨b, off, none⟩ ∧ lo ≤ b ∧ b < B ∧ ∀ i, i < ks.length → w.cell? ⟨b, off + i, none⟩ = some (.string (ks.getD i ⟨#[]⟩)) ∧ (ks.getD i ⟨#[]⟩).size ≤ maxLen
mutual
/-- A value, what is in it in blocks from lo up to B. -/
def LiesR (lo B : Nat) (w : World) : Value → Tree → Prop
  | v, .mk k b n s ks ts => ∃ ka kc la lc, v = .agg #[.int .i64 k, .bool b, .int .i64 n, .string s, .slice ka ks.length kc, .slice la ts.length lc] ∧
      (s.size ≤ maxLen ∧ ks.length ≤ kc ∧ kc ≤ maxLen ∧ ts.length ≤ lc ∧ lc ≤ maxLen) ∧ KeysR lo B w ka ks ∧ (ts = [] ∨ ∃ bl off, la = some ⟨bl, off, none⟩ ∧ lo ≤ bl ∧ bl < B ∧ KidsR lo B w bl off ts)
def KidsR (lo B : Nat) (w : World) (bl : Nat) : Nat → List Tree → Prop
  | _, [] => True
  | off, t :: ts => (∃ v0 v1 v2 v3 v4 v5, (w.cell? ⟨bl, off, none⟩ = some v0 ∧ w.cell? ⟨bl, off + 1, none⟩ = some v1 ∧ w.cell? ⟨bl, off + 2, none⟩ = some v2 ∧ w.cell? ⟨bl, off + 3, none⟩ = some v3 ∧
      w.cell? ⟨bl, off + 4, none⟩ = some v4 ∧ w.cell? ⟨bl, off + 5, none⟩ = some v5) ∧ LiesR lo B w (.agg #[v0, v1, v2, v3, v4, v5]) t) ∧ KidsR lo B w bl (off + 6) ts
end
def ListR (lo B : Nat) (w : World) (la : Option Addr) (ts : List Tree) : Prop := ts = [] ∨ ∃ bl off, la = some ⟨bl, off, none⟩ ∧ lo ≤ bl ∧ bl < B ∧ KidsR lo B w bl off ts

theorem KeysR.lie {lo B : Nat} {w : World} {ad : Option Addr} {ks : List ByteArray} (h : KeysR lo B w ad ks) : KeysLie B w ad ks :=
  h.imp id fun ⟨b, off, h1, _, h2, h3⟩ => ⟨b, off, h1, h2, h3⟩
mutual
theorem LiesR.lie {lo B : Nat} {w : World} : ∀ {v : Value} {T : Tree}, LiesR lo B w v T → Lies B w v T
  | v, .mk k b n s ks ts, h => by
    simp only [LiesR] at h
    obtain ⟨ka, kc, la, lc, hv, hs, hk, ht⟩ := h
    simp only [Lies]
    exact ⟨ka, kc, la, lc, hv, hs, hk.lie, ht.imp id fun ⟨bl, off, h1, _, h2, h3⟩ => ⟨bl, off, h1, h2, KidsR.lie h3⟩⟩
theorem KidsR.lie {lo B : Nat} {w : World} {bl : Nat} : ∀ {off : Nat} {ts : List Tree}, KidsR lo B w bl off ts → KidsLie B w bl off ts
  | off, [], _ => by simp only [KidsLie]
  | off, t :: ts, h => by
    simp only [KidsR] at h
    obtain ⟨⟨v0, v1, v2, v3, v4, v5, hc, hv⟩, hr⟩ := h
    simp only [KidsLie]
    exact ⟨⟨v0, v1, v2, v3, v4, v5, hc, LiesR.lie hv⟩, KidsR.lie hr⟩
end
theorem ListR.lie {lo B : Nat} {w : World} {la : Option Addr} {ts : List Tree} (h : ListR lo B w la ts) : ListLies B w la ts :=
  h.imp id fun ⟨bl, off, h1, _, h2, h3⟩ => ⟨bl, off, h1, h2, h3.lie⟩

/-- The cells of the blocks from lo up to B are as they were. -/
def Keeps (lo B : Nat) (w w' : World) : Prop := ∀ b o, lo ≤ b → b < B → w'.cell? ⟨b, o, none⟩ = w.cell? ⟨b, o, none⟩
theorem KeysR.keep {lo B : Nat} {w w' : World} (hk : Keeps lo B w w') {ad : Option Addr} {ks : List ByteArray} (h : KeysR lo B w ad ks) : KeysR lo B w' ad ks :=
  h.imp id fun ⟨b, off, h1, h2, h3, h4⟩ => ⟨b, off, h1, h2, h3, fun i hi => ⟨(hk b _ h2 h3).trans (h4 i hi).1, (h4 i hi).2⟩⟩
mutual
theorem LiesR.keep {lo B : Nat} {w w' : World} (hk : Keeps lo B w w') : ∀ {v : Value} {T : Tree}, LiesR lo B w v T → LiesR lo B w' v T
  | v, .mk k b n s ks ts, h => by
    simp only [LiesR] at h ⊢
    obtain ⟨ka, kc, la, lc, hv, hs, hks, ht⟩ := h
    exact ⟨ka, kc, la, lc, hv, hs, hks.keep hk, ht.imp id fun ⟨bl, off, h1, h2, h3, h4⟩ => ⟨bl, off, h1, h2, h3, KidsR.keep hk h2 h3 h4⟩⟩
theorem KidsR.keep {lo B : Nat} {w w' : World} (hk : Keeps lo B w w') {bl : Nat} (h1 : lo ≤ bl) (h2 : bl < B) : ∀ {off : Nat} {ts : List Tree}, KidsR lo B w bl off ts → KidsR lo B w' bl off ts
  | off, [], _ => by simp only [KidsR]
  | off, t :: ts, h => by
    simp only [KidsR] at h ⊢
    obtain ⟨⟨v0, v1, v2, v3, v4, v5, ⟨c0, c1, c2, c3, c4, c5⟩, hv⟩, hr⟩ := h
    exact ⟨⟨v0, v1, v2, v3, v4, v5, ⟨(hk bl _ h1 h2).trans c0, (hk bl _ h1 h2).trans c1, (hk bl _ h1 h2).trans c2, (hk bl _ h1 h2).trans c3, (hk bl _ h1 h2).trans c4, (hk bl _ h1 h2).trans c5⟩, LiesR.keep hk hv⟩, KidsR.keep hk h1 h2 hr⟩
end
theorem KeysR.mono {lo lo' B B' : Nat} {w : World} (h1 : lo' ≤ lo) (h2 : B ≤ B') {ad : Option Addr} {ks : List ByteArray} (h : KeysR lo B w ad ks) : KeysR lo' B' w ad ks :=
  h.imp id fun ⟨b, off, g1, g2, g3, g4⟩ => ⟨b, off, g1, Nat.le_trans h1 g2, Nat.lt_of_lt_of_le g3 h2, g4⟩
mutual
theorem LiesR.mono {lo lo' B B' : Nat} {w : World} (h1 : lo' ≤ lo) (h2 : B ≤ B') : ∀ {v : Value} {T : Tree}, LiesR lo B w v T → LiesR lo' B' w v T
  | v, .mk k b n s ks ts, h => by
    simp only [LiesR] at h ⊢
    obtain ⟨ka, kc, la, lc, hv, hs, hks, ht⟩ := h
    exact ⟨ka, kc, la, lc, hv, hs, hks.mono h1 h2, ht.imp id fun ⟨bl, off, g1, g2, g3, g4⟩ => ⟨bl, off, g1, Nat.le_trans h1 g2, Nat.lt_of_lt_of_le g3 h2, KidsR.mono h1 h2 g4⟩⟩
theorem KidsR.mono {lo lo' B B' : Nat} {w : World} (h1 : lo' ≤ lo) (h2 : B ≤ B') {bl : Nat} : ∀ {off : Nat} {ts : List Tree}, KidsR lo B w bl off ts → KidsR lo' B' w bl off ts
  | off, [], _ => by simp only [KidsR]
  | off, t :: ts, h => by
    simp only [KidsR] at h ⊢
    obtain ⟨⟨v0, v1, v2, v3, v4, v5, hc, hv⟩, hr⟩ := h
    exact ⟨⟨v0, v1, v2, v3, v4, v5, hc, LiesR.mono h1 h2 hv⟩, KidsR.mono h1 h2 hr⟩
end
theorem ListR.mono {lo lo' B B' : Nat} {w : World} (h1 : lo' ≤ lo) (h2 : B ≤ B') {la : Option Addr} {ts : List Tree} (h : ListR lo B w la ts) : ListR lo' B' w la ts :=
  h.imp id fun ⟨bl, off, g1, g2, g3, g4⟩ => ⟨bl, off, g1, Nat.le_trans h1 g2, Nat.lt_of_lt_of_le g3 h2, g4.mono h1 h2⟩
theorem ListR.keep {lo B : Nat} {w w' : World} (hk : Keeps lo B w w') {la : Option Addr} {ts : List Tree} (h : ListR lo B w la ts) : ListR lo B w' la ts :=
  h.imp id fun ⟨bl, off, h1, h2, h3, h4⟩ => ⟨bl, off, h1, h2, h3, h4.keep hk h2 h3⟩
theorem keeps_below {lo B : Nat} {w w' : World} (hb : Below w.heap.size w w') (h : B ≤ w.heap.size) : Keeps lo B w w' := fun b o _ h2 => hb.cell (p := ⟨b, o, none⟩) (Nat.lt_of_lt_of_le h2 h)

/-- Values one by one: the cells at their places, and each lies. -/
theorem kidsR_of {lo B bl : Nat} {w : World} : ∀ (l : List Tree) (off : Nat), (∀ (i : Nat) (t : Tree), l[i]? = some t → ∃ v0 v1 v2 v3 v4 v5, (w.cell? ⟨bl, off + i * 6, none⟩ = some v0 ∧ w.cell? ⟨bl, off + i * 6 + 1, none⟩ = some v1 ∧ w.cell? ⟨bl, off + i * 6 + 2, none⟩ = some v2 ∧ w.cell? ⟨bl, off + i * 6 + 3, none⟩ = some v3 ∧
      w.cell? ⟨bl, off + i * 6 + 4, none⟩ = some v4 ∧ w.cell? ⟨bl, off + i * 6 + 5, none⟩ = some v5) ∧ LiesR lo B w (.agg #[v0, v1, v2, v3, v4, v5]) t) → KidsR lo B w bl off l
  | [], off, h => by simp only [KidsR]
  | t :: l, off, h => by
    rw [KidsR]
    refine ⟨?_, kidsR_of l (off + 6) fun i u hu => ?_⟩
    · have := h 0 t rfl
      simpa using this
    · have := h (i + 1) u (by simpa using hu)
      have e : off + (i + 1) * 6 = off + 6 + i * 6 := by omega
      rwa [e] at this
theorem KidsR.at {lo B : Nat} {w : World} {bl : Nat} : ∀ {ts : List Tree} {off : Nat}, KidsR lo B w bl off ts → ∀ {i : Nat} {t : Tree}, ts[i]? = some t →
    ∃ v0 v1 v2 v3 v4 v5, (w.cell? ⟨bl, off + i * 6, none⟩ = some v0 ∧ w.cell? ⟨bl, off + i * 6 + 1, none⟩ = some v1 ∧ w.cell? ⟨bl, off + i * 6 + 2, none⟩ = some v2 ∧ w.cell? ⟨bl, off + i * 6 + 3, none⟩ = some v3 ∧
      w.cell? ⟨bl, off + i * 6 + 4, none⟩ = some v4 ∧ w.cell? ⟨bl, off + i * 6 + 5, none⟩ = some v5) ∧ LiesR lo B w (.agg #[v0, v1, v2, v3, v4, v5]) t
  | t :: ts, off, h, 0, u, hu => by
    simp only [KidsR] at h
    simp only [List.getElem?_cons_zero, Option.some.injEq] at hu
    subst hu
    simpa using h.1
  | t :: ts, off, h, i + 1, u, hu => by
    simp only [KidsR] at h
    have := KidsR.at h.2 (i := i) (by simpa using hu)
    have e : off + (i + 1) * 6 = off + 6 + i * 6 := by omega
    rwa [e]

/-- Six cells are written: the others stay. -/
def six (w : World) (b o : Nat) (v0 v1 v2 v3 v4 v5 : Value) : World := w.setCells b o [v0, v1, v2, v3, v4, v5]
theorem six_out {w : World} {b o : Nat} {v0 v1 v2 v3 v4 v5 : Value} {b' o' : Nat} (h : b' = b → o' < o ∨ o + 6 ≤ o') : (six w b o v0 v1 v2 v3 v4 v5).cell? ⟨b', o', none⟩ = w.cell? ⟨b', o', none⟩ :=
  World.cell?_setCells_out b _ o w ⟨b', o', none⟩ (fun h1 _ => by have := h h1; simpa using this)
theorem six_in {w : World} {b o : Nat} {v0 v1 v2 v3 v4 v5 : Value} (h : ∀ j, j < 6 → (w.cell? ⟨b, o + j, none⟩).isSome = true) :
    (six w b o v0 v1 v2 v3 v4 v5).cell? ⟨b, o, none⟩ = some v0 ∧ (six w b o v0 v1 v2 v3 v4 v5).cell? ⟨b, o + 1, none⟩ = some v1 ∧ (six w b o v0 v1 v2 v3 v4 v5).cell? ⟨b, o + 2, none⟩ = some v2 ∧ (six w b o v0 v1 v2 v3 v4 v5).cell? ⟨b, o + 3, none⟩ = some v3 ∧
      (six w b o v0 v1 v2 v3 v4 v5).cell? ⟨b, o + 4, none⟩ = some v4 ∧ (six w b o v0 v1 v2 v3 v4 v5).cell? ⟨b, o + 5, none⟩ = some v5 := by
  have key := World.cell?_setCells_in b [v0, v1, v2, v3, v4, v5] o w (by simpa using h)
  exact ⟨key 0 (by simp), key 1 (by simp), key 2 (by simp), key 3 (by simp), key 4 (by simp), key 5 (by simp)⟩
theorem six_below {B : Nat} {w w1 : World} (h : Below B w w1) {b o : Nat} (hb : B ≤ b) (v0 v1 v2 v3 v4 v5 : Value) : Below B w (six w1 b o v0 v1 v2 v3 v4 v5) :=
  (((((h.setCell (p := ⟨b, o, none⟩) hb v0).setCell (p := ⟨b, o + 1, none⟩) hb v1).setCell (p := ⟨b, o + 1 + 1, none⟩) hb v2).setCell (p := ⟨b, o + 1 + 1 + 1, none⟩) hb v3).setCell (p := ⟨b, o + 1 + 1 + 1 + 1, none⟩) hb v4).setCell (p := ⟨b, o + 1 + 1 + 1 + 1 + 1, none⟩) hb v5
theorem six_size {w : World} {b o : Nat} {v0 v1 v2 v3 v4 v5 : Value} : (six w b o v0 v1 v2 v3 v4 v5).heap.size = w.heap.size := by simp [six, World.setCells]
end Go.Proofs.YteddjlbfbpecjaaGreatDoor
