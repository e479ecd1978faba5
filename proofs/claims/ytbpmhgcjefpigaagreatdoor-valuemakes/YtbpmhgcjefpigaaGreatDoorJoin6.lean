/- A copy lies in memory of its own: what is said of it, and small things about blocks. How great a value is, as far as some. -/
import Derived.Test.YtbpmhgcjefpigaaGreatDoorJoin5
import Derived.Laws.IdiomCopy
import Derived.Laws.MakeOwn
namespace Go.Proofs.YtbpmhgcjefpigaaGreatDoor
open Go.RowKit Go.Shelf
set_option linter.unusedVariables false
/-- Texts in a row, in blocks from lo up to B. -/
def KeysR (lo B : Nat) (w : World) (ad : Option Addr) (ks : List ByteArray) : Prop :=
  ks = [] ∨ ∃ b off, ad = some ⟨b, off, none⟩ ∧ lo ≤ b ∧ b < B ∧ ∀ i, i < ks.length → w.cell? ⟨b, off + i, none⟩ = some (.string (ks.getD i ⟨#[]⟩)) ∧ (ks.getD i ⟨#[]⟩).size ≤ maxLen
mutual
/-- A value, what is in it in blocks from lo up to B. -/
def LiesR (lo B : Nat) (w : World) : Value → Tree → Prop
  | v, .mk k b n s ks ts => ∃ ka kc la lc, v = .agg #[.int .i64 k, .bool b, .int .i64 n, .string s, .slice ka ks.length kc, .slice la ts.length lc] ∧
      (s.size ≤ maxLen ∧ ks.length ≤ kc ∧ kc ≤ maxLen ∧ ts.length ≤ lc ∧ lc ≤ maxLen) ∧ KeysR lo B w ka ks ∧ (ts = [] ∨ ∃ bl off, la = some ⟨bl, off, none⟩ ∧ lo ≤ bl ∧ bl < B ∧ KidsR lo B w bl off ts)
def KidsR (lo B : Nat) (w : World) (bl : Nat) : Nat → List Tree → Prop
  | _, [] => True
  | off, t :: ts => (∃ v0 v1 v2 v3 v4 v5, (w.cell? ⟨bl, off, none⟩ = some v0 ∧ w.cell? ⟨bl, off + 1, none⟩ = some v1 ∧ w.cell? ⟨bl, off + 2, none⟩ = some v2 ∧ w.cell? ⟨bl, off + 3, none⟩ = some v3 ∧
      w.cell? ⟨bl, off + 4, none⟩ = some v4 ∧ w.cell? ⟨bl, off + 5, none⟩ = some v5) ∧ LiesR lo B w (.agg #[v0, v1, v2, v3, v4, v5]) t) ∧ KidsR lo B w bl (off + 6) ts
end
def ListR (lo B : Nat) (w : World) (la : Option Addr) (ts : List Tree) : Prop := ts = [] ∨ ∃ bl off, la = some ⟨bl, off, none⟩ ∧ lo ≤ bl ∧ bl < B ∧ KidsR lo B w bl off ts
theorem KeysR.lie {lo B : Nat} {w : World} {ad : Option Addr} {ks : List ByteArray} (h : KeysR lo B w ad ks) : KeysLie B w ad ks :=
  h.imp id fun ⟨b, off, h1, _, h2, h3⟩ => ⟨b, off, h1, h2, h3⟩
mutual
theorem LiesR.lie {lo B : Nat} {w : World} : ∀ {v : Value} {T : Tree}, LiesR lo B w v T → Lies B w v T
  | v, .mk k b n s ks ts, h => by
    simp only [LiesR] at h
    obtain ⟨ka, kc, la, lc, hv, hs, hk, ht⟩ := h
    simp only [Lies]
    exact ⟨ka, kc, la, lc, hv, hs, hk.lie, ht.imp id fun ⟨bl, off, h1, _, h2, h3⟩ => ⟨bl, off, h1, h2, KidsR.lie h3⟩⟩
theorem KidsR.lie {lo B : Nat} {w : World} {bl : Nat} : ∀ {off : Nat} {ts : List Tree}, KidsR lo B w bl off ts → KidsLie B w bl off ts
  | off, [], _ => by simp only [KidsLie]
  | off, t :: ts, h => by
    simp only [KidsR] at h
    obtain ⟨⟨v0, v1, v2, v3, v4, v5, hc, hv⟩, hr⟩ := h
    simp only [KidsLie]
    exact ⟨⟨v0, v1, v2, v3, v4, v5, hc, LiesR.lie hv⟩, KidsR.lie hr⟩
end
theorem ListR.lie {lo B : Nat} {w : World} {la : Option Addr} {ts : List Tree} (h : ListR lo B w la ts) : ListLies B w la ts :=
  h.imp id fun ⟨bl, off, h1, _, h2, h3⟩ => ⟨bl, off, h1, h2, h3.lie⟩
/-- The cells of the blocks from lo up to B are as they were. -/
def Keeps (lo B : Nat) (w w' : World) : Prop := ∀ b o, lo ≤ b → b < B → w'.cell? ⟨b, o, none⟩ = w.cell? ⟨b, o, none⟩
theorem KeysR.keep {lo B : Nat} {w w' : World} (hk : Keeps lo B w w') {ad : Option Addr} {ks : List ByteArray} (h : KeysR lo B w ad ks) : KeysR lo B w' ad ks :=
  h.imp id fun ⟨b, off, h1, h2, h3, h4⟩ => ⟨b, off, h1, h2, h3, fun i hi => ⟨(hk b _ h2 h3).trans (h4 i hi).1, (h4 i hi).2⟩⟩
mutual
theorem LiesR.keep {lo B : Nat} {w w' : World} (hk : Keeps lo B w w') : ∀ {v : Value} {T : Tree}, LiesR lo B w v T → LiesR lo B w' v T
  | v, .mk k b n s ks ts, h => by
    simp only [LiesR] at h ⊢
    obtain ⟨ka, kc, la, lc, hv, hs, hks, ht⟩ := h
    exact ⟨ka, kc, la, lc, hv, hs, hks.keep hk, ht.imp id fun ⟨bl, off, h1, h2, h3, h4⟩ => ⟨bl, off, h1, h2, h3, KidsR.keep hk h2 h3 h4⟩⟩
theorem KidsR.keep {lo B : Nat} {w w' : World} (hk : Keeps lo B w w') {bl : Nat} (h1 : lo ≤ bl) (h2 : bl < B) : ∀ {off : Nat} {ts : List Tree}, KidsR lo B w bl off ts → KidsR lo B w' bl off ts
  | off, [], _ => by simp only [KidsR]
  | off, t :: ts, h => by
    simp only [KidsR] at h ⊢
    obtain ⟨⟨v0, v1, v2, v3, v4, v5, ⟨c0, c1, c2, c3, c4, c5⟩, hv⟩, hr⟩ := h
    exact ⟨⟨v0, v1, v2, v3, v4, v5, ⟨(hk bl _ h1 h2).trans c0, (hk bl _ h1 h2).trans c1, (hk bl _ h1 h2).trans c2, (hk bl _ h1 h2).trans c3, (hk bl _ h1 h2).trans c4, (hk bl _ h1 h2).trans c5⟩, LiesR.keep hk hv⟩, KidsR.keep hk h1 h2 hr⟩
end
theorem KeysR.mono {lo lo' B B' : Nat} {w : World} (h1 : lo' ≤ lo) (h2 : B ≤ B') {ad : Option Addr} {ks : List ByteArray} (h : KeysR lo B w ad ks) : KeysR lo' B' w ad ks :=
  h.imp id fun ⟨b, off, g1, g2, g3, g4⟩ => ⟨b, off, g1, Nat.le_trans h1 g2, Nat.lt_of_lt_of_le g3 h2, g4⟩
mutual
theorem LiesR.mono {lo lo' B B' : Nat} {w : World} (h1 : lo' ≤ lo) (h2 : B ≤ B') : ∀ {v : Value} {T : Tree}, LiesR lo B w v T → LiesR lo' B' w v T
  | v, .mk k b n s ks ts, h => by
    simp only [LiesR] at h ⊢
    obtain ⟨ka, kc, la, lc, hv, hs, hks, ht⟩ := h
    exact ⟨ka, kc, la, lc, hv, hs, hks.mono h1 h2, ht.imp id fun ⟨bl, off, g1, g2, g3, g4⟩ => ⟨bl, off, g1, Nat.le_trans h1 g2, Nat.lt_of_lt_of_le g3 h2, KidsR.mono h1 h2 g4⟩⟩
theorem KidsR.mono {lo lo' B B' : Nat} {w : World} (h1 : lo' ≤ lo) (h2 : B ≤ B') {bl : Nat} : ∀ {off : Nat} {ts : List Tree}, KidsR lo B w bl off ts → KidsR lo' B' w bl off ts
  | off, [], _ => by simp only [KidsR]
  | off, t :: ts, h => by
    simp only [KidsR] at h ⊢
    obtain ⟨⟨v0, v1, v2, v3, v4, v5, hc, hv⟩, hr⟩ := h
    exact ⟨⟨v0, v1, v2, v3, v4, v5, hc, LiesR.mono h1 h2 hv⟩, KidsR.mono h1 h2 hr⟩
end
theorem ListR.mono {lo lo' B B' : Nat} {w : World} (h1 : lo' ≤ lo) (h2 : B ≤ B') {la : Option Addr} {ts : List Tree} (h : ListR lo B w la ts) : ListR lo' B' w la ts :=
  h.imp id fun ⟨bl, off, g1, g2, g3, g4⟩ => ⟨bl, off, g1, Nat.le_trans h1 g2, Nat.lt_of_lt_of_le g3 h2, g4.mono h1 h2⟩
theorem ListR.keep {lo B : Nat} {w w' : World} (hk : Keeps lo B w w') {la : Option Addr} {ts : List Tree} (h : ListR lo B w la ts) : ListR lo B w' la ts :=
  h.imp id fun ⟨bl, off, h1, h2, h3, h4⟩ => ⟨bl, off, h1, h2, h3, h4.keep hk h2 h3⟩
theorem keeps_below {lo B : Nat} {w w' : World} (hb : Below w.heap.size w w') (h : B ≤ w.heap.size) : Keeps lo B w w' := fun b o _ h2 => hb.cell (p := ⟨b, o, none⟩) (Nat.lt_of_lt_of_le h2 h)
/-- Values one by one: the cells at their places, and each lies. -/
theorem kidsR_of {lo B bl : Nat} {w : World} : ∀ (l : List Tree) (off : Nat), (∀ (i : Nat) (t : Tree), l[i]? = some t → ∃ v0 v1 v2 v3 v4 v5, (w.cell? ⟨bl, off + i * 6, none⟩ = some v0 ∧ w.cell? ⟨bl, off + i * 6 + 1, none⟩ = some v1 ∧ w.cell? ⟨bl, off + i * 6 + 2, none⟩ = some v2 ∧ w.cell? ⟨bl, off + i * 6 + 3, none⟩ = some v3 ∧
      w.cell? ⟨bl, off + i * 6 + 4, none⟩ = some v4 ∧ w.cell? ⟨bl, off + i * 6 + 5, none⟩ = some v5) ∧ LiesR lo B w (.agg #[v0, v1, v2, v3, v4, v5]) t) → KidsR lo B w bl off l
  | [], off, h => by simp only [KidsR]
  | t :: l, off, h => by
    rw [KidsR]
    refine ⟨?_, kidsR_of l (off + 6) fun i u hu => ?_⟩
    · have := h 0 t rfl
      simpa using this
    · have := h (i + 1) u (by simpa using hu)
      have e : off + (i + 1) * 6 = off + 6 + i * 6 := by omega
      rwa [e] at this
theorem KidsR.at {lo B : Nat} {w : World} {bl : Nat} : ∀ {ts : List Tree} {off : Nat}, KidsR lo B w bl off ts → ∀ {i : Nat} {t : Tree}, ts[i]? = some t →
    ∃ v0 v1 v2 v3 v4 v5, (w.cell? ⟨bl, off + i * 6, none⟩ = some v0 ∧ w.cell? ⟨bl, off + i * 6 + 1, none⟩ = some v1 ∧ w.cell? ⟨bl, off + i * 6 + 2, none⟩ = some v2 ∧ w.cell? ⟨bl, off + i * 6 + 3, none⟩ = some v3 ∧
      w.cell? ⟨bl, off + i * 6 + 4, none⟩ = some v4 ∧ w.cell? ⟨bl, off + i * 6 + 5, none⟩ = some v5) ∧ LiesR lo B w (.agg #[v0, v1, v2, v3, v4, v5]) t
  | t :: ts, off, h, 0, u, hu => by
    simp only [KidsR] at h
    simp only [List.getElem?_cons_zero, Option.some.injEq] at hu
    subst hu
    simpa using h.1
  | t :: ts, off, h, i + 1, u, hu => by
    simp only [KidsR] at h
    have := KidsR.at h.2 (i := i) (by simpa using hu)
    have e : off + (i + 1) * 6 = off + 6 + i * 6 := by omega
    rwa [e]
/-- Six cells are written: the others stay. -/
def six (w : World) (b o : Nat) (v0 v1 v2 v3 v4 v5 : Value) : World := w.setCells b o [v0, v1, v2, v3, v4, v5]
theorem six_out {w : World} {b o : Nat} {v0 v1 v2 v3 v4 v5 : Value} {b' o' : Nat} (h : b' = b → o' < o ∨ o + 6 ≤ o') : (six w b o v0 v1 v2 v3 v4 v5).cell? ⟨b', o', none⟩ = w.cell? ⟨b', o', none⟩ :=
  World.cell?_setCells_out b _ o w ⟨b', o', none⟩ (fun h1 _ => by have := h h1; simpa using this)
theorem six_in {w : World} {b o : Nat} {v0 v1 v2 v3 v4 v5 : Value} (h : ∀ j, j < 6 → (w.cell? ⟨b, o + j, none⟩).isSome = true) :
    (six w b o v0 v1 v2 v3 v4 v5).cell? ⟨b, o, none⟩ = some v0 ∧ (six w b o v0 v1 v2 v3 v4 v5).cell? ⟨b, o + 1, none⟩ = some v1 ∧ (six w b o v0 v1 v2 v3 v4 v5).cell? ⟨b, o + 2, none⟩ = some v2 ∧ (six w b o v0 v1 v2 v3 v4 v5).cell? ⟨b, o + 3, none⟩ = some v3 ∧
      (six w b o v0 v1 v2 v3 v4 v5).cell? ⟨b, o + 4, none⟩ = some v4 ∧ (six w b o v0 v1 v2 v3 v4 v5).cell? ⟨b, o + 5, none⟩ = some v5 := by
  have key := World.cell?_setCells_in b [v0, v1, v2, v3, v4, v5] o w (by simpa using h)
  exact ⟨key 0 (by simp), key 1 (by simp), key 2 (by simp), key 3 (by simp), key 4 (by simp), key 5 (by simp)⟩
theorem six_below {B : Nat} {w w1 : World} (h : Below B w w1) {b o : Nat} (hb : B ≤ b) (v0 v1 v2 v3 v4 v5 : Value) : Below B w (six w1 b o v0 v1 v2 v3 v4 v5) :=
  (((((h.setCell (p := ⟨b, o, none⟩) hb v0).setCell (p := ⟨b, o + 1, none⟩) hb v1).setCell (p := ⟨b, o + 1 + 1, none⟩) hb v2).setCell (p := ⟨b, o + 1 + 1 + 1, none⟩) hb v3).setCell (p := ⟨b, o + 1 + 1 + 1 + 1, none⟩) hb v4).setCell (p := ⟨b, o + 1 + 1 + 1 + 1 + 1, none⟩) hb v5
theorem six_size {w : World} {b o : Nat} {v0 v1 v2 v3 v4 v5 : Value} : (six w b o v0 v1 v2 v3 v4 v5).heap.size = w.heap.size := by simp [six, World.setCells]
end Go.Proofs.YtbpmhgcjefpigaaGreatDoor

namespace Go.Proofs.YtbpmhgcjefpigaaGreatDoor
open Go.RowKit Go.Shelf
set_option linter.unusedVariables false
mutual
/-- No text and no list is longer than any machine has room for. -/
def Sane : Tree → Prop
  | .mk k b n s ks ts => s.size ≤ 140737488355328 ∧ ks.length ≤ 140737488355328 ∧ ts.length ≤ 140737488355328 ∧ (∀ x ∈ ks, x.size ≤ 140737488355328) ∧ SaneL ts
def SaneL : List Tree → Prop
  | [] => True
  | t :: ts => Sane t ∧ SaneL ts
end
theorem SaneL.mem : ∀ {ts : List Tree} {t : Tree}, SaneL ts → t ∈ ts → Sane t
  | u :: us, t, h, hm => by
    simp only [SaneL] at h
    rcases List.mem_cons.1 hm with rfl | hm
    · exact h.1
    · exact SaneL.mem h.2 hm
def keysTo (left : Int) : Int → List ByteArray → Int
  | n, [] => n
  | n, k :: r => if n ≤ left then keysTo left (n + k.size) r else n
mutual
def smallN : Tree → Int → Int
  | .mk k b n s ks ts, left => kidsTo left (keysTo left (1 + s.size + ks.length) ks) ts
def kidsTo (left : Int) : Int → List Tree → Int
  | n, [] => n
  | n, t :: r => if n ≤ left then kidsTo left (n + smallN t (left - n)) r else n
end
mutual
/-- How many values, keys and bytes there are. -/
def Tree.total : Tree → Int
  | .mk k b n s ks ts => 1 + s.size + ks.length + keyBytes ks + Tree.totalL ts
def Tree.totalL : List Tree → Int
  | [] => 0
  | t :: ts => t.total + Tree.totalL ts
end
theorem keysTo_ge (left : Int) : ∀ (ks : List ByteArray) (n : Int), n ≤ keysTo left n ks
  | [], n => by simp [keysTo]
  | k :: r, n => by
    simp only [keysTo]
    split
    · have := keysTo_ge left r (n + k.size); omega
    · omega
theorem keysTo_eq (left : Int) : ∀ (ks : List ByteArray) (n : Int), keysTo left n ks ≤ left → keysTo left n ks = n + keyBytes ks
  | [], n, _ => by simp [keysTo, keyBytes]
  | k :: r, n, h => by
    simp only [keysTo] at h ⊢
    split at h
    · rename_i hn
      rw [if_pos hn, keysTo_eq left r _ h]
      simp [keyBytes]; omega
    · omega
theorem keysTo_le (left : Int) : ∀ (ks : List ByteArray) (n b : Int), (∀ x ∈ ks, (x.size : Int) ≤ 140737488355328) → n ≤ b → left + 140737488355328 ≤ b → keysTo left n ks ≤ b
  | [], n, b, _, h, _ => by simpa [keysTo] using h
  | k :: r, n, b, hk, h, hb => by
    simp only [keysTo]
    split
    · have := hk k (by simp)
      exact keysTo_le left r _ b (fun x hx => hk x (by simp [hx])) (by omega) hb
    · exact h
mutual
theorem smallN_pos : ∀ (T : Tree) (left : Int), 1 ≤ smallN T left
  | .mk k b n s ks ts, left => by
    simp only [smallN]
    have h1 := keysTo_ge left ks (1 + s.size + ks.length)
    have h2 := kidsTo_ge left ts (keysTo left (1 + s.size + ks.length) ks)
    omega
theorem kidsTo_ge (left : Int) : ∀ (ts : List Tree) (n : Int), n ≤ kidsTo left n ts
  | [], n => by simp [kidsTo]
  | t :: r, n => by
    simp only [kidsTo]
    split
    · have h1 := smallN_pos t (left - n)
      have h2 := kidsTo_ge left r (n + smallN t (left - n))
      omega
    · omega
end
mutual
theorem smallN_eq : ∀ (T : Tree) (left : Int), smallN T left ≤ left → smallN T left = T.total
  | .mk k b n s ks ts, left, h => by
    simp only [smallN, Tree.total] at h ⊢
    have h2 := kidsTo_ge left ts (keysTo left (1 + s.size + ks.length) ks)
    rw [kidsTo_eq left ts _ h, keysTo_eq left ks _ (by omega)]
theorem kidsTo_eq (left : Int) : ∀ (ts : List Tree) (n : Int), kidsTo left n ts ≤ left → kidsTo left n ts = n + Tree.totalL ts
  | [], n, _ => by simp [kidsTo, Tree.totalL]
  | t :: r, n, h => by
    simp only [kidsTo] at h ⊢
    split at h
    · rename_i hn
      have h2 := kidsTo_ge left r (n + smallN t (left - n))
      rw [if_pos hn, kidsTo_eq left r _ h, smallN_eq t (left - n) (by omega)]
      simp only [Tree.totalL]; omega
    · omega
end
mutual
theorem smallN_le : ∀ (T : Tree) (left : Int), Sane T → 0 ≤ left → smallN T left ≤ 281474976710657 + left
  | .mk k b n s ks ts, left, hs, h0 => by
    simp only [Sane] at hs
    obtain ⟨s1, s2, s3, s4, s5⟩ := hs
    simp only [smallN]
    exact kidsTo_le left h0 ts _ s5 (keysTo_le left ks _ (281474976710657 + left) (fun x hx => by have := s4 x hx; omega) (by omega) (by omega))
theorem kidsTo_le (left : Int) (h0 : 0 ≤ left) : ∀ (ts : List Tree) (n : Int), SaneL ts → n ≤ 281474976710657 + left → kidsTo left n ts ≤ 281474976710657 + left
  | [], n, _, h => by simpa only [kidsTo] using h
  | t :: r, n, hs, h => by
    simp only [SaneL] at hs
    simp only [kidsTo]
    split
    · have := smallN_le t (left - n) hs.1 (by omega)
      exact kidsTo_le left h0 r _ hs.2 (by omega)
    · exact h
end
theorem sane_take : ∀ {ts : List Tree}, SaneL ts → ∀ p, SaneL (ts.take p)
  | _, _, 0 => by simp [SaneL]
  | [], _, p + 1 => by simp [SaneL]
  | t :: ts, h, p + 1 => by
    simp only [SaneL, List.take_succ_cons] at h ⊢
    exact ⟨h.1, sane_take h.2 p⟩
theorem keysTo_snoc (left : Int) : ∀ (a : List ByteArray) (n : Int) (x : ByteArray), keysTo left n (a ++ [x]) = if keysTo left n a ≤ left then keysTo left n a + x.size else keysTo left n a
  | [], n, x => by simp only [List.nil_append, keysTo]; rfl
  | k :: r, n, x => by
    simp only [List.cons_append, keysTo]
    split
    · exact keysTo_snoc left r _ x
    · rfl
theorem kidsTo_snoc (left : Int) : ∀ (a : List Tree) (n : Int) (x : Tree), kidsTo left n (a ++ [x]) = if kidsTo left n a ≤ left then kidsTo left n a + smallN x (left - kidsTo left n a) else kidsTo left n a
  | [], n, x => by simp only [List.nil_append, kidsTo]; rfl
  | k :: r, n, x => by
    simp only [List.cons_append, kidsTo]
    split
    · exact kidsTo_snoc left r _ x
    · rfl
theorem keysTo_stop (left : Int) {a : List ByteArray} {n : Int} {j : Nat} (h : ¬ keysTo left n (a.take j) ≤ left) : keysTo left n a = keysTo left n (a.take j) := by
  have : ∀ (b r : List ByteArray) (n : Int), ¬ keysTo left n b ≤ left → keysTo left n (b ++ r) = keysTo left n b := by
    intro b
    induction b with
    | nil => intro r n h; cases r with
      | nil => rfl
      | cons x r => simp only [keysTo] at h; simp [keysTo, h]
    | cons k b ih =>
      intro r n h
      simp only [List.cons_append, keysTo] at h ⊢
      split at h
      · rename_i hn; rw [if_pos hn, if_pos hn]; exact ih r _ h
      · rename_i hn; rw [if_neg hn, if_neg hn]
  have e := this (a.take j) (a.drop j) n h
  rwa [List.take_append_drop] at e
theorem kidsTo_stop (left : Int) {a : List Tree} {n : Int} {j : Nat} (h : ¬ kidsTo left n (a.take j) ≤ left) : kidsTo left n a = kidsTo left n (a.take j) := by
  have : ∀ (b r : List Tree) (n : Int), ¬ kidsTo left n b ≤ left → kidsTo left n (b ++ r) = kidsTo left n b := by
    intro b
    induction b with
    | nil => intro r n h; cases r with
      | nil => rfl
      | cons x r => simp only [kidsTo] at h; simp [kidsTo, h]
    | cons k b ih =>
      intro r n h
      simp only [List.cons_append, kidsTo] at h ⊢
      split at h
      · rename_i hn; rw [if_pos hn, if_pos hn]; exact ih r _ h
      · rename_i hn; rw [if_neg hn, if_neg hn]
  have e := this (a.take j) (a.drop j) n h
  rwa [List.take_append_drop] at e
set_option maxHeartbeats 2000000 in
theorem small_any : ∀ (T : Tree) (B : Nat) (v : Value) (left : Int) (w : World), B ≤ w.heap.size → Lies B w v T → Sane T → 0 ≤ left → left ≤ 100000 →
    Calls Tryz.prog 58 #[v, .int .i64 left] w fun e w' => e = .returned (.int .i64 (smallN T left)) ∧ Below w.heap.size w w' := by
  refine Tree.ind ?_
  intro k x n s ks ts ih B v left w hB hv hS h0 h1
  have HSA := hidE hS
  have HLE := hidE (smallN_le (.mk k x n s ks ts) left hS h0)
  simp only [Sane] at hS
  obtain ⟨s1, s2, s3, s4, s5⟩ := hS
  simp only [Lies] at hv
  obtain ⟨ka, kc, la, lc, rfl, ⟨hs1, hs2, hs3, hs4, hs5⟩, hk, ht⟩ := hv
  have HIH := hidE ih
  have HS4 := hidE s4
  have HS5 := hidE s5
  have HRES : Hid (smallN (.mk k x n s ks ts) left = kidsTo left (keysTo left (1 + s.size + ks.length) ks) ts) := by show _ = _; rw [smallN]
  clear ih s4 s5
  unfold maxLen at hs3 hs5
  obtain ⟨W1, hW1⟩ : ∃ W1, w.alloc (.cells #[.int .i64 k, .bool x, .int .i64 n, .string s, .slice ka ks.length kc, .slice la ts.length lc] 26) = W1 := ⟨_, rfl⟩
  have HBX : Hid (∀ W, Below W1.heap.size W1 W → Below w.heap.size w W ∧ W.cell? ⟨w.heap.size, 4, none⟩ = some (.slice ka ks.length kc) ∧ W.cell? ⟨w.heap.size, 5, none⟩ = some (.slice la ts.length lc)) := fun W hb => by
    rw [← hW1] at hb
    refine ⟨below_alloc hb, ?_, ?_⟩
    · exact (hb.cell (p := ⟨w.heap.size, 4, none⟩) (by simp)).trans (cell_new _ _ _ _ _ rfl)
    · exact (hb.cell (p := ⟨w.heap.size, 5, none⟩) (by simp)).trans (cell_new _ _ _ _ _ rfl)
  have HW1 := hidE hW1
  clear hW1
  go_enter Tryz.func58, Tryz.ntmps58
  go_wp2_with fail
  rw [HW1.out]
  go_loop [6, 5] (fun i u => ∃ j : Nat, j ≤ ks.length ∧ i = .int .i64 j ∧ u = .int .i64 (keysTo left (1 + s.size + ks.length) (ks.take j))) (fun i _ => ks.length - (intOf i).toNat)
  case atStart => exact ⟨0, Nat.zero_le _, rfl, by simp [keysTo]⟩
  case round =>
    obtain ⟨j, hj, rfl, rfl⟩ := hrel
    obtain ⟨hbw, f4, f5⟩ := HBX.out W1 (Below.refl _ _)
    have hkl := keysTo_le left (ks.take j) (1 + s.size + ks.length) (281474976710657 + left) (fun y hy => by have := HS4.out y (List.mem_of_mem_take hy); omega) (by omega) (by omega)
    have hkg := keysTo_ge left (ks.take j) (1 + s.size + ks.length)
    by_cases hgo : j < ks.length ∧ keysTo left (1 + s.size + ks.length) (ks.take j) ≤ left
    · obtain ⟨hlt, hle⟩ := hgo
      obtain ⟨bk, off, rfl, hbk, hkey⟩ := hk.resolve_left (by intro e; subst e; simp at hlt)
      have hc := cell_below hbw (Nat.le_refl _) (hkey j hlt).1
      have hks := HS4.out (ks.getD j ⟨#[]⟩) (by rw [List.getD_eq_getElem?_getD, List.getElem?_eq_getElem hlt]; exact List.getElem_mem hlt)
      have HST : Hid (keysTo left (1 + s.size + ks.length) (ks.take (j + 1)) = keysTo left (1 + s.size + ks.length) (ks.take j) + (ks.getD j ⟨#[]⟩).size) := by
        show _ = _
        rw [List.take_add_one, List.getElem?_eq_getElem hlt, List.getD_eq_getElem?_getD, List.getElem?_eq_getElem hlt]
        exact (keysTo_snoc left _ _ _).trans (if_pos hle)
      generalize ks.getD j ⟨#[]⟩ = kx at *
      generalize keysTo left (1 + s.size + ks.length) (ks.take j) = acc at *
      clear hkey
      go_wp2_with fail
      go_round
      case rel => exact ⟨j + 1, by omega, by go_num, by rw [HST.out]⟩
      case measure => simp [intOf]; omega
    · have HN1 : Hid (keysTo left (1 + s.size + ks.length) (ks.take j) = keysTo left (1 + s.size + ks.length) ks) := by
        show _ = _
        by_cases hlt : j < ks.length
        · exact (keysTo_stop left (fun h => hgo ⟨hlt, h⟩)).symm
        · rw [List.take_of_length_le (by omega)]
      rw [HN1.out] at hgo hkl hkg ⊢
      generalize keysTo left (1 + s.size + ks.length) ks = n1 at *
      have hle : ks.length ≤ j ∨ ¬ n1 ≤ left := by
        by_cases hlt : j < ks.length
        · exact .inr fun h => hgo ⟨hlt, h⟩
        · exact .inl (by omega)
      clear hgo HN1
      by_cases hlt : j < ks.length
      · have hle2 : ¬ n1 ≤ left := by omega
        clear hle
        go_wp2_with fail
        go_loopw [7, 5] (fun i u wr => ∃ p : Nat, p ≤ ts.length ∧ i = .int .i64 p ∧ u = .int .i64 (kidsTo left n1 (ts.take p)) ∧ Below W1.heap.size W1 wr) (fun i _ _ => ts.length - (intOf i).toNat)
        case atStart => exact ⟨0, Nat.zero_le _, rfl, by simp [kidsTo], Below.refl _ _⟩
        case round =>
          obtain ⟨p, hp, rfl, rfl, hbr⟩ := hrel
          obtain ⟨hbw2, g4, g5⟩ := HBX.out wr hbr
          clear f4 f5
          have hkl2 := kidsTo_le left h0 (ts.take p) n1 (sane_take HS5.out p) hkl
          have hkg2 := kidsTo_ge left (ts.take p) n1
          by_cases hgo2 : p < ts.length ∧ kidsTo left n1 (ts.take p) ≤ left
          · exfalso; omega
          · have HN2 : Hid (kidsTo left n1 (ts.take p) = smallN (.mk k x n s ks ts) left) := by
              show _ = _
              rw [HRES.out]
              by_cases hlt2 : p < ts.length
              · exact (kidsTo_stop left (fun h => hgo2 ⟨hlt2, h⟩)).symm
              · rw [List.take_of_length_le (by omega)]
            generalize kidsTo left n1 (ts.take p) = acc at *
            by_cases hlt2 : p < ts.length
            · have hle4 : ¬ acc ≤ left := fun h => hgo2 ⟨hlt2, h⟩
              clear hgo2
              go_wp2_with fail
              go_ret
              exact ⟨by rw [← HN2.out]; rfl, hbw2⟩
            · clear hgo2
              go_wp2_with fail
              go_ret
              exact ⟨by rw [← HN2.out]; rfl, hbw2⟩
      · clear hle
        go_wp2_with fail
        go_loopw [7, 5] (fun i u wr => ∃ p : Nat, p ≤ ts.length ∧ i = .int .i64 p ∧ u = .int .i64 (kidsTo left n1 (ts.take p)) ∧ Below W1.heap.size W1 wr) (fun i _ _ => ts.length - (intOf i).toNat)
        case atStart => exact ⟨0, Nat.zero_le _, rfl, by simp [kidsTo], Below.refl _ _⟩
        case round =>
          obtain ⟨p, hp, rfl, rfl, hbr⟩ := hrel
          obtain ⟨hbw2, g4, g5⟩ := HBX.out wr hbr
          clear f4 f5
          have hkl2 := kidsTo_le left h0 (ts.take p) n1 (sane_take HS5.out p) hkl
          have hkg2 := kidsTo_ge left (ts.take p) n1
          by_cases hgo2 : p < ts.length ∧ kidsTo left n1 (ts.take p) ≤ left
          · obtain ⟨hlt2, hle3⟩ := hgo2
            obtain ⟨bl, off, rfl, hbl, hkk⟩ := ht.resolve_left (by intro e; subst e; simp at hlt2)
            obtain ⟨⟨p0, p1, p2, p3, p4, p5⟩, hx⟩ : ∃ t, ts[p]? = some t := ⟨_, List.getElem?_eq_getElem hlt2⟩
            obtain ⟨ja, jc, jl, jd, ⟨c0, c1, c2, c3, c4, c5⟩, hlx⟩ := (hkk.below (hbw2.mono hB) hbl).cells hx
            have hsx := HS5.out.mem (List.mem_of_getElem? hx)
            have HST : Hid (kidsTo left n1 (ts.take (p + 1)) = kidsTo left n1 (ts.take p) + smallN (.mk p0 p1 p2 p3 p4 p5) (left - kidsTo left n1 (ts.take p))) := by
              show _ = _
              rw [List.take_add_one, hx]
              exact (kidsTo_snoc left _ _ _).trans (if_pos hle3)
            generalize kidsTo left n1 (ts.take p) = acc at *
            have hsl := smallN_le (.mk p0 p1 p2 p3 p4 p5) (left - acc) hsx (by omega)
            have hsp := smallN_pos (.mk p0 p1 p2 p3 p4 p5) (left - acc)
            have HC := hidE (HIH.out _ (List.mem_of_getElem? hx) B _ (left - acc) wr (Nat.le_trans hB hbw2.size) hlx hsx (by omega) (by omega))
            generalize smallN (.mk p0 p1 p2 p3 p4 p5) (left - acc) = sm at *
            clear hx hkk hlx hsx
            go_wp2_with fail
            refine HC.out.mono ?_
            rintro e w2 ⟨rfl, hb2⟩
            have HB2 : Hid (Below W1.heap.size W1 w2) := below_on hbr hb2
            clear hb2 c0 c1 c2 c3 c4 c5
            go_wp2_with fail
            go_roundw
            case rel => exact ⟨p + 1, by omega, by go_num, by rw [HST.out], HB2.out⟩
            case measure => simp [intOf]; omega
          · have HN2 : Hid (kidsTo left n1 (ts.take p) = smallN (.mk k x n s ks ts) left) := by
              show _ = _
              rw [HRES.out]
              by_cases hlt2 : p < ts.length
              · exact (kidsTo_stop left (fun h => hgo2 ⟨hlt2, h⟩)).symm
              · rw [List.take_of_length_le (by omega)]
            generalize kidsTo left n1 (ts.take p) = acc at *
            by_cases hlt2 : p < ts.length
            · have hle4 : ¬ acc ≤ left := fun h => hgo2 ⟨hlt2, h⟩
              clear hgo2
              go_wp2_with fail
              go_ret
              exact ⟨by rw [← HN2.out]; rfl, hbw2⟩
            · clear hgo2
              go_wp2_with fail
              go_ret
              exact ⟨by rw [← HN2.out]; rfl, hbw2⟩
end Go.Proofs.YtbpmhgcjefpigaaGreatDoor

