/- Small values are modest; the shape of a value; two values in a row. Whether what a value does not use is zero, as the document has it. The document's order of values in rows. Values whose lists have one place more, which is laid; rows of keys are put behind others. -/
import Derived.Test.YtbpmhgcjefpigaaGreatDoorJoin5
import Derived.Test.YtbpmhgcjefpigaaGreatDoorWalked
import Derived.Test.YtbpmhgcjefpigaaGreatDoorTotal
import Derived.Test.YtbpmhgcjefpigaaGreatDoorSmall
import Derived.Lib.ValidLaws
import Derived.Test.YtbpmhgcjefpigaaGreatDoorMap11
import Derived.Laws.OwnMore
namespace Go.Proofs.YtbpmhgcjefpigaaGreatDoor
open Go.RowKit Go.Shelf
set_option linter.unusedVariables false
theorem keyBytes_pos : ∀ ks : List ByteArray, 0 ≤ keyBytes ks
  | [] => by simp [keyBytes]
  | k :: ks => by
    have := keyBytes_pos ks
    simp only [keyBytes, List.map_cons, List.sum_cons] at this ⊢
    omega
theorem bytesOf_app (a b : List (Int × Tree)) : bytesOf (a ++ b) = bytesOf a + bytesOf b := by
  unfold bytesOf; rw [List.map_append, List.sum_append]
mutual
theorem total_bounds : ∀ (T : Tree) (d : Int), (T.height : Int) ≤ T.total ∧ bytesOf (T.pre d) ≤ T.total ∧ 1 ≤ T.total
  | .mk k b n s ks ts, d => by
    obtain ⟨h1, h2, h3⟩ := totalL_bounds ts (d + 1)
    have h4 := keyBytes_pos ks
    have e : bytesOf ((d, Tree.mk k b n s ks ts) :: Tree.preL (d + 1) ts) = ((s.size : Int) + keyBytes ks) + bytesOf (Tree.preL (d + 1) ts) := by
      simp [bytesOf, Tree.bytes, Tree.text, Tree.keys]
    rw [Tree.height, Tree.total, Tree.pre, e]
    refine ⟨?_, ?_, ?_⟩ <;> omega
theorem totalL_bounds : ∀ (ts : List Tree) (d : Int), (Tree.heightL ts : Int) ≤ Tree.totalL ts ∧ bytesOf (Tree.preL d ts) ≤ Tree.totalL ts ∧ 0 ≤ Tree.totalL ts
  | [], d => by simp [Tree.heightL, Tree.totalL, Tree.preL, bytesOf]
  | t :: ts, d => by
    obtain ⟨h1, h2, h3⟩ := total_bounds t d
    obtain ⟨g1, g2, g3⟩ := totalL_bounds ts d
    rw [Tree.heightL, Tree.totalL, Tree.preL, bytesOf_app]
    refine ⟨?_, ?_, ?_⟩ <;> omega
end
theorem modest_total {T : Tree} (h : T.total ≤ 2000) : Modest T := by
  obtain ⟨h1, h2, _⟩ := total_bounds T 1
  exact ⟨by omega, by omega⟩
theorem small_total {ts : List Tree} (h : smalls ts ≤ 2000) : ∀ t ∈ ts, t.total ≤ 2000 := fun t ht => by
  have hp : ∀ u ∈ ts, 0 ≤ smallN u 2000 := fun u _ => by have := smallN_pos u 2000; omega
  have : smallN t 2000 ≤ 2000 := by
    obtain ⟨i, hi⟩ := List.mem_iff_getElem?.1 ht
    have h1 := smalls_take hi
    have h2 := smalls_take_le (i + 1) hp
    have h3 := smalls_pos (ts := ts.take i) fun u hu => hp u (List.mem_of_mem_take hu)
    omega
  have e := smallN_eq t 2000 this
  omega
theorem lies_form {B : Nat} {w : World} {v : Value} {T : Tree} (h : Lies B w v T) : ∃ (k : Int) (x : Bool) (n : Int) (s : ByteArray) (ka : Option Addr) (kn kc : Nat) (la : Option Addr) (ln lc : Nat), v = .agg #[.int .i64 k, .bool x, .int .i64 n, .string s, .slice ka kn kc, .slice la ln lc] := by
  obtain ⟨k, x, n, s, ks, ts⟩ := T
  simp only [Lies] at h
  obtain ⟨ka, kc, la, lc, rfl, -⟩ := h
  exact ⟨_, _, _, _, _, _, _, _, _, _, rfl⟩
end Go.Proofs.YtbpmhgcjefpigaaGreatDoor

namespace Go.Proofs.YtbpmhgcjefpigaaGreatDoor
open Go.RowKit Go.Shelf
set_option linter.unusedVariables false
def rbareB (k : Int) (b : Bool) (n : Int) (s : ByteArray) (kl ll : Nat) : Bool :=
  ((k == 1) || !b) && (((k == 2) || ((k == 6) || ((k == 7) || (n == 0)))) && (((k == 3) || s.toList.isEmpty) && (((k == 5) || decide (kl = 0)) && ((k == 4) || ((k == 5) || decide (ll = 0))))))
end Go.Proofs.YtbpmhgcjefpigaaGreatDoor

namespace Go.Proofs.YtbpmhgcjefpigaaGreatDoor
open Go.RowKit Go.Shelf
set_option linter.unusedVariables false
theorem KnownL.mem : ∀ {ts : List Tree}, KnownL ts → ∀ {t}, t ∈ ts → Known t
  | [], _, _, h => by cases h
  | a :: r, h, t, hm => by
    simp only [KnownL] at h
    rcases List.mem_cons.mp hm with rfl | hm
    · exact h.1
    · exact KnownL.mem h.2 hm
end Go.Proofs.YtbpmhgcjefpigaaGreatDoor

namespace Go.Proofs.YtbpmhgcjefpigaaGreatDoor
open Go.RowKit Go.Shelf Go.WideShapes
set_option linter.unusedVariables false
set_option linter.unusedSimpArgs false
def spareB : ByteArray := ⟨#[115, 112, 97, 114, 101]⟩
mutual
/-- A value in registers, what is in it in blocks that are so, each list with one place more behind it. -/
def SpareP (p : Nat → Prop) (w : World) : Value → Tree → Prop
  | v, .mk k b n s ks ts => ∃ bk kc bl lc, v = .agg #[.int .i64 k, .bool b, .int .i64 n, .string s, .slice (some ⟨bk, 0, none⟩) ks.length kc, .slice (some ⟨bl, 0, none⟩) ts.length lc] ∧
      (s.size ≤ maxLen ∧ ks.length < kc ∧ kc ≤ maxLen ∧ ts.length < lc ∧ lc ≤ maxLen) ∧ (p bk ∧ p bl) ∧
      (∀ i, i < ks.length → w.cell? ⟨bk, i, none⟩ = some (.string (ks.getD i ⟨#[]⟩)) ∧ (ks.getD i ⟨#[]⟩).size ≤ maxLen) ∧ w.cell? ⟨bk, ks.length, none⟩ = some (.string spareB) ∧
      SpareKids p w bl 0 ts ∧ w.cell? ⟨bl, ts.length * 6, none⟩ = some (.int .i64 77)
def SpareKids (p : Nat → Prop) (w : World) (bl : Nat) : Nat → List Tree → Prop
  | _, [] => True
  | off, t :: ts => (∃ v0 v1 v2 v3 v4 v5, (w.cell? ⟨bl, off, none⟩ = some v0 ∧ w.cell? ⟨bl, off + 1, none⟩ = some v1 ∧ w.cell? ⟨bl, off + 2, none⟩ = some v2 ∧ w.cell? ⟨bl, off + 3, none⟩ = some v3 ∧
      w.cell? ⟨bl, off + 4, none⟩ = some v4 ∧ w.cell? ⟨bl, off + 5, none⟩ = some v5) ∧ SpareP p w (.agg #[v0, v1, v2, v3, v4, v5]) t) ∧ SpareKids p w bl (off + 6) ts
end
/-- The blocks that are so stay. -/
def Stay (p : Nat → Prop) (w w' : World) : Prop := ∀ b i, p b → w'.cell? ⟨b, i, none⟩ = w.cell? ⟨b, i, none⟩
theorem Stay.cell {p : Nat → Prop} {w w' : World} (h : Stay p w w') {b i : Nat} (hb : p b) : w'.cell? ⟨b, i, none⟩ = w.cell? ⟨b, i, none⟩ := h b i hb
mutual
theorem SpareP.keep {p : Nat → Prop} {w w' : World} (h : Stay p w w') : ∀ {v : Value} {T : Tree}, SpareP p w v T → SpareP p w' v T
  | v, .mk k b n s ks ts, hl => by
    simp only [SpareP] at hl ⊢
    obtain ⟨bk, kc, bl, lc, hv, hb, ⟨h1, h2⟩, hk, hs, ht, hx⟩ := hl
    exact ⟨bk, kc, bl, lc, hv, hb, ⟨h1, h2⟩, fun i hi => ⟨(h.cell h1).trans (hk i hi).1, (hk i hi).2⟩, (h.cell h1).trans hs, SpareKids.keep h h2 ht, (h.cell h2).trans hx⟩
theorem SpareKids.keep {p : Nat → Prop} {w w' : World} (h : Stay p w w') {bl : Nat} (hlt : p bl) : ∀ {off : Nat} {ts : List Tree}, SpareKids p w bl off ts → SpareKids p w' bl off ts
  | off, [], hl => by simp only [SpareKids]
  | off, t :: ts, hl => by
    simp only [SpareKids] at hl ⊢
    obtain ⟨⟨v0, v1, v2, v3, v4, v5, ⟨c0, c1, c2, c3, c4, c5⟩, hv⟩, hr⟩ := hl
    exact ⟨⟨v0, v1, v2, v3, v4, v5, ⟨(h.cell hlt).trans c0, (h.cell hlt).trans c1, (h.cell hlt).trans c2, (h.cell hlt).trans c3, (h.cell hlt).trans c4, (h.cell hlt).trans c5⟩, SpareP.keep h hv⟩, SpareKids.keep h hlt hr⟩
end
mutual
theorem SpareP.mono {p q : Nat → Prop} {w : World} (h : ∀ b, p b → q b) : ∀ {v : Value} {T : Tree}, SpareP p w v T → SpareP q w v T
  | v, .mk k b n s ks ts, hl => by
    simp only [SpareP] at hl ⊢
    obtain ⟨bk, kc, bl, lc, hv, hb, ⟨h1, h2⟩, hk, hs, ht, hx⟩ := hl
    exact ⟨bk, kc, bl, lc, hv, hb, ⟨h _ h1, h _ h2⟩, hk, hs, SpareKids.mono h ht, hx⟩
theorem SpareKids.mono {p q : Nat → Prop} {w : World} (h : ∀ b, p b → q b) {bl : Nat} : ∀ {off : Nat} {ts : List Tree}, SpareKids p w bl off ts → SpareKids q w bl off ts
  | off, [], hl => by simp only [SpareKids]
  | off, t :: ts, hl => by
    simp only [SpareKids] at hl ⊢
    obtain ⟨⟨v0, v1, v2, v3, v4, v5, hc, hv⟩, hr⟩ := hl
    exact ⟨⟨v0, v1, v2, v3, v4, v5, hc, SpareP.mono h hv⟩, SpareKids.mono h hr⟩
end
/-- In blocks below B. -/
abbrev Spare (B : Nat) (w : World) (v : Value) (T : Tree) : Prop := SpareP (· < B) w v T
theorem Spare.below {B : Nat} {w w' : World} {v : Value} {T : Tree} (h : Below B w w') (hs : Spare B w v T) : Spare B w' v T := SpareP.keep (fun b i hb => h.cell (p := ⟨b, i, none⟩) hb) hs
theorem Spare.mono {B B' : Nat} {w : World} {v : Value} {T : Tree} (h : B ≤ B') (hs : Spare B w v T) : Spare B' w v T := SpareP.mono (fun b hb => Nat.lt_of_lt_of_le hb h) hs
mutual
theorem Spare.lies {B : Nat} {w : World} : ∀ {v : Value} {T : Tree}, SpareP (· < B) w v T → Lies B w v T
  | v, .mk k b n s ks ts, hl => by
    simp only [SpareP] at hl
    simp only [Lies]
    obtain ⟨bk, kc, bl, lc, hv, ⟨g1, g2, g3, g4, g5⟩, ⟨h1, h2⟩, hk, hs, ht, hx⟩ := hl
    exact ⟨_, kc, _, lc, hv, ⟨g1, by omega, g3, by omega, g5⟩, .inr ⟨bk, 0, rfl, h1, fun i hi => by rw [Nat.zero_add]; exact hk i hi⟩, .inr ⟨bl, 0, rfl, h2, SpareKids.lies ht⟩⟩
theorem SpareKids.lies {B : Nat} {w : World} {bl : Nat} : ∀ {off : Nat} {ts : List Tree}, SpareKids (· < B) w bl off ts → KidsLie B w bl off ts
  | off, [], hl => by simp only [KidsLie]
  | off, t :: ts, hl => by
    simp only [SpareKids] at hl
    simp only [KidsLie]
    obtain ⟨⟨v0, v1, v2, v3, v4, v5, hc, hv⟩, hr⟩ := hl
    exact ⟨⟨v0, v1, v2, v3, v4, v5, hc, Spare.lies hv⟩, SpareKids.lies hr⟩
end
theorem SpareKids.at {p : Nat → Prop} {w : World} {bl : Nat} : ∀ {ts : List Tree} {off : Nat}, SpareKids p w bl off ts → ∀ {i : Nat} {t : Tree}, ts[i]? = some t →
    ∃ v0 v1 v2 v3 v4 v5, (w.cell? ⟨bl, off + i * 6, none⟩ = some v0 ∧ w.cell? ⟨bl, off + i * 6 + 1, none⟩ = some v1 ∧ w.cell? ⟨bl, off + i * 6 + 2, none⟩ = some v2 ∧ w.cell? ⟨bl, off + i * 6 + 3, none⟩ = some v3 ∧
      w.cell? ⟨bl, off + i * 6 + 4, none⟩ = some v4 ∧ w.cell? ⟨bl, off + i * 6 + 5, none⟩ = some v5) ∧ SpareP p w (.agg #[v0, v1, v2, v3, v4, v5]) t
  | [], off, _, i, t, h => by simp at h
  | t :: ts, off, hl, 0, u, h => by
    simp only [SpareKids] at hl
    simp at h; subst h
    simpa using hl.1
  | t :: ts, off, hl, i + 1, u, h => by
    simp only [SpareKids] at hl
    have := SpareKids.at hl.2 (i := i) (t := u) (by simpa using h)
    rw [show off + 6 + i * 6 = off + (i + 1) * 6 from by omega] at this
    exact this
/-- Values in a row of cells, not yet laid. -/
def Row6 (p : Nat → Prop) (w : World) : List Value → List Tree → Prop
  | [], [] => True
  | c0 :: c1 :: c2 :: c3 :: c4 :: c5 :: r, t :: ts => SpareP p w (.agg #[c0, c1, c2, c3, c4, c5]) t ∧ Row6 p w r ts
  | _, _ => False
theorem Row6.snoc {p : Nat → Prop} {w : World} {c0 c1 c2 c3 c4 c5 : Value} {t : Tree} (ht : SpareP p w (.agg #[c0, c1, c2, c3, c4, c5]) t) : ∀ {xs : List Value} {ts : List Tree}, Row6 p w xs ts → Row6 p w (xs ++ [c0, c1, c2, c3, c4, c5]) (ts ++ [t])
  | [], [], _ => by simp only [List.nil_append, Row6]; exact ⟨ht, trivial⟩
  | d0 :: d1 :: d2 :: d3 :: d4 :: d5 :: r, u :: us, h => by
    simp only [Row6] at h
    simp only [List.cons_append, Row6]
    exact ⟨h.1, Row6.snoc ht h.2⟩
  | [], _ :: _, h => by simp [Row6] at h
  | _ :: _, [], h => by simp [Row6] at h
  | [_], _ :: _, h => by simp [Row6] at h
  | [_, _], _ :: _, h => by simp [Row6] at h
  | [_, _, _], _ :: _, h => by simp [Row6] at h
  | [_, _, _, _], _ :: _, h => by simp [Row6] at h
  | [_, _, _, _, _], _ :: _, h => by simp [Row6] at h
theorem Row6.keep {p q : Nat → Prop} {w w' : World} (hs : Stay p w w') (h : ∀ b, p b → q b) : ∀ {xs : List Value} {ts : List Tree}, Row6 p w xs ts → Row6 q w' xs ts
  | [], [], _ => by simp only [Row6]
  | d0 :: d1 :: d2 :: d3 :: d4 :: d5 :: r, u :: us, hr => by
    simp only [Row6] at hr ⊢
    exact ⟨(hr.1.keep hs).mono h, Row6.keep hs h hr.2⟩
  | [], _ :: _, h => by simp [Row6] at h
  | _ :: _, [], h => by simp [Row6] at h
  | [_], _ :: _, h => by simp [Row6] at h
  | [_, _], _ :: _, h => by simp [Row6] at h
  | [_, _, _], _ :: _, h => by simp [Row6] at h
  | [_, _, _, _], _ :: _, h => by simp [Row6] at h
  | [_, _, _, _, _], _ :: _, h => by simp [Row6] at h
theorem Row6.kids {p : Nat → Prop} {w : World} {g : Nat} : ∀ {xs : List Value} {ts : List Tree} {off : Nat}, Row6 p w xs ts → (∀ j u, xs[j]? = some u → w.cell? ⟨g, off + j, none⟩ = some u) → SpareKids p w g off ts
  | [], [], _, _, _ => by simp only [SpareKids]
  | d0 :: d1 :: d2 :: d3 :: d4 :: d5 :: r, u :: us, off, hr, hc => by
    simp only [Row6] at hr
    simp only [SpareKids]
    refine ⟨⟨d0, d1, d2, d3, d4, d5, ⟨hc 0 _ rfl, hc 1 _ rfl, hc 2 _ rfl, hc 3 _ rfl, hc 4 _ rfl, hc 5 _ rfl⟩, hr.1⟩, Row6.kids hr.2 fun j v hv => ?_⟩
    have := hc (j + 6) v (by simpa using hv)
    rwa [show off + (j + 6) = off + 6 + j from by omega] at this
  | [], _ :: _, _, h, _ => by simp [Row6] at h
  | _ :: _, [], _, h, _ => by simp [Row6] at h
  | [_], _ :: _, _, h, _ => by simp [Row6] at h
  | [_, _], _ :: _, _, h, _ => by simp [Row6] at h
  | [_, _, _], _ :: _, _, h, _ => by simp [Row6] at h
  | [_, _, _, _], _ :: _, _, h, _ => by simp [Row6] at h
  | [_, _, _, _, _], _ :: _, _, h, _ => by simp [Row6] at h
end Go.Proofs.YtbpmhgcjefpigaaGreatDoor

