/- Sorted, at any list of values. value.Size: how many values there are, and how deep. Storable, the program's and the document's. Once, at any list of values that may be: the copies lie apart from each other. -/
import Derived.Shelf.SlSortCmp.NoneTotal
import Derived.Ground.SlsfProg
import Derived.Ground.NamesProg
import Derived.Test.YtbpmhgcjefpigaaGreatDoorProg
import Derived.Test.YtbpmhgcjefpigaaGreatDoorJoin4
import Derived.Sort.Grow
import Derived.Test.YtbpmhgcjefpigaaGreatDoorJoin9
import Derived.Test.YtbpmhgcjefpigaaGreatDoorJoin18
import Derived.Test.YtbpmhgcjefpigaaGreatDoorJoin5
import Derived.Test.YtbpmhgcjefpigaaGreatDoorJoin3
import Derived.Test.YtbpmhgcjefpigaaGreatDoorCheck
import Derived.Test.YtbpmhgcjefpigaaGreatDoorJoin11
import Derived.Test.YtbpmhgcjefpigaaGreatDoorJoin15
import Derived.Test.YtbpmhgcjefpigaaGreatDoorCopy
import Derived.Lib.ValidLaws
namespace Go.Proofs.YtbpmhgcjefpigaaGreatDoor
open Go.RowKit Go.Shelf Go.WideShapes Go.Lib
set_option linter.unusedVariables false
set_option linter.unusedSimpArgs false
theorem Ents.mono {A A' : Nat} {g : Option Nat} {w : World} {es : List Ent} (h : Ents A g w es) (ha : A' ≤ A) : Ents A' g w es := ⟨fun e he => ⟨(h.ok e he).lies, Nat.le_trans ha (h.ok e he).start, (h.ok e he).le, (h.ok e he).upto, (h.ok e he).row⟩, h.ap⟩
/-- Copies in a row that begins at la. -/
def CopyRow (A : Nat) (w : World) (la : Option Addr) (es : List Ent) : Prop := es = [] ∨ ∃ g, la = some ⟨g, 0, none⟩ ∧ A ≤ g ∧ g < w.heap.size ∧ RowAt g w es ∧ Ents A (some g) w es
theorem CopyRow.lies {A B : Nat} {w : World} {la : Option Addr} {es : List Ent} (h : CopyRow A w la es) (hB : w.heap.size ≤ B) : ListLies B w la (es.map Ent.t) := by
  rcases h with rfl | ⟨g, e, h1, h2, h3, h4⟩
  · exact .inl rfl
  · exact .inr ⟨g, 0, e, by omega, RowAt.kids (A := A) (o := some g) (fun j e he q v hv => by rw [Nat.zero_add]; exact h3 j e he q v hv) h4.ok hB⟩
end Go.Proofs.YtbpmhgcjefpigaaGreatDoor

namespace Go.Proofs.YtbpmhgcjefpigaaGreatDoor
open Go.RowKit Go.Shelf
set_option linter.unusedVariables false
attribute [local go_sem] Oper.semAt_some
end Go.Proofs.YtbpmhgcjefpigaaGreatDoor

namespace Go.Proofs.YtbpmhgcjefpigaaGreatDoor
open Go.RowKit Go.Shelf
set_option linter.unusedVariables false
/-- The kind of the first value of a list. -/
def firstK (ts : List Tree) : Int := match ts with | [] => 0 | t :: _ => t.kind
/-- The first value of a list that lies. -/
theorem KidsLie.first {B bl off : Nat} {w : World} {ts : List Tree} (h : KidsLie B w bl off ts) (h0 : 0 < ts.length) : w.cell? ⟨bl, off, none⟩ = some (.int .i64 (firstK ts)) := by
  obtain ⟨⟨p0, p1, p2, p3, p4, p5⟩, hx⟩ : ∃ t, ts[0]? = some t := ⟨_, List.getElem?_eq_getElem h0⟩
  obtain ⟨_, _, _, _, ⟨c0, _⟩, _⟩ := h.cells hx
  cases ts with
  | nil => simp at h0
  | cons t r =>
    simp at hx; subst hx
    simpa [firstK, Tree.kind] using c0
end Go.Proofs.YtbpmhgcjefpigaaGreatDoor

namespace Go.Proofs.YtbpmhgcjefpigaaGreatDoor
open Go.RowKit Go.Shelf Go.WideShapes Go.Lib
set_option linter.unusedVariables false
set_option linter.unusedSimpArgs false
/-- Copies in a row, apart from the row and from each other. -/
def RowO (A : Nat) (g : Option Nat) (w : World) (xs : List Value) (ts : List Tree) : Prop := ∃ es : List Ent, xs = es.flatMap Ent.cells ∧ es.map Ent.t = ts ∧ Ents A g w es
theorem RowO.none (A : Nat) (g : Option Nat) (w : World) : RowO A g w [] [] := ⟨[], rfl, rfl, fun e h => by simp at h, .nil⟩
theorem RowO.step {A : Nat} {g g' : Option Nat} {w w' : World} {xs : List Value} {ts : List Tree} (h : RowO A g w xs ts) (hk : ∀ b, A ≤ b → b < w.heap.size → some b ≠ g → w'.heap[b]? = w.heap[b]?) (hs : w.heap.size ≤ w'.heap.size)
    (hg : g' = g ∨ ∃ q, g' = some q ∧ w.heap.size ≤ q) : RowO A g' w' xs ts := by
  obtain ⟨es, h1, h2, h3⟩ := h
  exact ⟨es, h1, h2, h3.step hk hs hg⟩
theorem RowO.snoc {A hi : Nat} {g : Option Nat} {w w' : World} {xs : List Value} {ts : List Tree} {c0 c1 c2 c3 c4 c5 : Value} {t : Tree} (h : RowO A g w xs ts) (hb : Below w.heap.size w w') (hl : LiesF w.heap.size hi w' (.agg #[c0, c1, c2, c3, c4, c5]) t)
    (hA : A ≤ w.heap.size) (h1 : w.heap.size ≤ hi) (h2 : hi ≤ w'.heap.size) (hg : ∀ q, g = some q → q < w.heap.size) : RowO A g w' (xs ++ [c0, c1, c2, c3, c4, c5]) (ts ++ [t]) := by
  obtain ⟨es, rfl, rfl, h3⟩ := h
  exact ⟨es ++ [⟨c0, c1, c2, c3, c4, c5, t, w.heap.size, hi⟩], by rw [List.flatMap_append]; rfl, by rw [List.map_append]; rfl, h3.snoc ⟨hl, hA, h1, h2, fun q hq => .inl (hg q hq)⟩ (fun b _ h _ => hb.block b h) hb.size (Nat.le_refl _)⟩
end Go.Proofs.YtbpmhgcjefpigaaGreatDoor

