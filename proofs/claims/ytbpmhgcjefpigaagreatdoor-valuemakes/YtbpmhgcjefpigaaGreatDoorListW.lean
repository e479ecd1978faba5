/- ValueLists, walked. -/
import Derived.Test.YtbpmhgcjefpigaaGreatDoorJoin15
import Derived.Test.YtbpmhgcjefpigaaGreatDoorCopy
import Derived.Test.YtbpmhgcjefpigaaGreatDoorJoin17
import Derived.Test.YtbpmhgcjefpigaaGreatDoorJoin18
import Derived.Test.YtbpmhgcjefpigaaGreatDoorWorksR4
import Derived.Test.YtbpmhgcjefpigaaGreatDoorJoin16
import Derived.Test.YtbpmhgcjefpigaaGreatDoorJoin22
import Derived.Test.YtbpmhgcjefpigaaGreatDoorSpared
import Derived.Test.YtbpmhgcjefpigaaGreatDoorJoin20
import Derived.Test.YtbpmhgcjefpigaaGreatDoorJoin21
namespace Go.Proofs.YtbpmhgcjefpigaaGreatDoor
open Go.RowKit Go.Shelf Go.Lib
set_option linter.unusedVariables false
set_option linter.unusedSimpArgs false
/-- The blocks of the copies that were written over alone have turned. -/
structure KeepX (A : Nat) (es : List Ent) (j : Nat) (w w' : World) : Prop where
  below : Below A w w'
  keep : ∀ b, b < w.heap.size → (∀ e ∈ es.take j, ¬ (e.lo ≤ b ∧ b < e.hi)) → w'.heap[b]? = w.heap[b]?
theorem KeepX.start (A : Nat) (es : List Ent) (w : World) : KeepX A es 0 w w := ⟨Below.refl _ _, fun _ _ _ => rfl⟩
theorem KeepX.on {A : Nat} {es : List Ent} {j : Nat} {w w1 w2 : World} (h : KeepX A es j w w1) (hb : Below w1.heap.size w1 w2) (hA : A ≤ w.heap.size) : KeepX A es j w w2 :=
  ⟨h.below.trans (hb.mono (Nat.le_trans hA h.below.size)), fun b h1 h2 => (hb.block b (Nat.lt_of_lt_of_le h1 h.below.size)).trans (h.keep b h1 h2)⟩
theorem KeepX.soft {A : Nat} {es : List Ent} {j : Nat} {e : Ent} {w w1 w2 : World} (h : KeepX A es j w w1) (he : es[j]? = some e) (hs : Soft e.lo e.hi w1 w2) (hA : A ≤ e.lo) : KeepX A es (j + 1) w w2 := by
  refine ⟨h.below.trans (hs.below.mono hA), fun b h1 h2 => ?_⟩
  rw [List.take_add_one, he] at h2
  have hb := h2 e (by simp)
  have h3 : w1.heap[b]? = w.heap[b]? := h.keep b h1 fun x hx => h2 x (List.mem_append_left _ hx)
  rw [← h3]
  rcases Nat.lt_or_ge b e.lo with g | g
  · exact hs.below.block b g
  · exact hs.out b (by omega) (Nat.lt_of_lt_of_le h1 h.below.size)
theorem KeepX.row {A g : Nat} {es : List Ent} {j : Nat} {w w1 : World} (h : KeepX A es j w w1) (hE : Ents A (some g) w es) (hg : g < w.heap.size) : w1.heap[g]? = w.heap[g]? :=
  h.keep g hg fun e he h2 => by
    have := (hE.ok e (List.mem_of_mem_take he)).row g rfl
    omega
theorem KeepX.far {A C : Nat} {es : List Ent} {j : Nat} {w w1 : World} (h : KeepX A es j w w1) (hC : ∀ e ∈ es, e.hi ≤ C) {b : Nat} (h1 : C ≤ b) (h2 : b < w.heap.size) : w1.heap[b]? = w.heap[b]? :=
  h.keep b h2 fun e he h3 => by
    have := hC e (List.mem_of_mem_take he)
    omega
/-- A list with spare room behind it. -/
structure MAt (B g : Nat) (w : World) (ts : List Tree) : Prop where
  lt : g < B
  kids : SpareKids (· < B) w g 0 ts
  last : w.cell? ⟨g, ts.length * 6, none⟩ = some (.int .i64 77)
theorem MAt.below {B g : Nat} {w w' : World} {ts : List Tree} (h : MAt B g w ts) (hb : Below B w w') : MAt B g w' ts :=
  ⟨h.lt, SpareKids.keep (p := (· < B)) (fun b i hb' => hb.cell (p := ⟨b, i, none⟩) hb') h.lt h.kids, (hb.cell (p := ⟨g, _, none⟩) h.lt).trans h.last⟩
theorem MAt.lies {B g : Nat} {w : World} {ts : List Tree} (h : MAt B g w ts) : ListLies B w (some ⟨g, 0, none⟩) ts := .inr ⟨g, 0, rfl, h.lt, SpareKids.lies h.kids⟩
theorem made_list {w3 wr w5 w8 : World} {ts : List Tree} {lv : Value} {g cap : Nat} (h : Copying w3 ts ts.length lv wr) (hb : Below wr.heap.size wr w5) (xs : List Value) (ho : w8.ownsRow w3.heap.size 26 6 (.slice (some ⟨g, 0, none⟩) (ts.length + 1) cap) (ts.length + 1) (xs ++ six77)) (hg : w5.grownBy w8 lv.ownBlock)
    (hrow : Row6 (fun b => w3.heap.size ≤ b ∧ b < wr.heap.size ∧ some b ≠ lv.ownBlock) wr xs (ts.take ts.length)) (hx : xs.length = ts.length * 6) : MAt w8.heap.size g w8 ts := by
  rw [List.take_of_length_le (Nat.le_refl _)] at hrow
  have hcell : ∀ i u, (xs ++ six77)[i]? = some u → w8.cell? ⟨g, i, none⟩ = some u := fun i u hu => by
    have := ho.cells rfl i u hu
    rwa [add_plain, Nat.zero_add] at this
  refine ⟨(ho.lt g rfl).2, Row6.kids (xs := xs) (hrow.keep (fun b i hb' => ?_) (fun b hb' => ?_)) (fun i u hu => ?_), hcell _ _ ?_⟩
  · exact World.cell?_of_block ((hg.block b (Nat.lt_of_lt_of_le hb'.2.1 hb.size) hb'.2.2).trans (hb.block b hb'.2.1))
  · exact Nat.lt_of_lt_of_le hb'.2.1 (Nat.le_trans hb.size hg.size)
  · rw [Nat.zero_add]
    refine hcell i u ?_
    rw [List.getElem?_append_left (List.getElem?_eq_some_iff.1 hu).1]; exact hu
  · rw [List.getElem?_append_right (by omega), hx, Nat.sub_self]; rfl
end Go.Proofs.YtbpmhgcjefpigaaGreatDoor
