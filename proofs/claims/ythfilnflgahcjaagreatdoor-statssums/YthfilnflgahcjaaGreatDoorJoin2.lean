/- How great a step is: it is asked, and answered. Rows of things of some cells each: where they lie, rows of the call's own, one more. Maps by keys of some type: what they hold, and what is done to them. Counts by keys: one more of a key. -/
import Derived.Test.YthfilnflgahcjaaGreatDoorJoin1
import Derived.Deep.Cut
import Derived.Laws.AppendOwn
import Derived.Laws.OwnMore
import Derived.Maps.Keyed
import Derived.MapKept
import Derived.WideKeyEntry
namespace Go.Proofs.YthfilnflgahcjaaGreatDoor
open Go.RowKit Go.Shelf
set_option linter.unusedVariables false
set_option linter.unusedSimpArgs false
attribute [local go_sem] Oper.semAt_some
/-- A property at a place. -/
def PropAt (B : Nat) (w : World) (bl off : Nat) (q : ByteArray × Tree) : Prop :=
  w.cell? ⟨bl, off, none⟩ = some (.string q.1) ∧ q.1.size ≤ maxLen ∧ ∃ v0 v1 v2 v3 v4 v5, (w.cell? ⟨bl, off + 1, none⟩ = some v0 ∧ w.cell? ⟨bl, off + 2, none⟩ = some v1 ∧ w.cell? ⟨bl, off + 3, none⟩ = some v2 ∧ w.cell? ⟨bl, off + 4, none⟩ = some v3 ∧ w.cell? ⟨bl, off + 5, none⟩ = some v4 ∧ w.cell? ⟨bl, off + 6, none⟩ = some v5) ∧ Lies B w (.agg #[v0, v1, v2, v3, v4, v5]) q.2
/-- Properties in a slice. -/
def PropsLie (B : Nat) (w : World) (v : Value) (ps : List (ByteArray × Tree)) : Prop :=
  ∃ pa pc, v = .slice pa ps.length pc ∧ ps.length ≤ pc ∧ pc ≤ 9223372036854775807 ∧ (ps = [] ∨ ∃ bl off, pa = some ⟨bl, off, none⟩ ∧ bl < B ∧ ∀ i q, ps[i]? = some q → PropAt B w bl (off + i * 7) q)
theorem PropAt.below {B : Nat} {w w' : World} (h : Below B w w') {bl off : Nat} (hl : bl < B) {q : ByteArray × Tree} (hq : PropAt B w bl off q) : PropAt B w' bl off q := by
  obtain ⟨h0, h1, v0, v1, v2, v3, v4, v5, ⟨c0, c1, c2, c3, c4, c5⟩, hv⟩ := hq
  exact ⟨(h.cell (p := ⟨bl, off, none⟩) hl).trans h0, h1, v0, v1, v2, v3, v4, v5, ⟨(h.cell (p := ⟨bl, off + 1, none⟩) hl).trans c0, (h.cell (p := ⟨bl, off + 2, none⟩) hl).trans c1, (h.cell (p := ⟨bl, off + 3, none⟩) hl).trans c2, (h.cell (p := ⟨bl, off + 4, none⟩) hl).trans c3, (h.cell (p := ⟨bl, off + 5, none⟩) hl).trans c4, (h.cell (p := ⟨bl, off + 6, none⟩) hl).trans c5⟩, hv.below h⟩
theorem PropsLie.below {B : Nat} {w w' : World} (h : Below B w w') {v : Value} {ps : List (ByteArray × Tree)} (hp : PropsLie B w v ps) : PropsLie B w' v ps := by
  obtain ⟨pa, pc, e, h1, h2, h3⟩ := hp
  exact ⟨pa, pc, e, h1, h2, h3.imp id fun ⟨bl, off, e, hl, hc⟩ => ⟨bl, off, e, hl, fun i q hi => (hc i q hi).below h hl⟩⟩
end Go.Proofs.YthfilnflgahcjaaGreatDoor

namespace Go.Proofs.YthfilnflgahcjaaGreatDoor
open Go.RowKit Go.Shelf
set_option linter.unusedVariables false
set_option linter.unusedSimpArgs false
/-- A row of things, each of k cells. -/
def SRow {α : Type} (k : Nat) (enc : α → List Value) (B : Nat) (w : World) (v : Value) (xs : List α) : Prop :=
  ∃ a c, v = .slice a xs.length c ∧ xs.length ≤ c ∧ c ≤ 9223372036854775807 ∧ (xs = [] ∨ ∃ bl off, a = some ⟨bl, off, none⟩ ∧ bl < B ∧ ∀ (i : Nat) (x : α), xs[i]? = some x → ∀ (j : Nat) (u : Value), (enc x)[j]? = some u → w.cell? ⟨bl, off + i * k + j, none⟩ = some u)
theorem SRow.keep {α : Type} {k : Nat} {enc : α → List Value} {B : Nat} {w w' : World} {v : Value} {xs : List α} (h : SRow k enc B w v xs) (hb : Below B w w') : SRow k enc B w' v xs := by
  obtain ⟨a, c, h1, h2, h3, h4⟩ := h
  exact ⟨a, c, h1, h2, h3, h4.imp id fun ⟨bl, off, e, hl, hc⟩ => ⟨bl, off, e, hl, fun i x hx j u hu => (hb.cell (p := ⟨bl, off + i * k + j, none⟩) hl).trans (hc i x hx j u hu)⟩⟩
theorem SRow.mono {α : Type} {k : Nat} {enc : α → List Value} {B B' : Nat} {w : World} {v : Value} {xs : List α} (h : SRow k enc B w v xs) (hb : B ≤ B') : SRow k enc B' w v xs := by
  obtain ⟨a, c, h1, h2, h3, h4⟩ := h
  exact ⟨a, c, h1, h2, h3, h4.imp id fun ⟨bl, off, e, hl, hc⟩ => ⟨bl, off, e, Nat.lt_of_lt_of_le hl hb, hc⟩⟩
theorem SRow.up {α : Type} {k : Nat} {enc : α → List Value} {B : Nat} {w w' : World} {v : Value} {xs : List α} (h : SRow k enc B w v xs) (hb : Below B w w') (hB : B ≤ w'.heap.size) : SRow k enc w'.heap.size w' v xs := (h.keep hb).mono hB
theorem srow_nil {α : Type} (k : Nat) (enc : α → List Value) (B : Nat) (w : World) : SRow k enc B w (.slice none 0 0) [] := ⟨none, 0, rfl, Nat.le_refl _, by decide, .inl rfl⟩
theorem sflat_len {k : Nat} : ∀ (css : List (List Value)), (∀ c ∈ css, c.length = k) → css.flatten.length = css.length * k
  | [], _ => by simp
  | c :: r, h => by
    rw [List.flatten_cons, List.length_append, h c List.mem_cons_self, sflat_len r (fun d hd => h d (List.mem_cons_of_mem _ hd)), List.length_cons, Nat.add_mul, Nat.one_mul, Nat.add_comm]
theorem sflat_at {k : Nat} : ∀ (css : List (List Value)) (i q : Nat) (cs : List Value), (∀ c ∈ css, c.length = k) → css[i]? = some cs → q < k → css.flatten[i * k + q]? = cs[q]?
  | [], i, q, cs, _, hi, _ => by simp at hi
  | c :: r, 0, q, cs, h, hi, hq => by
    simp only [List.getElem?_cons_zero, Option.some.injEq] at hi
    subst hi
    rw [List.flatten_cons, Nat.zero_mul, Nat.zero_add, List.getElem?_append_left (by rw [h c List.mem_cons_self]; exact hq)]
  | c :: r, i + 1, q, cs, h, hi, hq => by
    simp only [List.getElem?_cons_succ] at hi
    have hc := h c List.mem_cons_self
    rw [List.flatten_cons, List.getElem?_append_right (by rw [hc, Nat.add_mul]; omega), hc, show (i + 1) * k + q - k = i * k + q by rw [Nat.add_mul]; omega]
    exact sflat_at r i q cs (fun d hd => h d (List.mem_cons_of_mem _ hd)) hi hq
/-- A row of the call's own. -/
def ORow {α : Type} (e k : Nat) (enc : α → List Value) (base : Nat) (w : World) (v : Value) (xs : List α) : Prop := w.ownsRow base e k v xs.length ((xs.map enc).flatten)
theorem ORow.srow {α : Type} {e k base : Nat} {enc : α → List Value} {w : World} {v : Value} {xs : List α} (hk : ∀ x, (enc x).length = k) (h : ORow e k enc base w v xs) : SRow k enc w.heap.size w v xs := by
  obtain ⟨h0, ⟨rfl, hn⟩ | ⟨g, cap, cur, rfl, hg, hh, hn, hc, hs, ht⟩⟩ := h
  · have : xs = [] := List.eq_nil_of_length_eq_zero hn
    subst this
    exact srow_nil _ _ _ _
  · refine ⟨_, cap, rfl, hn, Nat.le_trans hc (by decide), .inr ⟨g, 0, rfl, (Array.getElem?_eq_some_iff.1 hh).1, fun i x hx j u hu => ?_⟩⟩
    have hi := (List.getElem?_eq_some_iff.1 hx).1
    have hj : j < k := by have := (List.getElem?_eq_some_iff.1 hu).1; rwa [hk] at this
    have e1 := sflat_at (xs.map enc) i j (enc x) (fun c hc => by obtain ⟨y, _, rfl⟩ := List.mem_map.1 hc; exact hk y) (by rw [List.getElem?_map, hx]; rfl) hj
    have hlt : i * k + j < xs.length * k := Nat.lt_of_lt_of_le (Nat.add_lt_add_left hj _) (by rw [← Nat.add_one_mul]; exact Nat.mul_le_mul_right _ hi)
    rw [← ht, List.getElem?_take_of_lt hlt, hu, Array.getElem?_toList] at e1
    simp only [World.cell?, hh]
    simpa [Nat.zero_add] using e1
theorem orow_nil {α : Type} (e k : Nat) (enc : α → List Value) (base : Nat) (w : World) : ORow e k enc base w (.slice none 0 0) [] := ⟨by simp, .inl ⟨rfl, rfl⟩⟩
theorem ORow.keep {α : Type} {e k base : Nat} {enc : α → List Value} {w w' : World} {v : Value} {xs : List α} (h : ORow e k enc base w v xs) (hb : ∀ g, base ≤ g → g < w.heap.size → w'.heap[g]? = w.heap[g]?) : ORow e k enc base w' v xs := by
  obtain ⟨g1, ⟨g2, g3⟩ | ⟨g, cap, cur, g2, g3, g4, g5⟩⟩ := h
  · exact ⟨g1, .inl ⟨g2, g3⟩⟩
  · exact ⟨g1, .inr ⟨g, cap, cur, g2, g3, (hb g g3 (Array.getElem?_eq_some_iff.1 g4).1).trans g4, g5⟩⟩
theorem ORow.below {α : Type} {e k base : Nat} {enc : α → List Value} {w w' : World} {v : Value} {xs : List α} (h : ORow e k enc base w v xs) (hb : Below w.heap.size w w') : ORow e k enc base w' v xs := h.keep fun g _ hg => hb.block g hg
theorem ORow.slice {α : Type} {e k base : Nat} {enc : α → List Value} {w : World} {v : Value} {xs : List α} (h : ORow e k enc base w v xs) : ∃ a c, v = .slice a xs.length c := by
  obtain ⟨_, ⟨h1, h2⟩ | ⟨g, cap, cur, h1, _⟩⟩ := h
  · rw [h2]; exact ⟨none, 0, h1⟩
  · exact ⟨_, _, h1⟩
theorem ORow.base {α : Type} {e k b b' : Nat} {enc : α → List Value} {w : World} {v : Value} {xs : List α} (h : ORow e k enc b w v xs) (hb : b' ≤ b) : ORow e k enc b' w v xs := by
  obtain ⟨g1, ⟨g2, g3⟩ | ⟨g, cap, cur, g2, g3, g4, g5⟩⟩ := h
  · exact ⟨g1, .inl ⟨g2, g3⟩⟩
  · exact ⟨g1, .inr ⟨g, cap, cur, g2, Nat.le_trans hb g3, g4, g5⟩⟩
/-- What a type is, as an append wants it. -/
def ElemIs (t e k bytes : Nat) (z : Value) : Prop := Tryz.prog.underlying t = some (.slice e) ∧ ∃ i0, Tryz.prog.info? e = some i0 ∧ i0.zero = some z ∧ i0.size = k ∧ i0.bytes = bytes ∧ z.cells.size = k ∧ 0 < k ∧ bytes ≤ 4096
theorem elem_of {t e k bytes : Nat} {z : Value} (ht : Tryz.prog.underlying t = some (.slice e)) (h : (Tryz.prog.info? e).map (fun i => (i.zero, i.size, i.bytes)) = some (some z, k, bytes)) (hz : z.cells.size = k) (hk : 0 < k) (hb : bytes ≤ 4096) : ElemIs t e k bytes z := by
  obtain ⟨i0, h1, h2⟩ := Option.map_eq_some_iff.1 h
  simp only [Prod.mk.injEq] at h2
  exact ⟨ht, i0, h1, h2.1, h2.2.1, h2.2.2, hz, hk, hb⟩
/-- One more. -/
theorem append_one {α : Type} {t e ty k bytes base : Nat} {z : Value} (hE : ElemIs t e k bytes z) {enc : α → List Value} (hk : ∀ x, (enc x).length = k) (h1 : ∀ x, ∀ u ∈ enc x, u.oneCell' = true) {v : Value} {xs : List α} {x : α} {w : World} {bl off c : Nat} (hown : ORow e k enc base w v xs) (hsrc : ∀ j u, (enc x)[j]? = some u → w.cell? ⟨bl, off + j, none⟩ = some u) (hn : xs.length < 1000000) (hb : base ≤ w.heap.size) :
    ∃ v' w', (Builtin.append_ #[t, t] ty #[v, .slice (some ⟨bl, off, none⟩) 1 c]).run Tryz.prog w = .ok v' w' ∧ ORow e k enc base w' v' (xs ++ [x]) ∧ Below base w w' ∧ (∀ g, some g ≠ v.ownBlock → g < w.heap.size → w'.heap[g]? = w.heap[g]?) := by
  obtain ⟨ht, i0, hi, hz, hsize, hby, hzs, hk0, hbb⟩ := hE
  obtain ⟨v', w', q1, q2, q3, _⟩ := run_append_own (P := Tryz.prog) (w := w) base t ty e i0 z k bytes ht hi hz hsize hby hzs hk0 v xs.length _ hown ⟨bl, off, none⟩ 1 c (enc x) (by rw [hk, Nat.one_mul]) (fun j u hu => by
    have hadd : (⟨bl, off, none⟩ : Addr).add j = ⟨bl, off + j, none⟩ := by unfold Addr.add; split <;> simp_all
    rw [hadd]; exact hsrc j u hu) (h1 x) (by unfold maxLen; omega) (Nat.le_trans (Nat.mul_le_mul (show xs.length + 1 ≤ 1000000 by omega) hbb) (by decide)) hb
  refine ⟨v', w', q1, ?_, (Below.refl base w).grown q3 hb fun q h => (hown.lt q h).1, fun g hg hl => q3.block g hl hg⟩
  unfold ORow
  rw [List.length_append, List.map_append, List.flatten_append]
  simpa using q2
end Go.Proofs.YthfilnflgahcjaaGreatDoor

namespace Go.Proofs.YthfilnflgahcjaaGreatDoor
open Go.RowKit Go.Shelf Go.Maps
set_option linter.unusedVariables false
set_option linter.unusedSimpArgs false
/-- Keys of some type: what they are, how they are told apart. -/
structure KeyT {α : Type} (kt : TypeId) (enc : α → Value) (ok : α → Prop) : Prop where
  K : Keyed Tryz.prog kt
  key : ∀ x, ok x → ∃ l, keyOf Tryz.prog kt (enc x) = some l
  inj : ∀ x y, enc x = enc y → x = y
/-- The map at b holds just these. -/
def MG {α : Type} (enc : α → Value) (ok : α → Prop) (w : World) (b : Nat) (es : List (α × Value)) : Prop := ∃ ar clock, w.heap[b]? = some (.map ar clock) ∧ ar.toList.map (fun e => (e.key, e.val)) = es.map (fun p => (enc p.1, p.2)) ∧ (∀ p ∈ es, ok p.1) ∧ MapKept.Stamped ar clock
section
variable {α : Type} {kt : TypeId} {enc : α → Value} {ok : α → Prop}
theorem MG.block {w w' : World} {b : Nat} {es : List (α × Value)} (h : MG enc ok w b es) (hb : w'.heap[b]? = w.heap[b]?) : MG enc ok w' b es := by
  obtain ⟨ar, c, h1, h2⟩ := h
  exact ⟨ar, c, hb.trans h1, h2⟩
theorem MG.lt {w : World} {b : Nat} {es : List (α × Value)} (h : MG enc ok w b es) : b < w.heap.size := by
  obtain ⟨ar, c, h1, _⟩ := h
  exact (Array.getElem?_eq_some_iff.1 h1).1
theorem MG.below {B : Nat} {w w' : World} {b : Nat} {es : List (α × Value)} (h : MG enc ok w b es) (hb : Below B w w') (hB : w.heap.size ≤ B) : MG enc ok w' b es := h.block (hb.block b (Nat.lt_of_lt_of_le h.lt hB))
theorem mg_none (w : World) : MG enc ok (w.alloc (.map #[] 0)) w.heap.size [] := ⟨#[], 0, World.alloc_heap_new _ _, rfl, by simp, MapKept.stamped_empty _⟩
theorem mg_keys (T : KeyT kt enc ok) {ar : Array MapEntry} {es : List (α × Value)} (h : ar.toList.map (fun e => (e.key, e.val)) = es.map (fun p => (enc p.1, p.2))) (hs : ∀ p ∈ es, ok p.1) : ∀ e ∈ ar.toList, ∃ l, Go.keyOf Tryz.prog kt e.key = some l := by
  intro e he
  have : (e.key, e.val) ∈ es.map (fun p => (enc p.1, p.2)) := by rw [← h]; exact List.mem_map.2 ⟨e, he, rfl⟩
  obtain ⟨p, hm, e1⟩ := List.mem_map.1 this
  have e2 : enc p.1 = e.key := congrArg Prod.fst e1
  rw [← e2]; exact T.key _ (hs p hm)
theorem mg_mem {ar : Array MapEntry} {es : List (α × Value)} (h : ar.toList.map (fun e => (e.key, e.val)) = es.map (fun p => (enc p.1, p.2))) {e : MapEntry} (he : e ∈ ar.toList) : ∃ p ∈ es, e.key = enc p.1 ∧ e.val = p.2 := by
  have : (e.key, e.val) ∈ es.map (fun p => (enc p.1, p.2)) := by rw [← h]; exact List.mem_map.2 ⟨e, he, rfl⟩
  obtain ⟨p, hm, e1⟩ := List.mem_map.1 this
  exact ⟨p, hm, (congrArg Prod.fst e1).symm, (congrArg Prod.snd e1).symm⟩
theorem mg_miss (T : KeyT kt enc ok) {t e : TypeId} {z : Value} (ht : Tryz.prog.underlying t = some (.map kt e)) (hz : ∀ w, (zeroValue e).run Tryz.prog w = .ok z w) {w : World} {b : Nat} {es : List (α × Value)} (h : MG enc ok w b es) (k : α) (hk : ok k) (hn : ∀ p ∈ es, p.1 ≠ k) :
    (Instr.lookup t (.map (some b)) (enc k) true).run Tryz.prog w = .ok (.tuple #[z, .bool false]) w ∧ (Instr.lookup t (.map (some b)) (enc k) false).run Tryz.prog w = .ok z w := by
  obtain ⟨ar, clock, h1, h2, h3, hS⟩ := h
  have K := T.K
  obtain ⟨lk, hkey⟩ := T.key k hk
  rcases K.find w hkey ar.toList (mg_keys T h2 h3) with ⟨f1, f2⟩ | ⟨j, e0, f1, f2, f3⟩
  · constructor <;> simp [Instr.lookup, run_underlying ht, MapKept.run_getObj_map h1, K.check w _ hkey, f1, hz, Result.andThen]
  · exfalso
    obtain ⟨p, hp, e1, _⟩ := mg_mem h2 (List.mem_of_getElem? f2)
    rw [f3] at e1
    have : k = p.1 := T.inj _ _ e1
    exact hn p hp this.symm
theorem mg_hit (T : KeyT kt enc ok) {t e : TypeId} {z : Value} (ht : Tryz.prog.underlying t = some (.map kt e)) {w : World} {b : Nat} {es : List (α × Value)} (h : MG enc ok w b es) (k : α) (v : Value) (hk : ok k) (hm : (k, v) ∈ es) (hu : ∀ p ∈ es, p.1 = k → p.2 = v) :
    (Instr.lookup t (.map (some b)) (enc k) true).run Tryz.prog w = .ok (.tuple #[v, .bool true]) w ∧ (Instr.lookup t (.map (some b)) (enc k) false).run Tryz.prog w = .ok v w := by
  obtain ⟨ar, clock, h1, h2, h3, hS⟩ := h
  have K := T.K
  obtain ⟨lk, hkey⟩ := T.key k hk
  rcases K.find w hkey ar.toList (mg_keys T h2 h3) with ⟨f1, f2⟩ | ⟨j, e0, f1, f2, f3⟩
  · exfalso
    have : (enc k, v) ∈ ar.toList.map (fun e => (e.key, e.val)) := by rw [h2]; exact List.mem_map.2 ⟨_, hm, rfl⟩
    obtain ⟨e, he, e1⟩ := List.mem_map.1 this
    exact f2 e he (congrArg Prod.fst e1)
  · obtain ⟨p, hp, e1, e2⟩ := mg_mem h2 (List.mem_of_getElem? f2)
    rw [f3] at e1
    have e3' : k = p.1 := T.inj _ _ e1
    have e3 : p.1 = k := e3'.symm
    have e4 : e0.val = v := e2.trans (hu p hp e3)
    rw [e4] at f1
    clear e4 e2 e3 e3' e1 hu hm hp
    constructor <;> simp [Instr.lookup, run_underlying ht, MapKept.run_getObj_map h1, K.check w _ hkey, f1, Result.andThen]
theorem mg_new (T : KeyT kt enc ok) {t e : TypeId} (ht : Tryz.prog.underlying t = some (.map kt e)) {w : World} {b : Nat} {es : List (α × Value)} (h : MG enc ok w b es) (k : α) (v : Value) (hk : ok k) (hn : ∀ p ∈ es, p.1 ≠ k) :
    ∃ w', (Instr.mapUpdate t (.map (some b)) (enc k) v).run Tryz.prog w = .ok () w' ∧ MG enc ok w' b (es ++ [(k, v)]) ∧ w'.heap.size = w.heap.size ∧ (∀ i, i ≠ b → w'.heap[i]? = w.heap[i]?) ∧ Below b w w' := by
  obtain ⟨ar, clock, h1, h2, h3, hS⟩ := h
  have hlt : b < w.heap.size := (Array.getElem?_eq_some_iff.1 h1).1
  have K := T.K
  obtain ⟨lk, hkey⟩ := T.key k hk
  rcases K.find w hkey ar.toList (mg_keys T h2 h3) with ⟨f1, f2⟩ | ⟨j, e0, f1, f2, f3⟩
  · refine ⟨{ w with heap := w.heap.setIfInBounds b (.map (ar.push ⟨enc k, v, clock⟩) (clock + 1)) }, ?_, ⟨ar.push ⟨enc k, v, clock⟩, clock + 1, ?_, ?_, ?_, MapKept.stamped_push hS f2⟩, ?_, ?_, ⟨rfl, rfl, rfl, ?_, ?_⟩⟩
    · simp [Instr.mapUpdate, run_underlying ht, MapKept.run_getObj_map h1, K.check w false hkey, f1, MapKept.run_setObj_map _ h1, Result.andThen]
    · simp [hlt]
    · simp [h2]
    · intro p hp
      rcases List.mem_append.1 hp with hp | hp
      · exact h3 p hp
      · simp only [List.mem_cons, List.not_mem_nil, or_false] at hp; rw [hp]; exact hk
    · simp
    · intro i hi
      simp [Array.getElem?_setIfInBounds_ne (Ne.symm hi)]
    · simp
    · intro i hi
      have : i ≠ b := by omega
      simp [Array.getElem?_setIfInBounds_ne (Ne.symm this)]
  · exfalso
    obtain ⟨p, hp, e1, _⟩ := mg_mem h2 (List.mem_of_getElem? f2)
    rw [f3] at e1
    have : k = p.1 := T.inj _ _ e1
    exact hn p hp this.symm
/-- The place of a key that stands once. -/
theorem mg_set (T : KeyT kt enc ok) {t e : TypeId} (ht : Tryz.prog.underlying t = some (.map kt e)) {w : World} {b : Nat} {es : List (α × Value)} (h : MG enc ok w b es) (j : Nat) (k : α) (v0 v : Value) (hk : ok k) (hj : es[j]? = some (k, v0)) (hu : ∀ i p, es[i]? = some p → p.1 = k → i = j) :
    ∃ w', (Instr.mapUpdate t (.map (some b)) (enc k) v).run Tryz.prog w = .ok () w' ∧ MG enc ok w' b (es.set j (k, v)) ∧ w'.heap.size = w.heap.size ∧ (∀ i, i ≠ b → w'.heap[i]? = w.heap[i]?) ∧ Below b w w' := by
  obtain ⟨ar, clock, h1, h2, h3, hS⟩ := h
  have hlt : b < w.heap.size := (Array.getElem?_eq_some_iff.1 h1).1
  have K := T.K
  obtain ⟨lk, hkey⟩ := T.key k hk
  rcases K.find w hkey ar.toList (mg_keys T h2 h3) with ⟨f1, f2⟩ | ⟨i, e0, f1, f2, f3⟩
  · exfalso
    have : (enc k, v0) ∈ ar.toList.map (fun e => (e.key, e.val)) := by rw [h2]; exact List.mem_map.2 ⟨_, List.mem_of_getElem? hj, rfl⟩
    obtain ⟨e, he, e1⟩ := List.mem_map.1 this
    exact f2 e he (congrArg Prod.fst e1)
  · have hi2 : (es.map (fun p => (enc p.1, p.2)))[i]? = some (e0.key, e0.val) := by rw [← h2, List.getElem?_map, f2]; rfl
    rw [List.getElem?_map] at hi2
    obtain ⟨p, hp, e1⟩ := Option.map_eq_some_iff.1 hi2
    have e2 : enc p.1 = enc k := (congrArg Prod.fst e1).trans f3
    have e3 : p.1 = k := T.inj _ _ e2
    have hij := hu i p hp e3
    subst hij
    have hil : i < ar.size := by
      have := (List.getElem?_eq_some_iff.1 f2).1
      simpa using this
    have hst := K.stays w hkey
    have hai : ar[i]? = some e0 := by rw [← Array.getElem?_toList]; exact f2
    have hrun : (Instr.mapUpdate t (.map (some b)) (enc k) v).run Tryz.prog w = .ok () { w with heap := w.heap.setIfInBounds b (.map (ar.modify i fun e => { e with key := enc k, val := v }) clock) } := by
      simp [Instr.mapUpdate, run_underlying ht, MapKept.run_getObj_map h1, K.check w false hkey, f1, hai, f3, hst, MapKept.run_setObj_map _ h1, Result.andThen]
    refine ⟨_, hrun, ⟨ar.modify i fun e => { e with key := enc k, val := v }, clock, ?_, ?_, ?_, MapKept.stamped_modify hS i _ (fun _ _ => rfl) (fun e _ he => by rw [hai] at he; cases he; exact f3.symm)⟩, ?_, ?_, ⟨rfl, rfl, rfl, ?_, ?_⟩⟩
    · simp [hlt]
    · refine List.ext_getElem? fun m => ?_
      have hm2 := congrArg (fun l => l[m]?) h2
      simp only [List.getElem?_map] at hm2
      simp only [List.getElem?_map, Array.getElem?_toList, Array.getElem?_modify, List.getElem?_set] at hm2 ⊢
      by_cases hmi : i = m
      · subst hmi
        have hel := (List.getElem?_eq_some_iff.1 hp).1
        simp [hai, hel]
      · simp [hmi, hm2]
    · intro p' hp'
      rcases List.mem_or_eq_of_mem_set hp' with h | h
      · exact h3 p' h
      · rw [h]; exact hk
    · simp
    · intro q hq
      simp [Array.getElem?_setIfInBounds_ne (Ne.symm hq)]
    · simp
    · intro q hq
      have : q ≠ b := by omega
      simp [Array.getElem?_setIfInBounds_ne (Ne.symm this)]
theorem smap_erase {β γ : Type} (f : β → γ) : ∀ (l : List β) (j : Nat), (l.eraseIdx j).map f = (l.map f).eraseIdx j
  | [], j => by simp
  | x :: l, 0 => by simp
  | x :: l, j + 1 => by simp [smap_erase f l j]
theorem mg_del (T : KeyT kt enc ok) {t e ty : TypeId} (ht : Tryz.prog.underlying t = some (.map kt e)) {w : World} {b : Nat} {es : List (α × Value)} (h : MG enc ok w b es) (j : Nat) (k : α) (v0 : Value) (hk : ok k) (hj : es[j]? = some (k, v0)) (hu : ∀ i p, es[i]? = some p → p.1 = k → i = j) :
    ∃ w', (Builtin.delete_ #[t, kt] ty #[.map (some b), enc k]).run Tryz.prog w = .ok (.tuple #[]) w' ∧ MG enc ok w' b (es.eraseIdx j) ∧ w'.heap.size = w.heap.size ∧ (∀ i, i ≠ b → w'.heap[i]? = w.heap[i]?) ∧ Below b w w' := by
  obtain ⟨ar, clock, h1, h2, h3, hS⟩ := h
  have hlt : b < w.heap.size := (Array.getElem?_eq_some_iff.1 h1).1
  have K := T.K
  obtain ⟨lk, hkey⟩ := T.key k hk
  rcases K.find w hkey ar.toList (mg_keys T h2 h3) with ⟨f1, f2⟩ | ⟨i, e0, f1, f2, f3⟩
  · exfalso
    have : (enc k, v0) ∈ ar.toList.map (fun e => (e.key, e.val)) := by rw [h2]; exact List.mem_map.2 ⟨_, List.mem_of_getElem? hj, rfl⟩
    obtain ⟨e, he, e1⟩ := List.mem_map.1 this
    exact f2 e he (congrArg Prod.fst e1)
  · have hi2 : (es.map (fun p => (enc p.1, p.2)))[i]? = some (e0.key, e0.val) := by rw [← h2, List.getElem?_map, f2]; rfl
    rw [List.getElem?_map] at hi2
    obtain ⟨p, hp, e1⟩ := Option.map_eq_some_iff.1 hi2
    have e2 : enc p.1 = enc k := (congrArg Prod.fst e1).trans f3
    have e3 : p.1 = k := T.inj _ _ e2
    have hij := hu i p hp e3
    subst hij
    have hil : i < ar.size := by
      have := (List.getElem?_eq_some_iff.1 f2).1
      simpa using this
    have hrun : (Builtin.delete_ #[t, kt] ty #[.map (some b), enc k]).run Tryz.prog w = .ok (.tuple #[]) { w with heap := w.heap.setIfInBounds b (.map (ar.eraseIdxIfInBounds i) clock) } := by
      simp [Builtin.delete_, run_underlying ht, MapKept.run_getObj_map h1, K.check w _ hkey, f1, MapKept.run_setObj_map _ h1, Result.andThen]
    refine ⟨_, hrun, ⟨ar.eraseIdxIfInBounds i, clock, ?_, ?_, ?_, MapKept.stamped_erase hS i⟩, ?_, ?_, ⟨rfl, rfl, rfl, ?_, ?_⟩⟩
    · simp [hlt]
    · rw [Array.toList_eraseIdxIfInBounds, smap_erase, h2, smap_erase]
    · intro p' hp'
      exact h3 p' (List.mem_of_mem_eraseIdx hp')
    · simp
    · intro q hq
      simp [Array.getElem?_setIfInBounds_ne (Ne.symm hq)]
    · simp
    · intro q hq
      have : q ≠ b := by omega
      simp [Array.getElem?_setIfInBounds_ne (Ne.symm this)]
end
end Go.Proofs.YthfilnflgahcjaaGreatDoor

namespace Go.Proofs.YthfilnflgahcjaaGreatDoor
open Go.RowKit Go.Shelf Go.Maps
set_option linter.unusedVariables false
set_option linter.unusedSimpArgs false
section
variable {α : Type} {kt : TypeId} {enc : α → Value} {ok : α → Prop}
theorem mg_index {ar : Array MapEntry} {es : List (α × Value)} (h : ar.toList.map (fun e => (e.key, e.val)) = es.map (fun p => (enc p.1, p.2))) {j : Nat} {k : α} {v : Value} (hj : es[j]? = some (k, v)) : ∃ e0, ar.toList[j]? = some e0 ∧ e0.key = enc k ∧ e0.val = v := by
  have := congrArg (fun l => l[j]?) h
  simp only [List.getElem?_map, hj, Option.map_some] at this
  obtain ⟨e0, h1, h2⟩ := Option.map_eq_some_iff.1 this
  exact ⟨e0, h1, congrArg Prod.fst h2, congrArg Prod.snd h2⟩
/-- The entry of a key that is there: its value, its stamp; what is stored there is what an update stores. -/
theorem mg_entry_hit (T : KeyT kt enc ok) {t e : TypeId} (ht : Tryz.prog.underlying t = some (.map kt e)) {w : World} {b : Nat} {es : List (α × Value)} (h : MG enc ok w b es) (j : Nat) (k : α) (v : Value) (hk : ok k) (hj : es[j]? = some (k, v)) :
    ∃ st : Nat, (∀ ar c, w.heap[b]? = some (.map ar c) → (ar.toList[j]?).map (·.born) = some st) ∧ (Instr.mapEntry t (.map (some b)) (enc k)).run Tryz.prog w = .ok (.tuple #[v, .int .i64 st]) w ∧ ∀ x, (Instr.entryStore t (.map (some b)) (.int .i64 st) x).run Tryz.prog w = (Instr.mapUpdate t (.map (some b)) (enc k) x).run Tryz.prog w := by
  obtain ⟨ar, clock, h1, h2, h3, hS⟩ := h
  have K := T.K
  obtain ⟨lk, hkey⟩ := T.key k hk
  obtain ⟨e1, g1, g2, g3⟩ := mg_index h2 hj
  obtain ⟨s1, s2, s3⟩ := hS
  rcases K.find w hkey ar.toList (mg_keys T h2 h3) with ⟨f1, f2⟩ | ⟨i, e0, f1, f2, f3⟩
  · exact absurd g2 (f2 e1 (List.mem_of_getElem? g1))
  · have hij : i = j := by
      refine (List.getElem?_inj (l := ar.toList.map (·.key)) (by simpa using (List.getElem?_eq_some_iff.1 f2).1) s3).1 ?_
      rw [List.getElem?_map, List.getElem?_map, f2, g1, Option.map_some, Option.map_some, f3, g2]
    subst hij
    rw [f2] at g1
    obtain rfl := Option.some.inj g1
    have hai : ar[i]? = some e0 := by rw [← Array.getElem?_toList]; exact f2
    have hsame : ar.modify i (fun e => { e with key := enc k }) = ar := by
      apply Array.ext'
      rw [Array.toList_modify, ChangeMaps.modify_eq_set _ _ _ _ f2]
      have : ({ e0 with key := enc k } : MapEntry) = e0 := by rw [← f3]
      rw [this]
      exact WideElems.set_self _ _ _ f2
    have hw : ({ w with heap := w.heap.setIfInBounds b (.map ar clock) } : World) = w := by
      have : w.heap.setIfInBounds b (.map ar clock) = w.heap := by
        apply Array.ext'
        rw [Array.toList_setIfInBounds]
        exact WideElems.set_self _ _ _ (by simpa using h1)
      rw [this]
    refine ⟨e0.born, fun ar' c' hh => by rw [h1] at hh; obtain ⟨rfl, rfl⟩ : ar = ar' ∧ clock = c' := by injection hh with hh; injection hh with x y; exact ⟨x, y⟩
                                         rw [f2]; rfl, ?_, fun x => ?_⟩
    · simp [Instr.mapEntry, run_underlying ht, MapKept.run_getObj_map h1, K.check w false hkey, f1, hai, f3, K.stays w hkey, hsame, MapKept.run_setObj_map _ h1, Result.andThen, hw, goInt, g3]
    · have hidx : ar.findIdx? (fun e => ((e.born : Nat) : Int) == ((e0.born : Nat) : Int)) = some i := by
        rw [WideElems.findIdx_arr]
        exact WideElems.findIdx_born s2 f2
      have hmod : ar.modify i (fun e => { e with val := x }) = ar.modify i (fun e' => { e' with key := enc k, val := x }) := by
        apply Array.ext'
        rw [Array.toList_modify, Array.toList_modify, ChangeMaps.modify_eq_set _ _ _ _ f2, ChangeMaps.modify_eq_set _ _ _ _ f2, ← f3]
      simp [Instr.entryStore, Instr.mapUpdate, run_underlying ht, MapKept.run_getObj_map h1, asInt, asIntOf, goInt, hidx, hmod, K.check w false hkey, f1, hai, f3, K.stays w hkey, MapKept.run_setObj_map _ h1, Result.andThen]
/-- The entry of a key that is not there: made as an update makes it. -/
theorem mg_entry_miss (T : KeyT kt enc ok) {t e : TypeId} {z : Value} (ht : Tryz.prog.underlying t = some (.map kt e)) (hz : ∀ w, (zeroValue e).run Tryz.prog w = .ok z w) {w : World} {b : Nat} {es : List (α × Value)} (h : MG enc ok w b es) (k : α) (hk : ok k) (hn : ∀ p ∈ es, p.1 ≠ k) :
    ∃ (st : Nat) (w1 : World), (Instr.mapEntry t (.map (some b)) (enc k)).run Tryz.prog w = .ok (.tuple #[z, .int .i64 st]) w1 ∧ MG enc ok w1 b (es ++ [(k, z)]) ∧ w1.heap.size = w.heap.size ∧ (∀ i, i ≠ b → w1.heap[i]? = w.heap[i]?) ∧ Below b w w1 ∧ ∀ x, (Instr.entryStore t (.map (some b)) (.int .i64 st) x).run Tryz.prog w1 = (Instr.mapUpdate t (.map (some b)) (enc k) x).run Tryz.prog w1 := by
  obtain ⟨w1, q1, q2, q3, q4, q5⟩ := mg_new T ht h k z hk hn
  have h' := h
  obtain ⟨ar, clock, h1, h2, h3, hS⟩ := h'
  have K := T.K
  obtain ⟨lk, hkey⟩ := T.key k hk
  rcases K.find w hkey ar.toList (mg_keys T h2 h3) with ⟨f1, f2⟩ | ⟨j, e0, f1, f2, f3⟩
  · have e1 : (Instr.mapUpdate t (.map (some b)) (enc k) z).run Tryz.prog w = .ok () { w with heap := w.heap.setIfInBounds b (.map (ar.push ⟨enc k, z, clock⟩) (clock + 1)) } := by
      simp [Instr.mapUpdate, run_underlying ht, MapKept.run_getObj_map h1, K.check w false hkey, f1, MapKept.run_setObj_map _ h1, Result.andThen]
    rw [q1] at e1
    have e2 : w1 = { w with heap := w.heap.setIfInBounds b (.map (ar.push ⟨enc k, z, clock⟩) (clock + 1)) } := by injection e1
    obtain ⟨st, p0, p1, p2⟩ := mg_entry_hit T ht q2 es.length k z hk (by simp)
    refine ⟨clock, w1, ?_, q2, q3, q4, q5, ?_⟩
    · rw [e2]
      simp [Instr.mapEntry, run_underlying ht, MapKept.run_getObj_map h1, K.check w false hkey, f1, hz, MapKept.run_setObj_map _ h1, Result.andThen, goInt]
    · have hb1 : w1.heap[b]? = some (.map (ar.push ⟨enc k, z, clock⟩) (clock + 1)) := by
        rw [e2]
        simp [(Array.getElem?_eq_some_iff.1 h1).1]
      have hlen : es.length = ar.size := by have := congrArg List.length h2; simpa using this.symm
      have hst : st = clock := by
        have := p0 _ _ hb1
        rw [hlen] at this
        simpa using this.symm
      rw [← hst]
      exact p2
  · exfalso
    obtain ⟨p, hp, e1, _⟩ := mg_mem h2 (List.mem_of_getElem? f2)
    rw [f3] at e1
    exact hn p hp (T.inj _ _ e1).symm
/-- Counts by keys. -/
def MC (enc : α → Value) (ok : α → Prop) (w : World) (b : Nat) (cs : List (α × Int)) : Prop := MG enc ok w b (cs.map fun p => (p.1, .int .i64 p.2))
variable [DecidableEq α]
def bump (k : α) (d : Int) : List (α × Int) → List (α × Int)
  | [] => [(k, d)]
  | (a, n) :: r => if a = k then (a, n + d) :: r else (a, n) :: bump k d r
def countOf (k : α) : List (α × Int) → Int
  | [] => 0
  | (a, n) :: r => if a = k then n else countOf k r
theorem bump_new {k : α} {d : Int} : ∀ {cs : List (α × Int)}, (∀ p ∈ cs, p.1 ≠ k) → bump k d cs = cs ++ [(k, d)] ∧ countOf k cs = 0
  | [], _ => ⟨rfl, rfl⟩
  | (a, n) :: r, h => by
    have h0 : a ≠ k := h (a, n) List.mem_cons_self
    obtain ⟨h1, h2⟩ := bump_new (d := d) (cs := r) fun p hp => h p (List.mem_cons_of_mem _ hp)
    rw [bump, countOf, if_neg h0, if_neg h0, h1]
    exact ⟨rfl, h2⟩
theorem bump_old {k : α} {d : Int} : ∀ {cs : List (α × Int)}, ¬ (∀ p ∈ cs, p.1 ≠ k) → ∃ j, cs[j]? = some (k, countOf k cs) ∧ bump k d cs = cs.set j (k, countOf k cs + d)
  | [], h => absurd (fun p hp => by simp at hp) h
  | (a, n) :: r, h => by
    by_cases h0 : a = k
    · subst h0
      exact ⟨0, by simp [countOf], by simp [bump, countOf]⟩
    · obtain ⟨j, h1, h2⟩ := bump_old (k := k) (d := d) (cs := r) fun h' => h fun p hp => by
        rcases List.mem_cons.1 hp with rfl | hp
        · exact h0
        · exact h' p hp
      exact ⟨j + 1, by simpa [countOf, h0] using h1, by simp [bump, countOf, h0, h2]⟩
theorem bump_keys (k : α) (d : Int) : ∀ (cs : List (α × Int)) (x : α), x ∈ (bump k d cs).map Prod.fst ↔ x = k ∨ x ∈ cs.map Prod.fst
  | [], x => by simp [bump]
  | (a, n) :: r, x => by
    rw [bump]
    split
    · rename_i h; subst h; simp
    · simp only [List.map_cons, List.mem_cons, bump_keys k d r x]
      constructor
      · rintro (h | h | h) <;> simp [h]
      · rintro (h | h | h) <;> simp [h]
theorem bump_nodup (k : α) (d : Int) : ∀ (cs : List (α × Int)), (cs.map Prod.fst).Nodup → ((bump k d cs).map Prod.fst).Nodup
  | [], _ => by simp [bump]
  | (a, n) :: r, h => by
    simp only [List.map_cons, List.nodup_cons] at h
    rw [bump]
    split
    · simpa using h
    · rename_i h0
      simp only [List.map_cons, List.nodup_cons, bump_keys]
      exact ⟨fun h' => h'.elim h0 h.1, bump_nodup k d r h.2⟩
theorem count_bump (k : α) (d : Int) (x : α) : ∀ (cs : List (α × Int)), countOf x (bump k d cs) = countOf x cs + if x = k then d else 0
  | [] => by
    simp only [bump, countOf]
    by_cases h : k = x
    · simp [h]
    · simp [h, Ne.symm h]
  | (a, n) :: r => by
    rw [bump]
    by_cases h : a = k
    · subst h
      simp only [if_true, countOf]
      by_cases h2 : a = x
      · simp [h2]
      · simp [h2, Ne.symm h2]
    · simp only [h, if_false, countOf]
      by_cases h2 : a = x
      · subst h2; simp [h]
      · simp only [h2, if_false]; exact count_bump k d x r
/-- One key's count goes up: what is looked up, ahead of its entry's making and behind it; what is stored. -/
theorem mc_bump (T : KeyT kt enc ok) {t : TypeId} (ht : Tryz.prog.underlying t = some (.map kt 2)) {w : World} {b : Nat} {cs : List (α × Int)} (h : MC enc ok w b cs) (nd : (cs.map Prod.fst).Nodup) (k : α) (hk : ok k) (d : Int) :
    ∃ (st : Nat) (w1 w2 : World), (Instr.lookup t (.map (some b)) (enc k) false).run Tryz.prog w = .ok (.int .i64 (countOf k cs)) w ∧ (Instr.mapEntry t (.map (some b)) (enc k)).run Tryz.prog w = .ok (.tuple #[.int .i64 (countOf k cs), .int .i64 st]) w1 ∧ (Instr.lookup t (.map (some b)) (enc k) false).run Tryz.prog w1 = .ok (.int .i64 (countOf k cs)) w1 ∧ (Instr.entryStore t (.map (some b)) (.int .i64 st) (.int .i64 (countOf k cs + d))).run Tryz.prog w1 = .ok () w2 ∧ MC enc ok w2 b (bump k d cs) ∧ w2.heap.size = w.heap.size ∧ (∀ i, i ≠ b → w2.heap[i]? = w.heap[i]?) ∧ Below b w w2 := by
  have hz : ∀ w, (zeroValue 2).run Tryz.prog w = .ok (.int .i64 0) w := Tryz.zeroValue2
  have nodup_at : ∀ {l : List (α × Value)}, (l.map Prod.fst).Nodup → ∀ {j : Nat} {v : Value}, l[j]? = some (k, v) → (∀ i p, l[i]? = some p → p.1 = k → i = j) ∧ (∀ p ∈ l, p.1 = k → p.2 = v) := by
    intro l hl j v hj
    have h1 : ∀ i p, l[i]? = some p → p.1 = k → i = j := fun i p hi hp => by
      refine (List.getElem?_inj (l := l.map Prod.fst) (by simpa using (List.getElem?_eq_some_iff.1 hi).1) hl).1 ?_
      rw [List.getElem?_map, List.getElem?_map, hi, hj, Option.map_some, Option.map_some, hp]
    refine ⟨h1, fun p hp hpk => ?_⟩
    obtain ⟨i, hi⟩ := List.getElem?_of_mem hp
    have := h1 i p hi hpk
    subst this
    rw [hi] at hj
    obtain rfl := Option.some.inj hj
    rfl
  by_cases hn : ∀ p ∈ cs, p.1 ≠ k
  · obtain ⟨e1, e2⟩ := bump_new (d := d) hn
    have hn' : ∀ p ∈ cs.map (fun p => (p.1, Value.int .i64 p.2)), p.1 ≠ k := fun p hp => by
      obtain ⟨q, hq, rfl⟩ := List.mem_map.1 hp
      exact hn q hq
    obtain ⟨st, w1, q1, q2, q3, q4, q5, q6⟩ := mg_entry_miss T ht hz h k hk hn'
    have nd1 : ((cs.map (fun p => (p.1, Value.int .i64 p.2)) ++ [(k, Value.int .i64 0)]).map Prod.fst).Nodup := by
      rw [List.map_append, List.map_map]
      refine List.nodup_append.2 ⟨by simpa [Function.comp_def] using nd, by simp, fun a ha c hc => ?_⟩
      simp only [List.map_cons, List.map_nil, List.mem_singleton] at hc
      subst hc
      obtain ⟨q, hq, rfl⟩ := List.mem_map.1 ha
      exact hn q hq
    have hj : (cs.map (fun p => (p.1, Value.int .i64 p.2)) ++ [(k, Value.int .i64 0)])[cs.length]? = some (k, .int .i64 0) := by
      rw [List.getElem?_append_right (by simp)]; simp
    obtain ⟨hu1, hu2⟩ := nodup_at nd1 hj
    obtain ⟨w2, r1, r2, r3, r4, r5⟩ := mg_set T ht q2 cs.length k (.int .i64 0) (.int .i64 (0 + d)) hk hj hu1
    refine ⟨st, w1, w2, ?_, ?_, ?_, ?_, ?_, r3.trans q3, fun i hi => (r4 i hi).trans (q4 i hi), q5.trans r5⟩
    · rw [e2]; exact (mg_miss T ht hz h k hk hn').2
    · rw [e2]; exact q1
    · rw [e2]; exact (mg_hit (z := .int .i64 0) T ht q2 k (.int .i64 0) hk (List.mem_of_getElem? hj) hu2).2
    · rw [q6, e2]; exact r1
    · rw [e1]
      unfold MC
      have : (cs.map (fun p => (p.1, Value.int .i64 p.2)) ++ [(k, Value.int .i64 0)]).set cs.length (k, .int .i64 (0 + d)) = (cs ++ [(k, d)]).map fun p => (p.1, .int .i64 p.2) := by
        rw [List.set_append_right _ _ (by simp)]
        simp
      rw [← this]; exact r2
  · obtain ⟨j, e1, e2⟩ := bump_old (d := d) hn
    have hj : (cs.map (fun p => (p.1, Value.int .i64 p.2)))[j]? = some (k, .int .i64 (countOf k cs)) := by rw [List.getElem?_map, e1]; rfl
    obtain ⟨hu1, hu2⟩ := nodup_at (l := cs.map (fun p => (p.1, Value.int .i64 p.2))) (by rw [List.map_map]; simpa [Function.comp_def] using nd) hj
    obtain ⟨st, _, q1, q2⟩ := mg_entry_hit T ht h j k _ hk hj
    obtain ⟨w2, r1, r2, r3, r4, r5⟩ := mg_set T ht h j k _ (.int .i64 (countOf k cs + d)) hk hj hu1
    have hl := (mg_hit (z := .int .i64 0) T ht h k _ hk (List.mem_of_getElem? hj) hu2).2
    refine ⟨st, w, w2, hl, q1, hl, (q2 _).trans r1, ?_, r3, r4, r5⟩
    unfold MC
    rw [e2, List.map_set]
    exact r2
end
end Go.Proofs.YthfilnflgahcjaaGreatDoor

