/- Maps by numbers: what they hold, and what is done to them. -/
import Derived.Test.YthfilnflgahcjaaGreatDoorJoin1
import Derived.Maps.Keyed
import Derived.MapKept
namespace Go.Proofs.YthfilnflgahcjaaGreatDoor
open Go.RowKit Go.Shelf Go.Maps
set_option linter.unusedVariables false
set_option linter.unusedSimpArgs false
/-- A number of 64 bits. -/
def I64 (k : Int) : Prop := (Lit.int .i64 k).wf = true
/-- The map at b holds just these, by their numbers. -/
def MI (w : World) (b : Nat) (es : List (Int × Value)) : Prop := ∃ ar clock, w.heap[b]? = some (.map ar clock) ∧ ar.toList.map (fun e => (e.key, e.val)) = es.map (fun p => (Value.int .i64 p.1, p.2)) ∧ (∀ p ∈ es, I64 p.1) ∧ MapKept.Stamped ar clock
theorem MI.block {w w' : World} {b : Nat} {es : List (Int × Value)} (h : MI w b es) (hb : w'.heap[b]? = w.heap[b]?) : MI w' b es := by
  obtain ⟨ar, c, h1, h2⟩ := h
  exact ⟨ar, c, hb.trans h1, h2⟩
theorem MI.lt {w : World} {b : Nat} {es : List (Int × Value)} (h : MI w b es) : b < w.heap.size := by
  obtain ⟨ar, c, h1, _⟩ := h
  exact (Array.getElem?_eq_some_iff.1 h1).1
theorem MI.below {B : Nat} {w w' : World} {b : Nat} {es : List (Int × Value)} (h : MI w b es) (hb : Below B w w') (hB : w.heap.size ≤ B) : MI w' b es := h.block (hb.block b (Nat.lt_of_lt_of_le h.lt hB))
theorem mi_none (w : World) : MI (w.alloc (.map #[] 0)) w.heap.size [] := ⟨#[], 0, World.alloc_heap_new _ _, rfl, by simp, MapKept.stamped_empty _⟩
theorem mi_keys {ar : Array MapEntry} {es : List (Int × Value)} (h : ar.toList.map (fun e => (e.key, e.val)) = es.map (fun p => (Value.int .i64 p.1, p.2))) (hs : ∀ p ∈ es, I64 p.1) : ∀ e ∈ ar.toList, ∃ l, Go.keyOf Tryz.prog 2 e.key = some l := by
  intro e he
  have : (e.key, e.val) ∈ es.map (fun p => (Value.int .i64 p.1, p.2)) := by rw [← h]; exact List.mem_map.2 ⟨e, he, rfl⟩
  obtain ⟨p, hm, e1⟩ := List.mem_map.1 this
  have e2 : Value.int .i64 p.1 = e.key := congrArg Prod.fst e1
  exact ⟨_, by rw [← e2]; exact keyOf_int_mk Tryz.underlying2 (hs p hm)⟩
theorem mi_mem {ar : Array MapEntry} {es : List (Int × Value)} (h : ar.toList.map (fun e => (e.key, e.val)) = es.map (fun p => (Value.int .i64 p.1, p.2))) {e : MapEntry} (he : e ∈ ar.toList) : ∃ p ∈ es, e.key = .int .i64 p.1 ∧ e.val = p.2 := by
  have : (e.key, e.val) ∈ es.map (fun p => (Value.int .i64 p.1, p.2)) := by rw [← h]; exact List.mem_map.2 ⟨e, he, rfl⟩
  obtain ⟨p, hm, e1⟩ := List.mem_map.1 this
  exact ⟨p, hm, (congrArg Prod.fst e1).symm, (congrArg Prod.snd e1).symm⟩
theorem mi_miss {t e : TypeId} {z : Value} (ht : Tryz.prog.underlying t = some (.map 2 e)) (hz : ∀ w, (zeroValue e).run Tryz.prog w = .ok z w) {w : World} {b : Nat} {es : List (Int × Value)} (h : MI w b es) (k : Int) (hk : I64 k) (hn : ∀ p ∈ es, p.1 ≠ k) :
    (Instr.lookup t (.map (some b)) (.int .i64 k) true).run Tryz.prog w = .ok (.tuple #[z, .bool false]) w ∧ (Instr.lookup t (.map (some b)) (.int .i64 k) false).run Tryz.prog w = .ok z w := by
  obtain ⟨ar, clock, h1, h2, h3, hS⟩ := h
  have K := int_keyed (P := Tryz.prog) Tryz.underlying2
  have hkey := keyOf_int_mk (P := Tryz.prog) Tryz.underlying2 hk
  rcases K.find w hkey ar.toList (mi_keys h2 h3) with ⟨f1, f2⟩ | ⟨j, e0, f1, f2, f3⟩
  · constructor <;> simp [Instr.lookup, run_underlying ht, MapKept.run_getObj_map h1, K.check w _ hkey, f1, hz, Result.andThen]
  · exfalso
    obtain ⟨p, hp, e1, _⟩ := mi_mem h2 (List.mem_of_getElem? f2)
    rw [f3] at e1
    have : k = p.1 := by injection e1
    exact hn p hp this.symm
theorem mi_hit {t e : TypeId} {z : Value} (ht : Tryz.prog.underlying t = some (.map 2 e)) {w : World} {b : Nat} {es : List (Int × Value)} (h : MI w b es) (k : Int) (v : Value) (hk : I64 k) (hm : (k, v) ∈ es) (hu : ∀ p ∈ es, p.1 = k → p.2 = v) :
    (Instr.lookup t (.map (some b)) (.int .i64 k) true).run Tryz.prog w = .ok (.tuple #[v, .bool true]) w ∧ (Instr.lookup t (.map (some b)) (.int .i64 k) false).run Tryz.prog w = .ok v w := by
  obtain ⟨ar, clock, h1, h2, h3, hS⟩ := h
  have K := int_keyed (P := Tryz.prog) Tryz.underlying2
  have hkey := keyOf_int_mk (P := Tryz.prog) Tryz.underlying2 hk
  rcases K.find w hkey ar.toList (mi_keys h2 h3) with ⟨f1, f2⟩ | ⟨j, e0, f1, f2, f3⟩
  · exfalso
    have : (Value.int .i64 k, v) ∈ ar.toList.map (fun e => (e.key, e.val)) := by rw [h2]; exact List.mem_map.2 ⟨_, hm, rfl⟩
    obtain ⟨e, he, e1⟩ := List.mem_map.1 this
    exact f2 e he (congrArg Prod.fst e1)
  · obtain ⟨p, hp, e1, e2⟩ := mi_mem h2 (List.mem_of_getElem? f2)
    rw [f3] at e1
    have e3' : k = p.1 := by injection e1
    have e3 : p.1 = k := e3'.symm
    have e4 : e0.val = v := e2.trans (hu p hp e3)
    rw [e4] at f1
    clear e4 e2 e3 e3' e1 hu hm hp
    constructor <;> simp [Instr.lookup, run_underlying ht, MapKept.run_getObj_map h1, K.check w _ hkey, f1, Result.andThen]
theorem mi_new {t e : TypeId} (ht : Tryz.prog.underlying t = some (.map 2 e)) {w : World} {b : Nat} {es : List (Int × Value)} (h : MI w b es) (k : Int) (v : Value) (hk : I64 k) (hn : ∀ p ∈ es, p.1 ≠ k) :
    ∃ w', (Instr.mapUpdate t (.map (some b)) (.int .i64 k) v).run Tryz.prog w = .ok () w' ∧ MI w' b (es ++ [(k, v)]) ∧ w'.heap.size = w.heap.size ∧ (∀ i, i ≠ b → w'.heap[i]? = w.heap[i]?) ∧ Below b w w' := by
  obtain ⟨ar, clock, h1, h2, h3, hS⟩ := h
  have hlt : b < w.heap.size := (Array.getElem?_eq_some_iff.1 h1).1
  have K := int_keyed (P := Tryz.prog) Tryz.underlying2
  have hkey := keyOf_int_mk (P := Tryz.prog) Tryz.underlying2 hk
  rcases K.find w hkey ar.toList (mi_keys h2 h3) with ⟨f1, f2⟩ | ⟨j, e0, f1, f2, f3⟩
  · refine ⟨{ w with heap := w.heap.setIfInBounds b (.map (ar.push ⟨.int .i64 k, v, clock⟩) (clock + 1)) }, ?_, ⟨ar.push ⟨.int .i64 k, v, clock⟩, clock + 1, ?_, ?_, ?_, MapKept.stamped_push hS f2⟩, ?_, ?_, ⟨rfl, rfl, rfl, ?_, ?_⟩⟩
    · simp [Instr.mapUpdate, run_underlying ht, MapKept.run_getObj_map h1, K.check w false hkey, f1, MapKept.run_setObj_map _ h1, Result.andThen]
    · simp [hlt]
    · simp [h2]
    · intro p hp
      rcases List.mem_append.1 hp with hp | hp
      · exact h3 p hp
      · simp only [List.mem_cons, List.not_mem_nil, or_false] at hp; rw [hp]; exact hk
    · simp
    · intro i hi
      simp [Array.getElem?_setIfInBounds_ne (Ne.symm hi)]
    · simp
    · intro i hi
      have : i ≠ b := by omega
      simp [Array.getElem?_setIfInBounds_ne (Ne.symm this)]
  · exfalso
    obtain ⟨p, hp, e1, _⟩ := mi_mem h2 (List.mem_of_getElem? f2)
    rw [f3] at e1
    have : k = p.1 := by injection e1
    exact hn p hp this.symm
end Go.Proofs.YthfilnflgahcjaaGreatDoor
