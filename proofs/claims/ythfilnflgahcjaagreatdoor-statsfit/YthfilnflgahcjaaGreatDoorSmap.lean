/- Maps by keys of some type: what they hold, and what is done to them. -/
import Derived.Test.YthfilnflgahcjaaGreatDoorJoin3
import Derived.Maps.Keyed
import Derived.MapKept
namespace Go.Proofs.YthfilnflgahcjaaGreatDoor
open Go.RowKit Go.Shelf Go.Maps
set_option linter.unusedVariables false
set_option linter.unusedSimpArgs false
/-- Keys of some type: what they are, how they are told apart. -/
structure KeyT {α : Type} (kt : TypeId) (enc : α → Value) (ok : α → Prop) : Prop where
  K : Keyed Tryz.prog kt
  key : ∀ x, ok x → ∃ l, keyOf Tryz.prog kt (enc x) = some l
  inj : ∀ x y, enc x = enc y → x = y
/-- The map at b holds just these. -/
def MG {α : Type} (enc : α → Value) (ok : α → Prop) (w : World) (b : Nat) (es : List (α × Value)) : Prop := ∃ ar clock, w.heap[b]? = some (.map ar clock) ∧ ar.toList.map (fun e => (e.key, e.val)) = es.map (fun p => (enc p.1, p.2)) ∧ (∀ p ∈ es, ok p.1) ∧ MapKept.Stamped ar clock
section
variable {α : Type} {kt : TypeId} {enc : α → Value} {ok : α → Prop}
theorem MG.block {w w' : World} {b : Nat} {es : List (α × Value)} (h : MG enc ok w b es) (hb : w'.heap[b]? = w.heap[b]?) : MG enc ok w' b es := by
  obtain ⟨ar, c, h1, h2⟩ := h
  exact ⟨ar, c, hb.trans h1, h2⟩
theorem MG.lt {w : World} {b : Nat} {es : List (α × Value)} (h : MG enc ok w b es) : b < w.heap.size := by
  obtain ⟨ar, c, h1, _⟩ := h
  exact (Array.getElem?_eq_some_iff.1 h1).1
theorem MG.below {B : Nat} {w w' : World} {b : Nat} {es : List (α × Value)} (h : MG enc ok w b es) (hb : Below B w w') (hB : w.heap.size ≤ B) : MG enc ok w' b es := h.block (hb.block b (Nat.lt_of_lt_of_le h.lt hB))
theorem mg_none (w : World) : MG enc ok (w.alloc (.map #[] 0)) w.heap.size [] := ⟨#[], 0, World.alloc_heap_new _ _, rfl, by simp, MapKept.stamped_empty _⟩
theorem mg_keys (T : KeyT kt enc ok) {ar : Array MapEntry} {es : List (α × Value)} (h : ar.toList.map (fun e => (e.key, e.val)) = es.map (fun p => (enc p.1, p.2))) (hs : ∀ p ∈ es, ok p.1) : ∀ e ∈ ar.toList, ∃ l, Go.keyOf Tryz.prog kt e.key = some l := by
  intro e he
  have : (e.key, e.val) ∈ es.map (fun p => (enc p.1, p.2)) := by rw [← h]; exact List.mem_map.2 ⟨e, he, rfl⟩
  obtain ⟨p, hm, e1⟩ := List.mem_map.1 this
  have e2 : enc p.1 = e.key := congrArg Prod.fst e1
  rw [← e2]; exact T.key _ (hs p hm)
theorem mg_mem {ar : Array MapEntry} {es : List (α × Value)} (h : ar.toList.map (fun e => (e.key, e.val)) = es.map (fun p => (enc p.1, p.2))) {e : MapEntry} (he : e ∈ ar.toList) : ∃ p ∈ es, e.key = enc p.1 ∧ e.val = p.2 := by
  have : (e.key, e.val) ∈ es.map (fun p => (enc p.1, p.2)) := by rw [← h]; exact List.mem_map.2 ⟨e, he, rfl⟩
  obtain ⟨p, hm, e1⟩ := List.mem_map.1 this
  exact ⟨p, hm, (congrArg Prod.fst e1).symm, (congrArg Prod.snd e1).symm⟩
theorem mg_miss (T : KeyT kt enc ok) {t e : TypeId} {z : Value} (ht : Tryz.prog.underlying t = some (.map kt e)) (hz : ∀ w, (zeroValue e).run Tryz.prog w = .ok z w) {w : World} {b : Nat} {es : List (α × Value)} (h : MG enc ok w b es) (k : α) (hk : ok k) (hn : ∀ p ∈ es, p.1 ≠ k) :
    (Instr.lookup t (.map (some b)) (enc k) true).run Tryz.prog w = .ok (.tuple #[z, .bool false]) w ∧ (Instr.lookup t (.map (some b)) (enc k) false).run Tryz.prog w = .ok z w := by
  obtain ⟨ar, clock, h1, h2, h3, hS⟩ := h
  have K := T.K
  obtain ⟨lk, hkey⟩ := T.key k hk
  rcases K.find w hkey ar.toList (mg_keys T h2 h3) with ⟨f1, f2⟩ | ⟨j, e0, f1, f2, f3⟩
  · constructor <;> simp [Instr.lookup, run_underlying ht, MapKept.run_getObj_map h1, K.check w _ hkey, f1, hz, Result.andThen]
  · exfalso
    obtain ⟨p, hp, e1, _⟩ := mg_mem h2 (List.mem_of_getElem? f2)
    rw [f3] at e1
    have : k = p.1 := T.inj _ _ e1
    exact hn p hp this.symm
theorem mg_hit (T : KeyT kt enc ok) {t e : TypeId} {z : Value} (ht : Tryz.prog.underlying t = some (.map kt e)) {w : World} {b : Nat} {es : List (α × Value)} (h : MG enc ok w b es) (k : α) (v : Value) (hk : ok k) (hm : (k, v) ∈ es) (hu : ∀ p ∈ es, p.1 = k → p.2 = v) :
    (Instr.lookup t (.map (some b)) (enc k) true).run Tryz.prog w = .ok (.tuple #[v, .bool true]) w ∧ (Instr.lookup t (.map (some b)) (enc k) false).run Tryz.prog w = .ok v w := by
  obtain ⟨ar, clock, h1, h2, h3, hS⟩ := h
  have K := T.K
  obtain ⟨lk, hkey⟩ := T.key k hk
  rcases K.find w hkey ar.toList (mg_keys T h2 h3) with ⟨f1, f2⟩ | ⟨j, e0, f1, f2, f3⟩
  · exfalso
    have : (enc k, v) ∈ ar.toList.map (fun e => (e.key, e.val)) := by rw [h2]; exact List.mem_map.2 ⟨_, hm, rfl⟩
    obtain ⟨e, he, e1⟩ := List.mem_map.1 this
    exact f2 e he (congrArg Prod.fst e1)
  · obtain ⟨p, hp, e1, e2⟩ := mg_mem h2 (List.mem_of_getElem? f2)
    rw [f3] at e1
    have e3' : k = p.1 := T.inj _ _ e1
    have e3 : p.1 = k := e3'.symm
    have e4 : e0.val = v := e2.trans (hu p hp e3)
    rw [e4] at f1
    clear e4 e2 e3 e3' e1 hu hm hp
    constructor <;> simp [Instr.lookup, run_underlying ht, MapKept.run_getObj_map h1, K.check w _ hkey, f1, Result.andThen]
theorem mg_new (T : KeyT kt enc ok) {t e : TypeId} (ht : Tryz.prog.underlying t = some (.map kt e)) {w : World} {b : Nat} {es : List (α × Value)} (h : MG enc ok w b es) (k : α) (v : Value) (hk : ok k) (hn : ∀ p ∈ es, p.1 ≠ k) :
    ∃ w', (Instr.mapUpdate t (.map (some b)) (enc k) v).run Tryz.prog w = .ok () w' ∧ MG enc ok w' b (es ++ [(k, v)]) ∧ w'.heap.size = w.heap.size ∧ (∀ i, i ≠ b → w'.heap[i]? = w.heap[i]?) ∧ Below b w w' := by
  obtain ⟨ar, clock, h1, h2, h3, hS⟩ := h
  have hlt : b < w.heap.size := (Array.getElem?_eq_some_iff.1 h1).1
  have K := T.K
  obtain ⟨lk, hkey⟩ := T.key k hk
  rcases K.find w hkey ar.toList (mg_keys T h2 h3) with ⟨f1, f2⟩ | ⟨j, e0, f1, f2, f3⟩
  · refine ⟨{ w with heap := w.heap.setIfInBounds b (.map (ar.push ⟨enc k, v, clock⟩) (clock + 1)) }, ?_, ⟨ar.push ⟨enc k, v, clock⟩, clock + 1, ?_, ?_, ?_, MapKept.stamped_push hS f2⟩, ?_, ?_, ⟨rfl, rfl, rfl, ?_, ?_⟩⟩
    · simp [Instr.mapUpdate, run_underlying ht, MapKept.run_getObj_map h1, K.check w false hkey, f1, MapKept.run_setObj_map _ h1, Result.andThen]
    · simp [hlt]
    · simp [h2]
    · intro p hp
      rcases List.mem_append.1 hp with hp | hp
      · exact h3 p hp
      · simp only [List.mem_cons, List.not_mem_nil, or_false] at hp; rw [hp]; exact hk
    · simp
    · intro i hi
      simp [Array.getElem?_setIfInBounds_ne (Ne.symm hi)]
    · simp
    · intro i hi
      have : i ≠ b := by omega
      simp [Array.getElem?_setIfInBounds_ne (Ne.symm this)]
  · exfalso
    obtain ⟨p, hp, e1, _⟩ := mg_mem h2 (List.mem_of_getElem? f2)
    rw [f3] at e1
    have : k = p.1 := T.inj _ _ e1
    exact hn p hp this.symm
/-- The place of a key that stands once. -/
theorem mg_set (T : KeyT kt enc ok) {t e : TypeId} (ht : Tryz.prog.underlying t = some (.map kt e)) {w : World} {b : Nat} {es : List (α × Value)} (h : MG enc ok w b es) (j : Nat) (k : α) (v0 v : Value) (hk : ok k) (hj : es[j]? = some (k, v0)) (hu : ∀ i p, es[i]? = some p → p.1 = k → i = j) :
    ∃ w', (Instr.mapUpdate t (.map (some b)) (enc k) v).run Tryz.prog w = .ok () w' ∧ MG enc ok w' b (es.set j (k, v)) ∧ w'.heap.size = w.heap.size ∧ (∀ i, i ≠ b → w'.heap[i]? = w.heap[i]?) ∧ Below b w w' := by
  obtain ⟨ar, clock, h1, h2, h3, hS⟩ := h
  have hlt : b < w.heap.size := (Array.getElem?_eq_some_iff.1 h1).1
  have K := T.K
  obtain ⟨lk, hkey⟩ := T.key k hk
  rcases K.find w hkey ar.toList (mg_keys T h2 h3) with ⟨f1, f2⟩ | ⟨i, e0, f1, f2, f3⟩
  · exfalso
    have : (enc k, v0) ∈ ar.toList.map (fun e => (e.key, e.val)) := by rw [h2]; exact List.mem_map.2 ⟨_, List.mem_of_getElem? hj, rfl⟩
    obtain ⟨e, he, e1⟩ := List.mem_map.1 this
    exact f2 e he (congrArg Prod.fst e1)
  · have hi2 : (es.map (fun p => (enc p.1, p.2)))[i]? = some (e0.key, e0.val) := by rw [← h2, List.getElem?_map, f2]; rfl
    rw [List.getElem?_map] at hi2
    obtain ⟨p, hp, e1⟩ := Option.map_eq_some_iff.1 hi2
    have e2 : enc p.1 = enc k := (congrArg Prod.fst e1).trans f3
    have e3 : p.1 = k := T.inj _ _ e2
    have hij := hu i p hp e3
    subst hij
    have hil : i < ar.size := by
      have := (List.getElem?_eq_some_iff.1 f2).1
      simpa using this
    have hst := K.stays w hkey
    have hai : ar[i]? = some e0 := by rw [← Array.getElem?_toList]; exact f2
    have hrun : (Instr.mapUpdate t (.map (some b)) (enc k) v).run Tryz.prog w = .ok () { w with heap := w.heap.setIfInBounds b (.map (ar.modify i fun e => { e with key := enc k, val := v }) clock) } := by
      simp [Instr.mapUpdate, run_underlying ht, MapKept.run_getObj_map h1, K.check w false hkey, f1, hai, f3, hst, MapKept.run_setObj_map _ h1, Result.andThen]
    refine ⟨_, hrun, ⟨ar.modify i fun e => { e with key := enc k, val := v }, clock, ?_, ?_, ?_, MapKept.stamped_modify hS i _ (fun _ _ => rfl) (fun e _ he => by rw [hai] at he; cases he; exact f3.symm)⟩, ?_, ?_, ⟨rfl, rfl, rfl, ?_, ?_⟩⟩
    · simp [hlt]
    · refine List.ext_getElem? fun m => ?_
      have hm2 := congrArg (fun l => l[m]?) h2
      simp only [List.getElem?_map] at hm2
      simp only [List.getElem?_map, Array.getElem?_toList, Array.getElem?_modify, List.getElem?_set] at hm2 ⊢
      by_cases hmi : i = m
      · subst hmi
        have hel := (List.getElem?_eq_some_iff.1 hp).1
        simp [hai, hel]
      · simp [hmi, hm2]
    · intro p' hp'
      rcases List.mem_or_eq_of_mem_set hp' with h | h
      · exact h3 p' h
      · rw [h]; exact hk
    · simp
    · intro q hq
      simp [Array.getElem?_setIfInBounds_ne (Ne.symm hq)]
    · simp
    · intro q hq
      have : q ≠ b := by omega
      simp [Array.getElem?_setIfInBounds_ne (Ne.symm this)]
theorem smap_erase {β γ : Type} (f : β → γ) : ∀ (l : List β) (j : Nat), (l.eraseIdx j).map f = (l.map f).eraseIdx j
  | [], j => by simp
  | x :: l, 0 => by simp
  | x :: l, j + 1 => by simp [smap_erase f l j]
theorem mg_del (T : KeyT kt enc ok) {t e ty : TypeId} (ht : Tryz.prog.underlying t = some (.map kt e)) {w : World} {b : Nat} {es : List (α × Value)} (h : MG enc ok w b es) (j : Nat) (k : α) (v0 : Value) (hk : ok k) (hj : es[j]? = some (k, v0)) (hu : ∀ i p, es[i]? = some p → p.1 = k → i = j) :
    ∃ w', (Builtin.delete_ #[t, kt] ty #[.map (some b), enc k]).run Tryz.prog w = .ok (.tuple #[]) w' ∧ MG enc ok w' b (es.eraseIdx j) ∧ w'.heap.size = w.heap.size ∧ (∀ i, i ≠ b → w'.heap[i]? = w.heap[i]?) ∧ Below b w w' := by
  obtain ⟨ar, clock, h1, h2, h3, hS⟩ := h
  have hlt : b < w.heap.size := (Array.getElem?_eq_some_iff.1 h1).1
  have K := T.K
  obtain ⟨lk, hkey⟩ := T.key k hk
  rcases K.find w hkey ar.toList (mg_keys T h2 h3) with ⟨f1, f2⟩ | ⟨i, e0, f1, f2, f3⟩
  · exfalso
    have : (enc k, v0) ∈ ar.toList.map (fun e => (e.key, e.val)) := by rw [h2]; exact List.mem_map.2 ⟨_, List.mem_of_getElem? hj, rfl⟩
    obtain ⟨e, he, e1⟩ := List.mem_map.1 this
    exact f2 e he (congrArg Prod.fst e1)
  · have hi2 : (es.map (fun p => (enc p.1, p.2)))[i]? = some (e0.key, e0.val) := by rw [← h2, List.getElem?_map, f2]; rfl
    rw [List.getElem?_map] at hi2
    obtain ⟨p, hp, e1⟩ := Option.map_eq_some_iff.1 hi2
    have e2 : enc p.1 = enc k := (congrArg Prod.fst e1).trans f3
    have e3 : p.1 = k := T.inj _ _ e2
    have hij := hu i p hp e3
    subst hij
    have hil : i < ar.size := by
      have := (List.getElem?_eq_some_iff.1 f2).1
      simpa using this
    have hrun : (Builtin.delete_ #[t, kt] ty #[.map (some b), enc k]).run Tryz.prog w = .ok (.tuple #[]) { w with heap := w.heap.setIfInBounds b (.map (ar.eraseIdxIfInBounds i) clock) } := by
      simp [Builtin.delete_, run_underlying ht, MapKept.run_getObj_map h1, K.check w _ hkey, f1, MapKept.run_setObj_map _ h1, Result.andThen]
    refine ⟨_, hrun, ⟨ar.eraseIdxIfInBounds i, clock, ?_, ?_, ?_, MapKept.stamped_erase hS i⟩, ?_, ?_, ⟨rfl, rfl, rfl, ?_, ?_⟩⟩
    · simp [hlt]
    · rw [Array.toList_eraseIdxIfInBounds, smap_erase, h2, smap_erase]
    · intro p' hp'
      exact h3 p' (List.mem_of_mem_eraseIdx hp')
    · simp
    · intro q hq
      simp [Array.getElem?_setIfInBounds_ne (Ne.symm hq)]
    · simp
    · intro q hq
      have : q ≠ b := by omega
      simp [Array.getElem?_setIfInBounds_ne (Ne.symm this)]
end
end Go.Proofs.YthfilnflgahcjaaGreatDoor
