/- The keys of the maps: texts, labels, types, ends, keys, joints, worths. Sets of keys: one put in, looked up, taken out; how many there are. Numbers that are cut, added, shared, multiplied. Regions that draw their order, whose operations and callees leave what was there: one walk in the text's order serves every order. -/
import Derived.Test.YthfilnflgahcjaaGreatDoorJoin2
import Derived.DeepKeys4
import Derived.StringKeys
import Derived.Test.YthfilnflgahcjaaGreatDoorJoin1
import Derived.Below
import Derived.BigQuiet
import Derived.WalkKit
namespace Go.Proofs.YthfilnflgahcjaaGreatDoor
open Go.RowKit Go.Shelf Go.Maps
set_option linter.unusedVariables false
set_option linter.unusedSimpArgs false
theorem laid_out : laidOutB Tryz.prog = true := by kernel_rfl
theorem many_types : Tryz.prog.types.size = 314 := by kernel_rfl
theorem cells9 : Tryz.prog.cellsOf 9 = 1 := by kernel_rfl
theorem cells2 : Tryz.prog.cellsOf 2 = 1 := by kernel_rfl
theorem cells3 : Tryz.prog.cellsOf 3 = 1 := by kernel_rfl
theorem cells4 : Tryz.prog.cellsOf 4 = 1 := by kernel_rfl
def W64 (n : Int) : Prop := (Lit.int .i64 n).wf = true
theorem w64 {n : Int} (h0 : -9223372036854775808 ≤ n) (h1 : n ≤ 9223372036854775807) : W64 n := by
  unfold W64 Lit.wf
  simp [IntKind.min, IntKind.max, IntKind.bits, IntKind.signed]; omega
theorem law42 : WideMaps.KeyLaw Tryz.prog 42 := deep_law_laid laid_out (m := 2) (by omega) (by rw [many_types]; decide) (by kernel_rfl) (by kernel_rfl)
theorem cells42 : Tryz.prog.cellsOf 42 = 2 := by kernel_rfl
theorem key42 (a0 : ByteArray) (a1 : Int) (ha0 : a0.size ≤ maxLen) (ha1 : W64 a1) : ∃ l, keyOf Tryz.prog 42 (.agg #[.string a0, .int .i64 a1]) = some l := by
  have e : ∀ d, Tryz.prog.keyLits (d + 2) 42 [.string a0, .int .i64 a1] = some [.string a0.data.toList, .int .i64 a1] := by
    intro d
    unfold Program.keyLits
    unfold W64 at *
    simp [Tryz.underlying42, cells42, Program.keyLits, Tryz.underlying9, Tryz.underlying2, Tryz.underlying4, cells9, cells2, cells4, ha0, ha1]
  unfold keyOf
  rw [Tryz.underlying42]
  dsimp only
  rw [if_pos (by rw [show Tryz.prog.keyType 42 = true by kernel_rfl]; simp [Value.formed, Tryz.underlying42, cells42]), many_types]
  exact ⟨_, by rw [show (Value.agg #[.string a0, .int .i64 a1]).cells.toList = [.string a0, .int .i64 a1] from rfl, show 314 + 1 = 313 + 2 from rfl, e]; rfl⟩
theorem law62 : WideMaps.KeyLaw Tryz.prog 62 := deep_law_laid laid_out (m := 2) (by omega) (by rw [many_types]; decide) (by kernel_rfl) (by kernel_rfl)
theorem cells62 : Tryz.prog.cellsOf 62 = 2 := by kernel_rfl
theorem key62 (a0 : ByteArray) (a1 : Int) (ha0 : a0.size ≤ maxLen) (ha1 : W64 a1) : ∃ l, keyOf Tryz.prog 62 (.agg #[.string a0, .int .i64 a1]) = some l := by
  have e : ∀ d, Tryz.prog.keyLits (d + 2) 62 [.string a0, .int .i64 a1] = some [.string a0.data.toList, .int .i64 a1] := by
    intro d
    unfold Program.keyLits
    unfold W64 at *
    simp [Tryz.underlying62, cells62, Program.keyLits, Tryz.underlying9, Tryz.underlying2, Tryz.underlying4, cells9, cells2, cells4, ha0, ha1]
  unfold keyOf
  rw [Tryz.underlying62]
  dsimp only
  rw [if_pos (by rw [show Tryz.prog.keyType 62 = true by kernel_rfl]; simp [Value.formed, Tryz.underlying62, cells62]), many_types]
  exact ⟨_, by rw [show (Value.agg #[.string a0, .int .i64 a1]).cells.toList = [.string a0, .int .i64 a1] from rfl, show 314 + 1 = 313 + 2 from rfl, e]; rfl⟩
theorem law64 : WideMaps.KeyLaw Tryz.prog 64 := deep_law_laid laid_out (m := 2) (by omega) (by rw [many_types]; decide) (by kernel_rfl) (by kernel_rfl)
theorem cells64 : Tryz.prog.cellsOf 64 = 4 := by kernel_rfl
theorem key64 (a0 : ByteArray) (a1 : ByteArray) (a2 : Bool) (a3 : Int) (ha0 : a0.size ≤ maxLen) (ha1 : a1.size ≤ maxLen) (ha3 : W64 a3) : ∃ l, keyOf Tryz.prog 64 (.agg #[.string a0, .string a1, .bool a2, .int .i64 a3]) = some l := by
  have e : ∀ d, Tryz.prog.keyLits (d + 2) 64 [.string a0, .string a1, .bool a2, .int .i64 a3] = some [.string a0.data.toList, .string a1.data.toList, .bool a2, .int .i64 a3] := by
    intro d
    unfold Program.keyLits
    unfold W64 at *
    simp [Tryz.underlying64, cells64, Program.keyLits, Tryz.underlying9, Tryz.underlying2, Tryz.underlying4, cells9, cells2, cells4, ha0, ha1, ha3]
  unfold keyOf
  rw [Tryz.underlying64]
  dsimp only
  rw [if_pos (by rw [show Tryz.prog.keyType 64 = true by kernel_rfl]; simp [Value.formed, Tryz.underlying64, cells64]), many_types]
  exact ⟨_, by rw [show (Value.agg #[.string a0, .string a1, .bool a2, .int .i64 a3]).cells.toList = [.string a0, .string a1, .bool a2, .int .i64 a3] from rfl, show 314 + 1 = 313 + 2 from rfl, e]; rfl⟩
theorem law66 : WideMaps.KeyLaw Tryz.prog 66 := deep_law_laid laid_out (m := 2) (by omega) (by rw [many_types]; decide) (by kernel_rfl) (by kernel_rfl)
theorem cells66 : Tryz.prog.cellsOf 66 = 4 := by kernel_rfl
theorem key66 (a0 : ByteArray) (a1 : ByteArray) (a2 : Int) (a3 : Int) (ha0 : a0.size ≤ maxLen) (ha1 : a1.size ≤ maxLen) (ha2 : W64 a2) (ha3 : W64 a3) : ∃ l, keyOf Tryz.prog 66 (.agg #[.string a0, .string a1, .int .i64 a2, .int .i64 a3]) = some l := by
  have e : ∀ d, Tryz.prog.keyLits (d + 2) 66 [.string a0, .string a1, .int .i64 a2, .int .i64 a3] = some [.string a0.data.toList, .string a1.data.toList, .int .i64 a2, .int .i64 a3] := by
    intro d
    unfold Program.keyLits
    unfold W64 at *
    simp [Tryz.underlying66, cells66, Program.keyLits, Tryz.underlying9, Tryz.underlying2, Tryz.underlying4, cells9, cells2, cells4, ha0, ha1, ha2, ha3]
  unfold keyOf
  rw [Tryz.underlying66]
  dsimp only
  rw [if_pos (by rw [show Tryz.prog.keyType 66 = true by kernel_rfl]; simp [Value.formed, Tryz.underlying66, cells66]), many_types]
  exact ⟨_, by rw [show (Value.agg #[.string a0, .string a1, .int .i64 a2, .int .i64 a3]).cells.toList = [.string a0, .string a1, .int .i64 a2, .int .i64 a3] from rfl, show 314 + 1 = 313 + 2 from rfl, e]; rfl⟩
theorem law183 : WideMaps.KeyLaw Tryz.prog 183 := deep_law_laid laid_out (m := 2) (by omega) (by rw [many_types]; decide) (by kernel_rfl) (by kernel_rfl)
theorem cells183 : Tryz.prog.cellsOf 183 = 3 := by kernel_rfl
theorem key183 (a0 : Int) (a1 : ByteArray) (a2 : Bool) (ha0 : W64 a0) (ha1 : a1.size ≤ maxLen) : ∃ l, keyOf Tryz.prog 183 (.agg #[.int .i64 a0, .string a1, .bool a2]) = some l := by
  have e : ∀ d, Tryz.prog.keyLits (d + 2) 183 [.int .i64 a0, .string a1, .bool a2] = some [.int .i64 a0, .string a1.data.toList, .bool a2] := by
    intro d
    unfold Program.keyLits
    unfold W64 at *
    simp [Tryz.underlying183, cells183, Program.keyLits, Tryz.underlying9, Tryz.underlying2, Tryz.underlying4, cells9, cells2, cells4, ha0, ha1]
  unfold keyOf
  rw [Tryz.underlying183]
  dsimp only
  rw [if_pos (by rw [show Tryz.prog.keyType 183 = true by kernel_rfl]; simp [Value.formed, Tryz.underlying183, cells183]), many_types]
  exact ⟨_, by rw [show (Value.agg #[.int .i64 a0, .string a1, .bool a2]).cells.toList = [.int .i64 a0, .string a1, .bool a2] from rfl, show 314 + 1 = 313 + 2 from rfl, e]; rfl⟩
end Go.Proofs.YthfilnflgahcjaaGreatDoor

namespace Go.Proofs.YthfilnflgahcjaaGreatDoor
open Go.RowKit Go.Shelf Go.Maps
set_option linter.unusedVariables false
set_option linter.unusedSimpArgs false
set_option linter.unusedSectionVars false
section
variable {α : Type} [DecidableEq α] {kt : TypeId} {enc : α → Value} {ok : α → Prop}
def MS (enc : α → Value) (ok : α → Prop) (w : World) (b : Nat) (ks : List α) : Prop := MG enc ok w b (ks.map fun k => (k, .agg #[]))
theorem MS.block {w w' : World} {b : Nat} {ks : List α} (h : MS enc ok w b ks) (hb : w'.heap[b]? = w.heap[b]?) : MS enc ok w' b ks := MG.block h hb
theorem MS.lt {w : World} {b : Nat} {ks : List α} (h : MS enc ok w b ks) : b < w.heap.size := MG.lt h
/-- One more, if it is not there. -/
def putS (l : List α) (k : α) : List α := if k ∈ l then l else l ++ [k]
theorem putS_nodup {l : List α} (h : l.Nodup) (k : α) : (putS l k).Nodup := by
  unfold putS
  split
  · exact h
  · rename_i hn
    exact List.nodup_append.2 ⟨h, by simp, fun a ha c hc => by simp only [List.mem_singleton] at hc; subst hc; exact fun e => hn (e ▸ ha)⟩
theorem ms_at {l : List α} (hl : l.Nodup) {j : Nat} {k : α} (hj : l[j]? = some k) : ∀ i p, (l.map fun k => (k, Value.agg #[]))[i]? = some p → p.1 = k → i = j := fun i p hi hp => by
  rw [List.getElem?_map] at hi
  obtain ⟨x, hx, rfl⟩ := Option.map_eq_some_iff.1 hi
  refine (List.getElem?_inj (l := l) (List.getElem?_eq_some_iff.1 hx).1 hl).1 ?_
  rw [hx, hj]; exact congrArg some hp
theorem ms_put (T : KeyT kt enc ok) {t e : TypeId} (ht : Tryz.prog.underlying t = some (.map kt e)) {w : World} {b : Nat} {ks : List α} (h : MS enc ok w b ks) (nd : ks.Nodup) (k : α) (hk : ok k) :
    ∃ w', (Instr.mapUpdate t (.map (some b)) (enc k) (.agg #[])).run Tryz.prog w = .ok () w' ∧ MS enc ok w' b (putS ks k) ∧ w'.heap.size = w.heap.size ∧ (∀ i, i ≠ b → w'.heap[i]? = w.heap[i]?) ∧ Below b w w' := by
  unfold putS
  by_cases hm : k ∈ ks
  · rw [if_pos hm]
    obtain ⟨j, hj⟩ := List.getElem?_of_mem hm
    obtain ⟨w', h1, h2, h3⟩ := mg_set T ht h j k (.agg #[]) (.agg #[]) hk (by rw [List.getElem?_map, hj]; rfl) (ms_at nd hj)
    refine ⟨w', h1, ?_, h3⟩
    have : (ks.map fun k => (k, Value.agg #[])).set j (k, .agg #[]) = ks.map fun k => (k, Value.agg #[]) := WideElems.set_self _ _ _ (by rw [List.getElem?_map, hj]; rfl)
    rw [this] at h2
    exact h2
  · rw [if_neg hm]
    obtain ⟨w', h1, h2, h3⟩ := mg_new T ht h k (.agg #[]) hk (fun p hp => by
      obtain ⟨x, hx, rfl⟩ := List.mem_map.1 hp
      exact fun e => hm (e ▸ hx))
    exact ⟨w', h1, by unfold MS; rw [List.map_append]; exact h2, h3⟩
theorem ms_look (T : KeyT kt enc ok) {t e : TypeId} (ht : Tryz.prog.underlying t = some (.map kt e)) (hz : ∀ w, (zeroValue e).run Tryz.prog w = .ok (.agg #[]) w) {w : World} {b : Nat} {ks : List α} (h : MS enc ok w b ks) (k : α) (hk : ok k) :
    (Instr.lookup t (.map (some b)) (enc k) true).run Tryz.prog w = .ok (.tuple #[.agg #[], .bool (decide (k ∈ ks))]) w := by
  by_cases hm : k ∈ ks
  · rw [decide_eq_true hm]
    exact (mg_hit (z := .agg #[]) T ht h k (.agg #[]) hk (List.mem_map.2 ⟨k, hm, rfl⟩) (fun p hp _ => by obtain ⟨x, hx, rfl⟩ := List.mem_map.1 hp; rfl)).1
  · rw [decide_eq_false hm]
    exact (mg_miss T ht hz h k hk (fun p hp => by
      obtain ⟨x, hx, rfl⟩ := List.mem_map.1 hp
      exact fun e => hm (e ▸ hx))).1
theorem ms_lookB (T : KeyT kt enc ok) {t e : TypeId} (ht : Tryz.prog.underlying t = some (.map kt e)) (hz : ∀ w, (zeroValue e).run Tryz.prog w = .ok (.agg #[]) w) {w : World} {b : Nat} {ks : List α} (h : MS enc ok w b ks) (k : α) (hk : ok k) (z : Bool) (hm : z = true ↔ k ∈ ks) :
    (Instr.lookup t (.map (some b)) (enc k) true).run Tryz.prog w = .ok (.tuple #[.agg #[], .bool z]) w := by
  have := ms_look T ht hz h k hk
  rw [this]
  cases z with
  | true => rw [decide_eq_true (hm.1 rfl)]
  | false => rw [decide_eq_false (fun h => by have := hm.2 h; cases this)]
/-- One less. -/
def delS (k : α) : List α → List α
  | [] => []
  | a :: r => if a = k then r else a :: delS k r
theorem delS_sub (k : α) : ∀ (l : List α), (delS k l).Sublist l
  | [] => List.Sublist.refl _
  | a :: r => by
    rw [delS]
    split
    · exact List.sublist_cons_self _ _
    · exact (delS_sub k r).cons_cons a
theorem delS_nodup {l : List α} (h : l.Nodup) (k : α) : (delS k l).Nodup := h.sublist (delS_sub k l)
theorem delS_len {k : α} : ∀ {l : List α}, k ∈ l → (delS k l).length + 1 = l.length
  | [], h => by simp at h
  | a :: r, h => by
    rw [delS]
    split
    · rfl
    · rename_i hne
      have := delS_len (k := k) (l := r) (by rcases List.mem_cons.1 h with rfl | h; exact absurd rfl hne; exact h)
      simp only [List.length_cons]; omega
theorem mem_delS {l : List α} (h : l.Nodup) {k x : α} : x ∈ delS k l ↔ x ∈ l ∧ x ≠ k := by
  induction l with
  | nil => simp [delS]
  | cons a r ih =>
    simp only [List.nodup_cons] at h
    rw [delS]
    split
    · rename_i e
      subst e
      constructor
      · intro hx; exact ⟨List.mem_cons_of_mem _ hx, fun e => h.1 (e ▸ hx)⟩
      · rintro ⟨hx, hne⟩; exact (List.mem_cons.1 hx).resolve_left hne
    · rename_i hne
      simp only [List.mem_cons, ih h.2]
      constructor
      · rintro (rfl | ⟨hx, hk⟩)
        · exact ⟨.inl rfl, hne⟩
        · exact ⟨.inr hx, hk⟩
      · rintro ⟨hx | hx, hk⟩
        · exact .inl hx
        · exact .inr ⟨hx, hk⟩
theorem erase_idx {k : α} : ∀ {l : List α} {j : Nat}, l.Nodup → l[j]? = some k → l.eraseIdx j = delS k l
  | [], j, _, h => by simp at h
  | a :: r, 0, _, h => by simp at h; subst h; simp [delS]
  | a :: r, j + 1, hn, h => by
    simp only [List.nodup_cons] at hn
    simp only [List.getElem?_cons_succ] at h
    have hne : a ≠ k := fun e => hn.1 (e ▸ List.mem_of_getElem? h)
    rw [List.eraseIdx_cons_succ, delS, if_neg hne, erase_idx hn.2 h]
theorem ms_del (T : KeyT kt enc ok) {t e ty : TypeId} (ht : Tryz.prog.underlying t = some (.map kt e)) {w : World} {b : Nat} {ks : List α} (h : MS enc ok w b ks) (nd : ks.Nodup) (k : α) (hk : ok k) (hm : k ∈ ks) :
    ∃ w', (Builtin.delete_ #[t, kt] ty #[.map (some b), enc k]).run Tryz.prog w = .ok (.tuple #[]) w' ∧ MS enc ok w' b (delS k ks) ∧ w'.heap.size = w.heap.size ∧ (∀ i, i ≠ b → w'.heap[i]? = w.heap[i]?) ∧ Below b w w' := by
  obtain ⟨j, hj⟩ := List.getElem?_of_mem hm
  obtain ⟨w', h1, h2, h3⟩ := mg_del (ty := ty) T ht h j k (.agg #[]) hk (by rw [List.getElem?_map, hj]; rfl) (ms_at nd hj)
  refine ⟨w', h1, ?_, h3⟩
  unfold MS
  rw [← erase_idx nd hj, smap_erase]
  exact h2
theorem ms_len {t e ty : TypeId} (ht : Tryz.prog.underlying t = some (.map kt e)) {w : World} {b : Nat} {ks : List α} (h : MS enc ok w b ks) : (Builtin.len_ #[t] ty #[.map (some b)]).run Tryz.prog w = .ok (.int .i64 ks.length) w := by
  obtain ⟨ar, clock, h1, h2, h3, hS⟩ := h
  have hl : ar.size = ks.length := by have := congrArg List.length h2; simpa using this
  simp [Builtin.len_, run_underlying ht, MapKept.run_getObj_map h1, hl, goInt, Builtin.lenOf, Result.andThen]
end
end Go.Proofs.YthfilnflgahcjaaGreatDoor

namespace Go.Proofs.YthfilnflgahcjaaGreatDoor
open Go.RowKit Go.Shelf
set_option linter.unusedVariables false
set_option linter.unusedSimpArgs false
attribute [local go_sem] Oper.semAt_some
def cutI (n : Int) : Int := if 4611686018427387904 < n then 4611686018427387904 else if 0 < n then n else 0
theorem cut_any (n : Int) (w : World) : Calls Tryz.prog 52 #[.int .i64 n] w fun e w' => e = .returned (.int .i64 (cutI n)) ∧ w' = w := by
  unfold cutI
  go_enter Tryz.func52, Tryz.ntmps52
  by_cases h1 : 4611686018427387904 < n
  · go_wp2
    go_ret
    exact ⟨by simp [h1], rfl⟩
  · by_cases h2 : 0 < n
    · go_wp2
      go_ret
      exact ⟨by simp [h1, h2], rfl⟩
    · go_wp2
      go_ret
      exact ⟨by simp [h1, h2], rfl⟩
end Go.Proofs.YthfilnflgahcjaaGreatDoor

namespace Go.Proofs.YthfilnflgahcjaaGreatDoor
open Go.RowKit
/-- A world in which all that was there is as it was. -/
structure Up (w : World) where
  x : World
  b : Below w.heap.size w x
variable {P : Program}
theorem wp_up {id : Nat} {Q : Exit → Act → World → Prop} {a : Act} {w : World} {l : List Oper} (hm : P.follows .mixedOrders = true) (hB : Region.lexB .any l.toArray = true)
    (h : wpQuiet P l.toArray (fun w' => ∃ u : Up w, w' = u.x) (fun a' => ∀ w', (∃ u : Up w, w' = u.x) → Q .normal a' w') l a) : (Code.region id l.toArray true).wp P Q a w :=
  wp_region_quiet (C := fun w' => ∃ u : Up w, w' = u.x) hm hB ⟨⟨w.drew, (Below.refl _ w).drew⟩, rfl⟩ (by simpa using h)
theorem Up.cell {w : World} (u : Up w) {p : Addr} {v : Value} (h : w.cell? p = some v) : u.x.cell? p = some v := by
  refine (u.b.cell ?_).trans h
  rcases Nat.lt_or_ge p.block w.heap.size with hl | hl
  · exact hl
  · simp [World.cell?, Array.getElem?_eq_none hl] at h
theorem Up.call {w : World} {u : Up w} {f : FuncId} {args : Array Value} {v : Value} (h : Calls P f args u.x fun e w' => e = .returned v ∧ Below u.x.heap.size u.x w') : Calls P f args u.x fun e w'' => e = .returned v ∧ ∃ y : Up w, w'' = y.x :=
  h.mono fun _ w'' ⟨he, hb⟩ => ⟨he, ⟨w'', u.b.trans (hb.mono u.b.size)⟩, rfl⟩
end Go.Proofs.YthfilnflgahcjaaGreatDoor

