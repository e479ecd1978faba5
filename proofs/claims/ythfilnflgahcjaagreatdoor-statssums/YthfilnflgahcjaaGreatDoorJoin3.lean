/- The keys of the maps: texts, labels, types, ends, keys, joints, worths. Sets of keys: one put in, looked up, taken out; how many there are. Numbers that are cut, added, shared, multiplied. Regions that draw their order, whose operations and callees leave what was there: one walk in the text's order serves every order. Regions that draw their order: what only reads may be taken first, what makes memory of its own is taken as it stands. The same as a walk: what only reads, in the text's order; then what makes memory, one by one. -/
import Derived.Test.YthfilnflgahcjaaGreatDoorJoin2
import Derived.DeepKeys4
import Derived.StringKeys
import Derived.Test.YthfilnflgahcjaaGreatDoorJoin1
import Derived.Below
import Derived.BigQuiet
import Derived.WalkKit
import Derived.OrdersHeld
namespace Go.Proofs.YthfilnflgahcjaaGreatDoor
open Go.RowKit Go.Shelf Go.Maps
set_option linter.unusedVariables false
set_option linter.unusedSimpArgs false
theorem laid_out : laidOutB Tryz.prog = true := by kernel_rfl
theorem many_types : Tryz.prog.types.size = 314 := by kernel_rfl
theorem cells9 : Tryz.prog.cellsOf 9 = 1 := by kernel_rfl
theorem cells2 : Tryz.prog.cellsOf 2 = 1 := by kernel_rfl
theorem cells3 : Tryz.prog.cellsOf 3 = 1 := by kernel_rfl
theorem cells4 : Tryz.prog.cellsOf 4 = 1 := by kernel_rfl
def W64 (n : Int) : Prop := (Lit.int .i64 n).wf = true
theorem w64 {n : Int} (h0 : -9223372036854775808 ≤ n) (h1 : n ≤ 9223372036854775807) : W64 n := by
  unfold W64 Lit.wf
  simp [IntKind.min, IntKind.max, IntKind.bits, IntKind.signed]; omega
theorem law42 : WideMaps.KeyLaw Tryz.prog 42 := deep_law_laid laid_out (m := 2) (by omega) (by rw [many_types]; decide) (by kernel_rfl) (by kernel_rfl)
theorem cells42 : Tryz.prog.cellsOf 42 = 2 := by kernel_rfl
theorem key42 (a0 : ByteArray) (a1 : Int) (ha0 : a0.size ≤ maxLen) (ha1 : W64 a1) : ∃ l, keyOf Tryz.prog 42 (.agg #[.string a0, .int .i64 a1]) = some l := by
  have e : ∀ d, Tryz.prog.keyLits (d + 2) 42 [.string a0, .int .i64 a1] = some [.string a0.data.toList, .int .i64 a1] := by
    intro d
    unfold Program.keyLits
    unfold W64 at *
    simp [Tryz.underlying42, cells42, Program.keyLits, Tryz.underlying9, Tryz.underlying2, Tryz.underlying4, cells9, cells2, cells4, ha0, ha1]
  unfold keyOf
  rw [Tryz.underlying42]
  dsimp only
  rw [if_pos (by rw [show Tryz.prog.keyType 42 = true by kernel_rfl]; simp [Value.formed, Tryz.underlying42, cells42]), many_types]
  exact ⟨_, by rw [show (Value.agg #[.string a0, .int .i64 a1]).cells.toList = [.string a0, .int .i64 a1] from rfl, show 314 + 1 = 313 + 2 from rfl, e]; rfl⟩
theorem law62 : WideMaps.KeyLaw Tryz.prog 62 := deep_law_laid laid_out (m := 2) (by omega) (by rw [many_types]; decide) (by kernel_rfl) (by kernel_rfl)
theorem cells62 : Tryz.prog.cellsOf 62 = 2 := by kernel_rfl
theorem key62 (a0 : ByteArray) (a1 : Int) (ha0 : a0.size ≤ maxLen) (ha1 : W64 a1) : ∃ l, keyOf Tryz.prog 62 (.agg #[.string a0, .int .i64 a1]) = some l := by
  have e : ∀ d, Tryz.prog.keyLits (d + 2) 62 [.string a0, .int .i64 a1] = some [.string a0.data.toList, .int .i64 a1] := by
    intro d
    unfold Program.keyLits
    unfold W64 at *
    simp [Tryz.underlying62, cells62, Program.keyLits, Tryz.underlying9, Tryz.underlying2, Tryz.underlying4, cells9, cells2, cells4, ha0, ha1]
  unfold keyOf
  rw [Tryz.underlying62]
  dsimp only
  rw [if_pos (by rw [show Tryz.prog.keyType 62 = true by kernel_rfl]; simp [Value.formed, Tryz.underlying62, cells62]), many_types]
  exact ⟨_, by rw [show (Value.agg #[.string a0, .int .i64 a1]).cells.toList = [.string a0, .int .i64 a1] from rfl, show 314 + 1 = 313 + 2 from rfl, e]; rfl⟩
theorem law64 : WideMaps.KeyLaw Tryz.prog 64 := deep_law_laid laid_out (m := 2) (by omega) (by rw [many_types]; decide) (by kernel_rfl) (by kernel_rfl)
theorem cells64 : Tryz.prog.cellsOf 64 = 4 := by kernel_rfl
theorem key64 (a0 : ByteArray) (a1 : ByteArray) (a2 : Bool) (a3 : Int) (ha0 : a0.size ≤ maxLen) (ha1 : a1.size ≤ maxLen) (ha3 : W64 a3) : ∃ l, keyOf Tryz.prog 64 (.agg #[.string a0, .string a1, .bool a2, .int .i64 a3]) = some l := by
  have e : ∀ d, Tryz.prog.keyLits (d + 2) 64 [.string a0, .string a1, .bool a2, .int .i64 a3] = some [.string a0.data.toList, .string a1.data.toList, .bool a2, .int .i64 a3] := by
    intro d
    unfold Program.keyLits
    unfold W64 at *
    simp [Tryz.underlying64, cells64, Program.keyLits, Tryz.underlying9, Tryz.underlying2, Tryz.underlying4, cells9, cells2, cells4, ha0, ha1, ha3]
  unfold keyOf
  rw [Tryz.underlying64]
  dsimp only
  rw [if_pos (by rw [show Tryz.prog.keyType 64 = true by kernel_rfl]; simp [Value.formed, Tryz.underlying64, cells64]), many_types]
  exact ⟨_, by rw [show (Value.agg #[.string a0, .string a1, .bool a2, .int .i64 a3]).cells.toList = [.string a0, .string a1, .bool a2, .int .i64 a3] from rfl, show 314 + 1 = 313 + 2 from rfl, e]; rfl⟩
theorem law66 : WideMaps.KeyLaw Tryz.prog 66 := deep_law_laid laid_out (m := 2) (by omega) (by rw [many_types]; decide) (by kernel_rfl) (by kernel_rfl)
theorem cells66 : Tryz.prog.cellsOf 66 = 4 := by kernel_rfl
theorem key66 (a0 : ByteArray) (a1 : ByteArray) (a2 : Int) (a3 : Int) (ha0 : a0.size ≤ maxLen) (ha1 : a1.size ≤ maxLen) (ha2 : W64 a2) (ha3 : W64 a3) : ∃ l, keyOf Tryz.prog 66 (.agg #[.string a0, .string a1, .int .i64 a2, .int .i64 a3]) = some l := by
  have e : ∀ d, Tryz.prog.keyLits (d + 2) 66 [.string a0, .string a1, .int .i64 a2, .int .i64 a3] = some [.string a0.data.toList, .string a1.data.toList, .int .i64 a2, .int .i64 a3] := by
    intro d
    unfold Program.keyLits
    unfold W64 at *
    simp [Tryz.underlying66, cells66, Program.keyLits, Tryz.underlying9, Tryz.underlying2, Tryz.underlying4, cells9, cells2, cells4, ha0, ha1, ha2, ha3]
  unfold keyOf
  rw [Tryz.underlying66]
  dsimp only
  rw [if_pos (by rw [show Tryz.prog.keyType 66 = true by kernel_rfl]; simp [Value.formed, Tryz.underlying66, cells66]), many_types]
  exact ⟨_, by rw [show (Value.agg #[.string a0, .string a1, .int .i64 a2, .int .i64 a3]).cells.toList = [.string a0, .string a1, .int .i64 a2, .int .i64 a3] from rfl, show 314 + 1 = 313 + 2 from rfl, e]; rfl⟩
theorem law183 : WideMaps.KeyLaw Tryz.prog 183 := deep_law_laid laid_out (m := 2) (by omega) (by rw [many_types]; decide) (by kernel_rfl) (by kernel_rfl)
theorem cells183 : Tryz.prog.cellsOf 183 = 3 := by kernel_rfl
theorem key183 (a0 : Int) (a1 : ByteArray) (a2 : Bool) (ha0 : W64 a0) (ha1 : a1.size ≤ maxLen) : ∃ l, keyOf Tryz.prog 183 (.agg #[.int .i64 a0, .string a1, .bool a2]) = some l := by
  have e : ∀ d, Tryz.prog.keyLits (d + 2) 183 [.int .i64 a0, .string a1, .bool a2] = some [.int .i64 a0, .string a1.data.toList, .bool a2] := by
    intro d
    unfold Program.keyLits
    unfold W64 at *
    simp [Tryz.underlying183, cells183, Program.keyLits, Tryz.underlying9, Tryz.underlying2, Tryz.underlying4, cells9, cells2, cells4, ha0, ha1]
  unfold keyOf
  rw [Tryz.underlying183]
  dsimp only
  rw [if_pos (by rw [show Tryz.prog.keyType 183 = true by kernel_rfl]; simp [Value.formed, Tryz.underlying183, cells183]), many_types]
  exact ⟨_, by rw [show (Value.agg #[.int .i64 a0, .string a1, .bool a2]).cells.toList = [.int .i64 a0, .string a1, .bool a2] from rfl, show 314 + 1 = 313 + 2 from rfl, e]; rfl⟩
end Go.Proofs.YthfilnflgahcjaaGreatDoor

namespace Go.Proofs.YthfilnflgahcjaaGreatDoor
open Go.RowKit Go.Shelf Go.Maps
set_option linter.unusedVariables false
set_option linter.unusedSimpArgs false
set_option linter.unusedSectionVars false
section
variable {α : Type} [DecidableEq α] {kt : TypeId} {enc : α → Value} {ok : α → Prop}
def MS (enc : α → Value) (ok : α → Prop) (w : World) (b : Nat) (ks : List α) : Prop := MG enc ok w b (ks.map fun k => (k, .agg #[]))
theorem MS.block {w w' : World} {b : Nat} {ks : List α} (h : MS enc ok w b ks) (hb : w'.heap[b]? = w.heap[b]?) : MS enc ok w' b ks := MG.block h hb
theorem MS.lt {w : World} {b : Nat} {ks : List α} (h : MS enc ok w b ks) : b < w.heap.size := MG.lt h
/-- One more, if it is not there. -/
def putS (l : List α) (k : α) : List α := if k ∈ l then l else l ++ [k]
theorem putS_nodup {l : List α} (h : l.Nodup) (k : α) : (putS l k).Nodup := by
  unfold putS
  split
  · exact h
  · rename_i hn
    exact List.nodup_append.2 ⟨h, by simp, fun a ha c hc => by simp only [List.mem_singleton] at hc; subst hc; exact fun e => hn (e ▸ ha)⟩
theorem ms_at {l : List α} (hl : l.Nodup) {j : Nat} {k : α} (hj : l[j]? = some k) : ∀ i p, (l.map fun k => (k, Value.agg #[]))[i]? = some p → p.1 = k → i = j := fun i p hi hp => by
  rw [List.getElem?_map] at hi
  obtain ⟨x, hx, rfl⟩ := Option.map_eq_some_iff.1 hi
  refine (List.getElem?_inj (l := l) (List.getElem?_eq_some_iff.1 hx).1 hl).1 ?_
  rw [hx, hj]; exact congrArg some hp
theorem ms_put (T : KeyT kt enc ok) {t e : TypeId} (ht : Tryz.prog.underlying t = some (.map kt e)) {w : World} {b : Nat} {ks : List α} (h : MS enc ok w b ks) (nd : ks.Nodup) (k : α) (hk : ok k) :
    ∃ w', (Instr.mapUpdate t (.map (some b)) (enc k) (.agg #[])).run Tryz.prog w = .ok () w' ∧ MS enc ok w' b (putS ks k) ∧ w'.heap.size = w.heap.size ∧ (∀ i, i ≠ b → w'.heap[i]? = w.heap[i]?) ∧ Below b w w' := by
  unfold putS
  by_cases hm : k ∈ ks
  · rw [if_pos hm]
    obtain ⟨j, hj⟩ := List.getElem?_of_mem hm
    obtain ⟨w', h1, h2, h3⟩ := mg_set T ht h j k (.agg #[]) (.agg #[]) hk (by rw [List.getElem?_map, hj]; rfl) (ms_at nd hj)
    refine ⟨w', h1, ?_, h3⟩
    have : (ks.map fun k => (k, Value.agg #[])).set j (k, .agg #[]) = ks.map fun k => (k, Value.agg #[]) := WideElems.set_self _ _ _ (by rw [List.getElem?_map, hj]; rfl)
    rw [this] at h2
    exact h2
  · rw [if_neg hm]
    obtain ⟨w', h1, h2, h3⟩ := mg_new T ht h k (.agg #[]) hk (fun p hp => by
      obtain ⟨x, hx, rfl⟩ := List.mem_map.1 hp
      exact fun e => hm (e ▸ hx))
    exact ⟨w', h1, by unfold MS; rw [List.map_append]; exact h2, h3⟩
theorem ms_look (T : KeyT kt enc ok) {t e : TypeId} (ht : Tryz.prog.underlying t = some (.map kt e)) (hz : ∀ w, (zeroValue e).run Tryz.prog w = .ok (.agg #[]) w) {w : World} {b : Nat} {ks : List α} (h : MS enc ok w b ks) (k : α) (hk : ok k) :
    (Instr.lookup t (.map (some b)) (enc k) true).run Tryz.prog w = .ok (.tuple #[.agg #[], .bool (decide (k ∈ ks))]) w := by
  by_cases hm : k ∈ ks
  · rw [decide_eq_true hm]
    exact (mg_hit (z := .agg #[]) T ht h k (.agg #[]) hk (List.mem_map.2 ⟨k, hm, rfl⟩) (fun p hp _ => by obtain ⟨x, hx, rfl⟩ := List.mem_map.1 hp; rfl)).1
  · rw [decide_eq_false hm]
    exact (mg_miss T ht hz h k hk (fun p hp => by
      obtain ⟨x, hx, rfl⟩ := List.mem_map.1 hp
      exact fun e => hm (e ▸ hx))).1
theorem ms_lookB (T : KeyT kt enc ok) {t e : TypeId} (ht : Tryz.prog.underlying t = some (.map kt e)) (hz : ∀ w, (zeroValue e).run Tryz.prog w = .ok (.agg #[]) w) {w : World} {b : Nat} {ks : List α} (h : MS enc ok w b ks) (k : α) (hk : ok k) (z : Bool) (hm : z = true ↔ k ∈ ks) :
    (Instr.lookup t (.map (some b)) (enc k) true).run Tryz.prog w = .ok (.tuple #[.agg #[], .bool z]) w := by
  have := ms_look T ht hz h k hk
  rw [this]
  cases z with
  | true => rw [decide_eq_true (hm.1 rfl)]
  | false => rw [decide_eq_false (fun h => by have := hm.2 h; cases this)]
/-- One less. -/
def delS (k : α) : List α → List α
  | [] => []
  | a :: r => if a = k then r else a :: delS k r
theorem delS_sub (k : α) : ∀ (l : List α), (delS k l).Sublist l
  | [] => List.Sublist.refl _
  | a :: r => by
    rw [delS]
    split
    · exact List.sublist_cons_self _ _
    · exact (delS_sub k r).cons_cons a
theorem delS_nodup {l : List α} (h : l.Nodup) (k : α) : (delS k l).Nodup := h.sublist (delS_sub k l)
theorem delS_len {k : α} : ∀ {l : List α}, k ∈ l → (delS k l).length + 1 = l.length
  | [], h => by simp at h
  | a :: r, h => by
    rw [delS]
    split
    · rfl
    · rename_i hne
      have := delS_len (k := k) (l := r) (by rcases List.mem_cons.1 h with rfl | h; exact absurd rfl hne; exact h)
      simp only [List.length_cons]; omega
theorem erase_idx {k : α} : ∀ {l : List α} {j : Nat}, l.Nodup → l[j]? = some k → l.eraseIdx j = delS k l
  | [], j, _, h => by simp at h
  | a :: r, 0, _, h => by simp at h; subst h; simp [delS]
  | a :: r, j + 1, hn, h => by
    simp only [List.nodup_cons] at hn
    simp only [List.getElem?_cons_succ] at h
    have hne : a ≠ k := fun e => hn.1 (e ▸ List.mem_of_getElem? h)
    rw [List.eraseIdx_cons_succ, delS, if_neg hne, erase_idx hn.2 h]
theorem ms_del (T : KeyT kt enc ok) {t e ty : TypeId} (ht : Tryz.prog.underlying t = some (.map kt e)) {w : World} {b : Nat} {ks : List α} (h : MS enc ok w b ks) (nd : ks.Nodup) (k : α) (hk : ok k) (hm : k ∈ ks) :
    ∃ w', (Builtin.delete_ #[t, kt] ty #[.map (some b), enc k]).run Tryz.prog w = .ok (.tuple #[]) w' ∧ MS enc ok w' b (delS k ks) ∧ w'.heap.size = w.heap.size ∧ (∀ i, i ≠ b → w'.heap[i]? = w.heap[i]?) ∧ Below b w w' := by
  obtain ⟨j, hj⟩ := List.getElem?_of_mem hm
  obtain ⟨w', h1, h2, h3⟩ := mg_del (ty := ty) T ht h j k (.agg #[]) hk (by rw [List.getElem?_map, hj]; rfl) (ms_at nd hj)
  refine ⟨w', h1, ?_, h3⟩
  unfold MS
  rw [← erase_idx nd hj, smap_erase]
  exact h2
theorem ms_len {t e ty : TypeId} (ht : Tryz.prog.underlying t = some (.map kt e)) {w : World} {b : Nat} {ks : List α} (h : MS enc ok w b ks) : (Builtin.len_ #[t] ty #[.map (some b)]).run Tryz.prog w = .ok (.int .i64 ks.length) w := by
  obtain ⟨ar, clock, h1, h2, h3, hS⟩ := h
  have hl : ar.size = ks.length := by have := congrArg List.length h2; simpa using this
  simp [Builtin.len_, run_underlying ht, MapKept.run_getObj_map h1, hl, goInt, Builtin.lenOf, Result.andThen]
end
end Go.Proofs.YthfilnflgahcjaaGreatDoor

namespace Go.Proofs.YthfilnflgahcjaaGreatDoor
open Go.RowKit Go.Shelf
set_option linter.unusedVariables false
set_option linter.unusedSimpArgs false
attribute [local go_sem] Oper.semAt_some
def cutI (n : Int) : Int := if 4611686018427387904 < n then 4611686018427387904 else if 0 < n then n else 0
theorem cut_any (n : Int) (w : World) : Calls Tryz.prog 52 #[.int .i64 n] w fun e w' => e = .returned (.int .i64 (cutI n)) ∧ w' = w := by
  unfold cutI
  go_enter Tryz.func52, Tryz.ntmps52
  by_cases h1 : 4611686018427387904 < n
  · go_wp2
    go_ret
    exact ⟨by simp [h1], rfl⟩
  · by_cases h2 : 0 < n
    · go_wp2
      go_ret
      exact ⟨by simp [h1, h2], rfl⟩
    · go_wp2
      go_ret
      exact ⟨by simp [h1, h2], rfl⟩
end Go.Proofs.YthfilnflgahcjaaGreatDoor

namespace Go.Proofs.YthfilnflgahcjaaGreatDoor
open Go.RowKit
/-- A world in which all that was there is as it was. -/
structure Up (w : World) where
  x : World
  b : Below w.heap.size w x
variable {P : Program}
theorem wp_up {id : Nat} {Q : Exit → Act → World → Prop} {a : Act} {w : World} {l : List Oper} (hm : P.follows .mixedOrders = true) (hB : Region.lexB .any l.toArray = true)
    (h : wpQuiet P l.toArray (fun w' => ∃ u : Up w, w' = u.x) (fun a' => ∀ w', (∃ u : Up w, w' = u.x) → Q .normal a' w') l a) : (Code.region id l.toArray true).wp P Q a w :=
  wp_region_quiet (C := fun w' => ∃ u : Up w, w' = u.x) hm hB ⟨⟨w.drew, (Below.refl _ w).drew⟩, rfl⟩ (by simpa using h)
theorem Up.cell {w : World} (u : Up w) {p : Addr} {v : Value} (h : w.cell? p = some v) : u.x.cell? p = some v := by
  refine (u.b.cell ?_).trans h
  rcases Nat.lt_or_ge p.block w.heap.size with hl | hl
  · exact hl
  · simp [World.cell?, Array.getElem?_eq_none hl] at h
theorem Up.call {w : World} {u : Up w} {f : FuncId} {args : Array Value} {v : Value} (h : Calls P f args u.x fun e w' => e = .returned v ∧ Below u.x.heap.size u.x w') : Calls P f args u.x fun e w'' => e = .returned v ∧ ∃ y : Up w, w'' = y.x :=
  h.mono fun _ w'' ⟨he, hb⟩ => ⟨he, ⟨w'', u.b.trans (hb.mono u.b.size)⟩, rfl⟩
end Go.Proofs.YthfilnflgahcjaaGreatDoor

namespace Go.Proofs.YthfilnflgahcjaaGreatDoor
open Go.RowKit
section
variable {P : Program} {ops : Array Oper} {md : Region.Mode} {Q : Exit → Act → World → Prop} {keep : Nat → Bool}
theorem getD_both {listed : Array Bool} {i : Nat} (h : listed.getD i true = false) : listed.getD i false = false := by
  rcases Nat.lt_or_ge i listed.size with h' | h'
  · simp [h'] at h ⊢; exact h
  · simp [Array.getElem?_eq_none h'] at h
def NoQ : Exit → Act → World → Prop := fun _ _ _ => False
/-- Whatever order is picked from here on; what is marked leaves what was there. -/
def wpAnyU (P : Program) (md : Region.Mode) (ops : Array Oper) (keep : Nat → Bool) (Q : Exit → Act → World → Prop) : Nat → Array Bool → Act → World → Prop
  | 0, listed, a, w => Region.ready md ops listed = [] ∧ Q .normal a w
  | fuel + 1, listed, a, w =>
    (Region.ready md ops listed = [] → Q .normal a w) ∧
    ∀ i ∈ Region.ready md ops listed,
      if keep i = true then wpOp P ops NoQ i (fun a' w' => Below w.heap.size w w' ∧ wpAnyU P md ops keep Q fuel (listed.setIfInBounds i true) a' w') a w
      else wpOp P ops Q i (wpAnyU P md ops keep Q fuel (listed.setIfInBounds i true)) a w
theorem oper_noQ {o : Oper} {a : Act} {w : World} {K : Act → World → Prop} (h : o.wp P a w K NoQ) : o.wp P a w K Q := by
  unfold Oper.wp at *
  generalize (execOp a.eval o).run P w = r at *
  cases r with
  | ok n w' =>
    cases n <;> simp only [Oper.upon] at h ⊢ <;> first | exact h | skip
    exact Calls.mono h fun e w'' he => by
      cases e with
      | returned v => exact he
      | panicked c => exact he.elim
      | outgrown => exact he.elim fun _ h => h.elim fun _ h => h.elim
  | halt x w' => cases x <;> simp only [Oper.upon] at h ⊢; exact h.elim
theorem wpOp_noQ {i : Nat} {a : Act} {w : World} {K : Act → World → Prop} (h : wpOp P ops NoQ i K a w) : wpOp P ops Q i K a w := by
  unfold wpOp at *
  split
  · rename_i ho; simpa [ho] using h
  · rename_i o ho
    simp only [ho] at h
    split
    · rename_i hw
      simp only [hw, if_true] at h
      rcases h with h | ⟨_, _, _, h⟩
      · exact .inl (oper_noQ h)
      · exact h.elim
    · rename_i hw; simp only [hw] at h; exact h
theorem wpAny_of_U : ∀ (fuel : Nat) (listed : Array Bool) (a : Act) (w : World), wpAnyU P md ops keep Q fuel listed a w → wpAny P md ops Q fuel listed a w
  | 0, _, _, _, h => h
  | fuel + 1, listed, a, w, h => ⟨h.1, fun i hi => by
      have := h.2 i hi
      split at this
      · exact wpOp_mono (fun a' w' h' => wpAny_of_U fuel _ a' w' h'.2) (wpOp_noQ this)
      · exact wpOp_mono (fun a' w' h' => wpAny_of_U fuel _ a' w' h') this⟩
/-- Who has come up, all that they waited for has. -/
def Closed (md : Region.Mode) (ops : Array Oper) (listed : Array Bool) : Prop :=
  listed.size = ops.size ∧ ∀ j oj, ops[j]? = some oj → listed.getD j false = true → ∀ e ∈ oj.after, Region.binds md e = true → listed.getD e.on false = true
theorem closed_set {listed : Array Bool} {i : Nat} (h : Closed md ops listed) (hi : i ∈ Region.ready md ops listed) : Closed md ops (listed.setIfInBounds i true) := by
  obtain ⟨_, oi, hoi, hall⟩ := mem_ready.1 hi
  have up : ∀ k, listed.getD k false = true → (listed.setIfInBounds i true).getD k false = true := fun k hk => by
    by_cases hik : i = k
    · subst hik
      have : i < listed.size := by
        rcases Nat.lt_or_ge i listed.size with h' | h'
        · exact h'
        · simp [Array.getElem?_eq_none h'] at hk
      simp [this]
    · rw [getD_set_ne false hik]; exact hk
  refine ⟨by simp [h.1], fun j oj hj hl e he hb => up _ ?_⟩
  by_cases hij : i = j
  · subst hij
    rw [hoi] at hj
    obtain rfl := Option.some.inj hj
    exact hall e he hb
  · rw [getD_set_ne false hij] at hl
    exact h.2 j oj hj hl e he hb
def waitsB (md : Region.Mode) (ops : Array Oper) : Nat → Nat → Nat → Bool
  | 0, _, _ => false
  | n + 1, j, i => match ops[j]? with
    | some oj => oj.after.any fun e => Region.binds md e && (e.on == i || waitsB md ops n e.on i)
    | none => false
theorem waits_listed {listed : Array Bool} (h : Closed md ops listed) : ∀ (n j i : Nat), (∀ oj, ops[j]? = some oj → ∀ e ∈ oj.after, Region.binds md e = true → listed.getD e.on false = true) → waitsB md ops n j i = true → listed.getD i false = true
  | 0, _, _, _, hw => by cases hw
  | n + 1, j, i, hj, hw => by
    unfold waitsB at hw
    split at hw
    · rename_i oj ho
      obtain ⟨e, he, hb⟩ := Array.any_eq_true'.1 hw
      simp only [Bool.and_eq_true, Bool.or_eq_true, beq_iff_eq] at hb
      have hl := hj oj ho e he hb.1
      rcases hb.2 with rfl | hb2
      · exact hl
      · exact waits_listed h n e.on i (fun ok hk e' he' hb' => h.2 _ ok hk hl e' he' hb') hb2
    · cases hw
def upS (w : World) : World → Prop := fun x => Below w.heap.size w x
theorem yieldsIf_mono {S S' : World → Prop} {o : Oper} {v : Value} {a : Act} (hs : ∀ w, S' w → S w) (h : YieldsIf P ops S o v a) : YieldsIf P ops S' o v a :=
  h.imp (fun ⟨h1, h2⟩ => ⟨h1, fun w hw => h2 w (hs w hw)⟩) id
theorem wpAnyU_first {i : Nat} {oi : Oper} {v : Value} (hi : ops[i]? = some oi) (hsel : ∀ (j : Nat) (o : Oper) cs b, ops[j]? = some o → o.op ≠ .select cs b) (hk : keep i = true)
    (hwt : ∀ j, j < ops.size → j ≠ i → keep j = false → waitsB md ops ops.size j i = true) :
    ∀ (fuel : Nat) (listed : Array Bool) (a : Act) (w : World), Closed md ops listed →
      (∀ j oj, ops[j]? = some oj → j ≠ i → listed.getD j true = false → (∀ e ∈ oj.after, Region.binds md e = true → e.on ≠ i) → oi.apart ops oj = true) →
      i ∈ Region.ready md ops listed → YieldsIf P ops (upS w) oi v a →
      wpAnyU P md ops keep Q fuel (listed.setIfInBounds i true) (a.put oi.dst v) w → wpAnyU P md ops keep Q (fuel + 1) listed a w := by
  intro fuel
  induction fuel with
  | zero =>
    intro listed a w hcl _ hr hy H
    refine ⟨fun h => (by rw [h] at hr; cases hr), fun j hj => ?_⟩
    by_cases hji : j = i
    · subst hji
      rw [if_pos hk]
      exact hy.wpOp hi (Below.refl _ _) ⟨Below.refl _ _, H⟩
    · have := ready_mono hj hji
      rw [H.1] at this
      cases this
  | succ fuel ih =>
    intro listed a w hcl hfree hr hy H
    refine ⟨fun h => (by rw [h] at hr; cases hr), fun j hj => ?_⟩
    by_cases hji : j = i
    · subst hji
      rw [if_pos hk]
      exact hy.wpOp hi (Below.refl _ _) ⟨Below.refl _ _, H⟩
    · have h1 := H.2 j (ready_mono hj hji)
      obtain ⟨hjun, oj, hoj, hall⟩ := mem_ready.1 hj
      have h0 := (mem_ready.1 hr).1
      have hin : listed.getD i false = false := getD_both h0
      have hkj : keep j = true := by
        cases hkj : keep j with
        | true => rfl
        | false =>
          have := waits_listed hcl ops.size j i (fun ok hk' e he hb => by
            rw [hoj] at hk'
            obtain rfl := Option.some.inj hk'
            exact hall e he hb) (hwt j (Array.getElem?_eq_some_iff.1 hoj).1 hji hkj)
          rw [hin] at this; cases this
      rw [if_pos hkj] at h1 ⊢
      have hnot : ∀ e ∈ oj.after, Region.binds md e = true → e.on ≠ i := fun e he hb heq => by
        have h1 := hall e he hb
        rw [heq, hin] at h1; cases h1
      have h2 := wpOp_putIf (Q := NoQ) hoj (hfree j oj hoj hji hjun hnot) (fun cs b => hsel i oi cs b hi) (fun cs b => hsel j oj cs b hoj) (fun _ _ _ h => h) hy h1
      have hfree' : ∀ k ok, ops[k]? = some ok → k ≠ i → (listed.setIfInBounds j true).getD k true = false →
          (∀ e ∈ ok.after, Region.binds md e = true → e.on ≠ i) → oi.apart ops ok = true := fun k ok hk hki hun hno => by
        refine hfree k ok hk hki ?_ hno
        by_cases hjk : j = k
        · subst hjk; exact hjun
        · rw [getD_set_ne true hjk] at hun; exact hun
      refine wpOp_mono (fun a' w' h3 => ⟨h3.2.1, ih (listed.setIfInBounds j true) a' w' (closed_set hcl hj) hfree' (ready_mono hr (Ne.symm hji)) (yieldsIf_mono (fun x hx => h3.2.1.trans (Below.mono hx h3.2.1.size)) h3.1) ?_⟩) h2
      rw [Array.setIfInBounds_comm _ _ hji]
      exact h3.2.2
end
end Go.Proofs.YthfilnflgahcjaaGreatDoor

namespace Go.Proofs.YthfilnflgahcjaaGreatDoor
open Go.RowKit
section
variable {P : Program} {ops : Array Oper} {md : Region.Mode} {Q : Exit → Act → World → Prop} {keep : Nat → Bool}
theorem run_v {α : Type} (f : α → Value) : ∀ (s : Sem α) (w : World) {n : Next} {w' : World}, (s.bind fun x => Sem.pure (Next.value (f x))).run P w = .ok n w' → ∃ u, n = .value u
  | .pure a, w, n, w', h => by simp only [Sem.bind, Sem.run, Result.ok.injEq] at h; exact ⟨_, h.1.symm⟩
  | .load m a k, w, n, w', h => by
    simp only [Sem.bind] at h
    unfold Sem.run at h
    repeat' split at h
    all_goals first | exact run_v f _ _ h | (cases h; done)
  | .store m a v k, w, n, w', h => by
    simp only [Sem.bind] at h
    cases v <;> (simp only [Sem.run] at h; repeat' split at h) <;> first | exact run_v f _ _ h | (cases h; done)
  | .new o k, w, n, w', h => by simp only [Sem.bind, Sem.run] at h; exact run_v f _ _ h
  | .shape r k, w, n, w', h => by simp only [Sem.bind, Sem.run] at h; exact run_v f _ _ h
  | .freeze a m k, w, n, w', h => by simp only [Sem.bind, Sem.run] at h; exact run_v f _ _ h
  | .frozen a k, w, n, w', h => by simp only [Sem.bind, Sem.run] at h; exact run_v f _ _ h
  | .getObj r k, w, n, w', h => by
    simp only [Sem.bind] at h
    unfold Sem.run at h
    repeat' split at h
    all_goals first | exact run_v f _ _ h | (cases h; done)
  | .setObj r o k, w, n, w', h => by
    simp only [Sem.bind] at h
    unfold Sem.run at h
    repeat' split at h
    all_goals first | exact run_v f _ _ h | (cases h; done)
  | .choose q k, w, n, w', h => by
    simp only [Sem.bind] at h
    unfold Sem.run at h
    repeat' split at h
    all_goals first | exact run_v f _ _ h | (cases h; done)
  | .sys c k, w, n, w', h => by simp only [Sem.bind, Sem.run] at h; exact run_v f _ _ h
  | .program k, w, n, w', h => by simp only [Sem.bind, Sem.run] at h; exact run_v f _ _ h
  | .mark m k, w, n, w', h => by simp only [Sem.bind, Sem.run] at h; exact run_v f _ _ h
  | .halt x, w, n, w', h => by simp only [Sem.bind, Sem.run] at h; cases h
/-- What reads, and does nothing else. -/
def isRead : Op → Bool
  | .move _ | .assign _ | .pick .. | .load .. | .fieldAddr .. | .field .. | .unOp .. | .binOp .. | .indexAddr .. | .index .. | .extract .. | .convert .. | .slice .. | .lookup .. | .typeAssert .. | .build .. | .makeInterface .. | .makeFunc .. => true
  | .call c => match c.callee with
    | .builtin .len | .builtin .cap | .builtin .min | .builtin .max => true
    | _ => false
  | _ => false
theorem read_value {o : Oper} {ρ : Operand → Value} {w w' : World} {n : Next} (h : isRead o.op = true) (hr : (execOp ρ o).run P w = .ok n w') : ∃ u, n = .value u := by
  obtain ⟨dst, op, ty, pos, af, g⟩ := o
  cases op <;> first | (cases h; done) | skip
  case move x => simp only [execOp] at hr; simp only [Pure.pure, Sem.run, Result.ok.injEq] at hr; exact ⟨_, hr.1.symm⟩
  case assign x => simp only [execOp] at hr; simp only [Pure.pure, Sem.run, Result.ok.injEq] at hr; exact ⟨_, hr.1.symm⟩
  case pick c x y => simp only [execOp] at hr; exact run_v (P := P) (fun b => if b = true then ρ x else ρ y) _ w hr
  case call c =>
    obtain ⟨cal, args, ats⟩ := c
    cases cal with
    | value f => cases h
    | invoke r m => cases h
    | builtin b =>
      cases b <;> first | (cases h; done) | skip
      all_goals (simp only [execOp, resolve, invoke, builtin] at hr; exact run_v (P := P) id _ w hr)
  all_goals (simp only [execOp] at hr; exact run_v (P := P) id _ w hr)
end
end Go.Proofs.YthfilnflgahcjaaGreatDoor

