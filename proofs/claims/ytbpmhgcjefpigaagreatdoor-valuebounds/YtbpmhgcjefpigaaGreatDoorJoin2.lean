/- The order of values: cmp.Compare, rank, truth, lists of texts held against each other. What Check does with a panic: the function that it defers. -/
import Derived.Test.YtbpmhgcjefpigaaGreatDoorShaped
import Derived.Deep.QuietTactic
import Derived.BigQuiet
import Derived.Deep.RegionWith
import Derived.RecoverIn
import Derived.LaidEql
import Derived.WideLaws
namespace Go.Proofs.YtbpmhgcjefpigaaGreatDoor
open Go.RowKit Go.Shelf
set_option linter.unusedVariables false

theorem hidE {p : Prop} (h : p) : Hid p := h

def cmpI (a b : Int) : Int := if a < b then -1 else if b < a then 1 else 0
theorem cmpI_self (a : Int) : cmpI a a = 0 := by unfold cmpI; simp

theorem cmp_int (a b : Int) (w : World) : Calls Tryz.prog 92 #[.int .i64 a, .int .i64 b] w fun e w' => e = .returned (.int .i64 (cmpI a b)) ∧ w' = w := by
  unfold cmpI
  by_cases h1 : a < b
  · rw [if_pos h1]
    go_enter Tryz.func92, Tryz.ntmps92
    go_wp2
    go_ret
    exact ⟨rfl, rfl⟩
  · rw [if_neg h1]
    by_cases h2 : b < a
    · rw [if_pos h2]
      go_enter Tryz.func92, Tryz.ntmps92
      go_wp2
      go_ret
      exact ⟨rfl, rfl⟩
    · rw [if_neg h2]
      go_enter Tryz.func92, Tryz.ntmps92
      go_wp2
      go_ret
      exact ⟨rfl, rfl⟩
theorem cmp_truth (a b : Int) (w : World) : Calls Tryz.prog 96 #[.int .i64 a, .int .i64 b] w fun e w' => e = .returned (.int .i64 (cmpI a b)) ∧ w' = w := by
  unfold cmpI
  by_cases h1 : a < b
  · rw [if_pos h1]
    go_enter Tryz.func96, Tryz.ntmps96
    go_wp2
    go_ret
    exact ⟨rfl, rfl⟩
  · rw [if_neg h1]
    by_cases h2 : b < a
    · rw [if_pos h2]
      go_enter Tryz.func96, Tryz.ntmps96
      go_wp2
      go_ret
      exact ⟨rfl, rfl⟩
    · rw [if_neg h2]
      go_enter Tryz.func96, Tryz.ntmps96
      go_wp2
      go_ret
      exact ⟨rfl, rfl⟩
theorem cmp_int64 (a b : Int) (w : World) : Calls Tryz.prog 97 #[.int .i64 a, .int .i64 b] w fun e w' => e = .returned (.int .i64 (cmpI a b)) ∧ w' = w := by
  unfold cmpI
  by_cases h1 : a < b
  · rw [if_pos h1]
    go_enter Tryz.func97, Tryz.ntmps97
    go_wp2
    go_ret
    exact ⟨rfl, rfl⟩
  · rw [if_neg h1]
    by_cases h2 : b < a
    · rw [if_pos h2]
      go_enter Tryz.func97, Tryz.ntmps97
      go_wp2
      go_ret
      exact ⟨rfl, rfl⟩
    · rw [if_neg h2]
      go_enter Tryz.func97, Tryz.ntmps97
      go_wp2
      go_ret
      exact ⟨rfl, rfl⟩

def truthI (b : Bool) : Int := if b then 2 else 0
theorem truth_any (b : Bool) (w : World) : Calls Tryz.prog 75 #[.bool b] w fun e w' => e = .returned (.int .i64 (truthI b)) ∧ w' = w := by
  cases b
  all_goals
    go_enter Tryz.func75, Tryz.ntmps75
    go_wp2
    go_ret
    exact ⟨rfl, rfl⟩

def rankN (k : Int) : Int := if k = 0 then 7 else if k = 2 then 6 else if k = 1 then 5 else if k = 3 then 4 else if k = 4 then 3 else if k = 7 then 2 else if k = 6 then 1 else 0

set_option maxHeartbeats 1000000 in
theorem rank_any (k : Int) (w : World) : Calls Tryz.prog 93 #[.int .i64 k] w fun e w' => e = .returned (.int .i64 (rankN k)) ∧ w' = w := by
  by_cases h0 : k = 0
  · subst h0; go_enter Tryz.func93, Tryz.ntmps93; go_wp2; go_ret; exact ⟨rfl, rfl⟩
  by_cases h2 : k = 2
  · subst h2; go_enter Tryz.func93, Tryz.ntmps93; go_wp2; go_ret; exact ⟨rfl, rfl⟩
  by_cases h1 : k = 1
  · subst h1; go_enter Tryz.func93, Tryz.ntmps93; go_wp2; go_ret; exact ⟨rfl, rfl⟩
  by_cases h3 : k = 3
  · subst h3; go_enter Tryz.func93, Tryz.ntmps93; go_wp2; go_ret; exact ⟨rfl, rfl⟩
  by_cases h4 : k = 4
  · subst h4; go_enter Tryz.func93, Tryz.ntmps93; go_wp2; go_ret; exact ⟨rfl, rfl⟩
  by_cases h7 : k = 7
  · subst h7; go_enter Tryz.func93, Tryz.ntmps93; go_wp2; go_ret; exact ⟨rfl, rfl⟩
  by_cases h6 : k = 6
  · subst h6; go_enter Tryz.func93, Tryz.ntmps93; go_wp2; go_ret; exact ⟨rfl, rfl⟩
  have hr : rankN k = 0 := by simp [rankN, h0, h2, h1, h3, h4, h7, h6]
  have e0 := ne_bool h0
  have e1 := ne_bool h1
  have e2 := ne_bool h2
  have e3 := ne_bool h3
  have e4 := ne_bool h4
  have e6 := ne_bool h6
  have e7 := ne_bool h7
  rw [hr]
  clear hr h0 h1 h2 h3 h4 h6 h7
  go_enter Tryz.func93, Tryz.ntmps93
  go_wp2
  go_ret
  exact ⟨rfl, rfl⟩

/-- Two lists of texts in order. -/
def agS : List ByteArray → List ByteArray → Int
  | [], [] => 0
  | [], _ :: _ => -1
  | _ :: _, [] => 1
  | a :: r, b :: t => if Lib.compareBytes a.data.toList b.data.toList = 0 then agS r t else Lib.compareBytes a.data.toList b.data.toList

theorem agS_drop {a b : List ByteArray} : ∀ {i : Nat}, i < a.length → i < b.length → agS (a.drop i) (b.drop i) =
    (if Lib.compareBytes (a.getD i ⟨#[]⟩).data.toList (b.getD i ⟨#[]⟩).data.toList = 0 then agS (a.drop (i + 1)) (b.drop (i + 1)) else Lib.compareBytes (a.getD i ⟨#[]⟩).data.toList (b.getD i ⟨#[]⟩).data.toList) := by
  intro i h1 h2
  rw [List.drop_eq_getElem_cons h1, List.drop_eq_getElem_cons h2, agS]
  simp [List.getD, h1, h2]
theorem agS_end {a b : List ByteArray} {i : Nat} (h : i = min a.length b.length) : agS (a.drop i) (b.drop i) = cmpI a.length b.length := by
  unfold cmpI
  by_cases h1 : a.length < b.length
  · rw [if_pos (by omega), List.drop_of_length_le (by omega), List.drop_eq_getElem_cons (by omega : i < b.length)]; rfl
  · rw [if_neg (by omega)]
    by_cases h2 : b.length < a.length
    · rw [if_pos (by omega), List.drop_of_length_le (l := b) (by omega), List.drop_eq_getElem_cons (by omega : i < a.length)]; rfl
    · rw [if_neg (by omega), List.drop_of_length_le (by omega), List.drop_of_length_le (by omega)]; rfl

set_option maxHeartbeats 1000000 in
theorem against_texts (B : Nat) (ka kb : Option Addr) (ca cb : Nat) (a b : List ByteArray) (w : World) (ha : KeysLie B w ka a) (hb : KeysLie B w kb b) (h1 : a.length ≤ ca) (h2 : ca ≤ maxLen) (h3 : b.length ≤ cb) (h4 : cb ≤ maxLen) :
    Calls Tryz.prog 94 #[.slice ka a.length ca, .slice kb b.length cb, .func (.func 95) #[] #[]] w fun e w' => e = .returned (.int .i64 (agS a b)) ∧ ∃ q, w' = w.drewN q := by
  unfold maxLen at h2 h4
  have HN : Hid (min (a.length : Int) (b.length : Int) = ((min a.length b.length : Nat) : Int)) := by show _ = _; omega
  go_enter Tryz.func94, Tryz.ntmps94
  go_wp2_with fail
  rw [HN.out]
  generalize hm : min a.length b.length = m at *
  have hma : m ≤ a.length := by omega
  have hmb : m ≤ b.length := by omega
  have HM : Hid (m = min a.length b.length) := hm.symm
  clear hm
  go_loopw [14] (fun i wr => ∃ j : Nat, j ≤ m ∧ i = .int .i64 j ∧ (∃ q, wr = w.drewN q) ∧ agS (a.drop j) (b.drop j) = agS a b) (fun i _ => m - (intOf i).toNat)
  case atStart => exact ⟨0, Nat.zero_le _, rfl, ⟨0, rfl⟩, rfl⟩
  case round =>
    obtain ⟨j, hj, rfl, ⟨q, hwr⟩, hag⟩ := hrel
    subst hwr
    have HAG : Hid (agS (a.drop j) (b.drop j) = agS a b) := hag
    clear hag
    by_cases hlt : j < m
    · obtain ⟨bk, off, rfl, hbk, hkey⟩ := ha.resolve_left (by intro e; subst e; simp at hma; omega)
      obtain ⟨bk', off', rfl, hbk', hkey'⟩ := hb.resolve_left (by intro e; subst e; simp at hmb; omega)
      have hc := (hkey j (by omega)).1
      have hc' := (hkey' j (by omega)).1
      have HST := hidE (agS_drop (a := a) (b := b) (i := j) (by omega) (by omega))
      generalize a.getD j ⟨#[]⟩ = x at *
      generalize b.getD j ⟨#[]⟩ = y at *
      clear hkey hkey'
      have hja : j < a.length := by omega
      have hjb : j < b.length := by omega
      go_wp2_with fail
      go_region_with (go_at_call 95; refine (Tryz.strings_Compare _ _ _).mono ?_; rintro e w' ⟨rfl, rfl⟩)
      all_goals
        generalize hcm : Lib.compareBytes x.data.toList y.data.toList = cm at *
        have HCM := hidE hcm
        clear hcm
        by_cases h0 : cm = 0
        · have h0' : (cm != 0) = false := by simp [h0]
          go_wp2_with fail
          go_roundw
          case rel => exact ⟨j + 1, by omega, by go_num, ⟨_, rfl⟩, by have := HST.out; rw [if_pos h0] at this; rw [← this]; exact HAG.out⟩
          case measure => simp [intOf]; omega
        · have h0' : (cm != 0) = true := by simp [h0]
          go_wp2_with fail
          go_ret
          refine ⟨?_, _, rfl⟩
          have := HST.out; rw [if_neg h0] at this; rw [← HAG.out, this]; rfl
    · go_wp2_with fail
      refine (cmp_int _ _ _).mono ?_
      rintro e w' ⟨rfl, rfl⟩
      go_wp2_with fail
      go_ret
      refine ⟨?_, _, rfl⟩
      rw [← HAG.out, agS_end (by have := HM.out; omega)]; rfl
end Go.Proofs.YtbpmhgcjefpigaaGreatDoor

namespace Go.Proofs.YtbpmhgcjefpigaaGreatDoor
open Go.RowKit Go.Shelf
set_option linter.unusedVariables false

set_option maxRecDepth 100000 in
theorem under20 : ∃ ms, Tryz.prog.underlying 20 = some (.interface ms) := ⟨_, Tryz.underlying20⟩
set_option maxRecDepth 100000 in
theorem comp41 : (Tryz.prog.info? 35).map (·.comparable) = some true := by kernel_rfl

set_option maxRecDepth 100000 in
theorem eq_long (w : World) : (binOp .eql 20 (.iface 35 (.int .i64 3)) (.iface 35 (.int .i64 3))).run Tryz.prog w = .ok (.bool true) w := by
  obtain ⟨ms, h20⟩ := under20
  have h41 : ∃ i, Tryz.prog.info? 35 = some i ∧ i.comparable = true := by
    have := comp41
    cases h : Tryz.prog.info? 35 with
    | none => rw [h] at this; cases this
    | some i => rw [h] at this; exact ⟨i, rfl, by simpa using this⟩
  obtain ⟨i, hi, hc⟩ := h41
  have h : ∀ d : Nat, (Op.equalIn (d + 2) 20 (.iface 35 (.int .i64 3)) (.iface 35 (.int .i64 3))).run Tryz.prog w = .ok true w := fun d => by
    simp [Op.equalIn, run_underlying h20, run_underlying Tryz.underlying35, typeInfo, hi, hc]
  simp only [binOp]
  simp [Op.equal, Op.maxDepth, h 9998]

set_option maxRecDepth 100000 in
set_option maxHeartbeats 1000000 in
theorem catch_long (n : Nat) (p : Addr) (z : Int) (w : World) (hc : w.cell? p = some (.int .i64 z)) (hz : w.frozen? p = false) :
    CallsDIn Fence.wide n Tryz.prog 63 #[.pointer (some p)] (.panicking [{ v := .iface 35 (.int .i64 3), recovered := false }]) w fun e u' w' =>
      e = .returned (.tuple #[]) ∧ u' = .panicking [{ v := .iface 35 (.int .i64 3), recovered := true }] ∧ w' = w.setCell p (.int .i64 3) := by
  have he := eq_long w
  refine callsDIn_of_wpSIn Tryz.func63 rfl trivial fun c₀ cs hu => ?_
  apply wpSIn_seq
  apply wpSIn_region
  simp [wpOpsSIn, go_sem, recoverD, hu, Tryz.ntmps63, Exit.thenS, Oper.about, Fence.wide, Array.replicate_succ]
  refine wpSIn_of_wpIn rfl ?_
  gi_wp2
  exact ⟨rfl, _, rfl, _, (by simp [results, Tryz.results63]), rfl, rfl, rfl⟩

set_option maxRecDepth 100000 in
set_option maxHeartbeats 1000000 in
theorem catch_idle (n : Nat) (p : Addr) (w : World) :
    CallsDIn Fence.wide n Tryz.prog 63 #[.pointer (some p)] .returning w fun e u' w' => e = .returned (.tuple #[]) ∧ u' = .returning ∧ w' = w := by
  have he := run_eql_iface_nil_left (P := Tryz.prog) w 35 (.int .i64 3) Tryz.underlying20
  have hne := run_neq_nil_nil (P := Tryz.prog) w 20 (by kernel_rfl)
  refine callsDIn_of_wpSIn Tryz.func63 rfl trivial fun c₀ cs hu => ?_
  apply wpSIn_seq
  apply wpSIn_region
  simp [wpOpsSIn, go_sem, recoverD, hu, Tryz.ntmps63, Exit.thenS, Oper.about, Fence.wide, Array.replicate_succ]
  refine wpSIn_of_wpIn rfl ?_
  gi_wp2
  cases c₀
  simp only at hu
  subst hu
  exact ⟨rfl, _, rfl, _, (by simp [results, Tryz.results63]), rfl, rfl, rfl⟩
end Go.Proofs.YtbpmhgcjefpigaaGreatDoor

