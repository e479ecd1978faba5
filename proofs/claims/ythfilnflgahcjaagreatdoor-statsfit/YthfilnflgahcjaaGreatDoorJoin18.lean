/- Names: what the library's own variables hold, and which texts are names. What Check does with a panic: the function that it defers. -/
import Derived.Test.YthfilnflgahcjaaGreatDoorJoin3
import Derived.Test.YthfilnflgahcjaaGreatDoorJoin12
import Derived.Test.YthfilnflgahcjaaGreatDoorJoin13
import Derived.RecoverIn
import Derived.LaidEql
import Derived.WideLaws
namespace Go.Proofs.YthfilnflgahcjaaGreatDoor
open Go.RowKit Go.Shelf
set_option linter.unusedVariables false
set_option linter.unusedSimpArgs false
structure Env (w : World) : Prop where
  room : 3 ≤ w.heap.size
  tabs : Lib.Utf8Tabs (Tryz.laysValid_ren.g 3) (Tryz.laysValid_ren.g 4) w
theorem Env.keep {w w' : World} (h : Env w) (hk : ∀ k, k < 3 → w'.heap[k]? = w.heap[k]?) (hs : 3 ≤ w'.heap.size) : Env w' := by
  have hc : ∀ p : Addr, p.block < 3 → w'.cell? p = w.cell? p := fun p hp => World.cell?_of_block (hk _ hp)
  refine ⟨hs, ⟨fun c hb => ?_, fun i hi => ⟨?_, ?_⟩⟩⟩
  · rw [hc _ (by show 0 < 3; decide)]; exact h.tabs.1 c hb
  · rw [hc _ (by show 1 < 3; decide)]; exact (h.tabs.2 i hi).1
  · rw [hc _ (by show 1 < 3; decide)]; exact (h.tabs.2 i hi).2
theorem Env.below {w w' : World} {B : Nat} (h : Env w) (hb : Below B w w') (hB : 3 ≤ B) : Env w' := h.keep (fun k hk => hb.block k (by omega)) (Nat.le_trans h.room hb.size)
theorem valid_any (s : ByteArray) (hs : s.size ≤ 140737488355328) (w : World) (hE : Env w) : Calls Tryz.prog 116 #[.string s] w fun e w' => e = .returned (.bool (Lib.validD s.data.toList)) ∧ Below w.heap.size w w' :=
  Any.utf8_ValidString Tryz.laysValid s w (by omega) hE.tabs
def nameOk (l : List UInt8) : Bool := decide (l.length ≥ 1) && decide (l.length ≤ 64) && Lib.validD l && !l.contains 0
theorem index_ge (l : List UInt8) (c : UInt8) : -1 ≤ Lib.indexByte l c := by
  induction l with
  | nil => simp [Lib.indexByte]
  | cons b l ih =>
    rw [Lib.indexByte]
    split
    · omega
    · split <;> omega
theorem index_neg (l : List UInt8) (c : UInt8) : (Lib.indexByte l c < 0) ↔ l.contains c = false := by
  induction l with
  | nil => simp [Lib.indexByte]
  | cons b l ih =>
    rw [Lib.indexByte, List.contains_cons]
    by_cases h : b = c
    · subst h; simp
    · have h1 : (b == c) = false := beq_eq_false_iff_ne.2 h
      have h2 : (c == b) = false := beq_eq_false_iff_ne.2 (fun e => h e.symm)
      rw [h1, h2]
      simp only [Bool.false_eq_true, if_false, Bool.false_or]
      have := index_ge l c
      rw [← ih]
      split
      · rename_i e; simp only [beq_iff_eq] at e; omega
      · rename_i e; simp only [beq_iff_eq] at e; omega
set_option maxHeartbeats 1000000 in
theorem name_any (s : ByteArray) (hs : s.size ≤ 140737488355328) (w : World) (hE : Env w) : Calls Tryz.prog 136 #[.string s] w fun e w' => e = .returned (.bool (nameOk s.data.toList)) ∧ Below w.heap.size w w' := by
  have HV : Hid (nameOk s.data.toList = (decide (s.size ≥ 1) && decide (s.size ≤ 64) && Lib.validD s.data.toList && !s.data.toList.contains 0)) := by
    show _ = _
    unfold nameOk
    simp
  have HX := hidE (index_neg s.data.toList 0)
  have HU := hidE (valid_any s hs w hE)
  have HI := hidE (fun w => Tryz.strings_IndexByte s 0 w)
  generalize nameOk s.data.toList = v at HV ⊢
  generalize Lib.validD s.data.toList = u at HV HU
  have HI2 : Hid (∀ w, Calls Tryz.prog 157 #[.string s, .int .u8 0] w fun e w' => e = .returned (.int .i64 (Lib.indexByte s.data.toList 0)) ∧ w' = w) := HI.out
  generalize Lib.indexByte s.data.toList 0 = i at HX HI2
  generalize s.data.toList.contains 0 = z at HV HX
  clear HI
  go_enter Tryz.func136, Tryz.ntmps136
  by_cases h0 : s.size = 0
  · have e0 : s.toList.isEmpty = true := by
      rw [ByteArray.toList_eq, List.isEmpty_iff]
      exact List.eq_nil_of_length_eq_zero (by simpa using h0)
    have HE : Hid (v = false) := by show _ = _; rw [HV.out, h0]; simp
    clear h0
    go_wp2_with fail
    go_ret
    rw [HE.out]
    exact ⟨rfl, Below.refl _ _⟩
  · have e0 : s.toList.isEmpty = false := by
      rw [ByteArray.toList_eq, Bool.eq_false_iff, ne_eq, List.isEmpty_iff]
      intro e
      have := congrArg List.length e
      exact h0 (by simpa using this)
    by_cases h1 : s.size ≤ 64
    · have h1' : (s.size : Int) ≤ 64 := by omega
      go_wp2_with fail
      refine HU.out.mono ?_
      rintro e w1 ⟨rfl, hb⟩
      have HB := hidE hb
      clear hb
      cases u with
      | true =>
        have HE : Hid (v = !z) := by
          show _ = _
          rw [HV.out, decide_eq_true h1, decide_eq_true (by omega : s.size ≥ 1)]; simp
        go_wp2_with fail
        refine (HI2.out _).mono ?_
        rintro e w2 ⟨rfl, rfl⟩
        by_cases hi : i < 0
        · have hz : z = false := HX.out.1 hi
          go_wp2_with fail
          go_ret
          rw [HE.out, hz]
          exact ⟨rfl, HB.out⟩
        · have hz : z = true := by
            cases hz : z with
            | true => rfl
            | false => exact absurd (HX.out.2 hz) hi
          go_wp2_with fail
          go_ret
          rw [HE.out, hz]
          refine ⟨?_, HB.out⟩
          show Ending.returned (.bool (decide (i < 0))) = _
          rw [decide_eq_false (by omega)]
          rfl
      | false =>
        have HE : Hid (v = false) := by show _ = _; rw [HV.out]; simp
        go_wp2_with fail
        go_ret
        rw [HE.out]
        exact ⟨rfl, HB.out⟩
    · have h1' : ¬ (s.size : Int) ≤ 64 := by omega
      have HE : Hid (v = false) := by show _ = _; rw [HV.out, decide_eq_false h1]; simp
      go_wp2_with fail
      go_ret
      rw [HE.out]
      exact ⟨rfl, Below.refl _ _⟩
end Go.Proofs.YthfilnflgahcjaaGreatDoor

namespace Go.Proofs.YthfilnflgahcjaaGreatDoor
open Go.RowKit Go.Shelf
set_option linter.unusedVariables false
set_option maxRecDepth 100000 in
theorem under20 : ∃ ms, Tryz.prog.underlying 20 = some (.interface ms) := ⟨_, Tryz.underlying20⟩
set_option maxRecDepth 100000 in
theorem comp41 : (Tryz.prog.info? 34).map (·.comparable) = some true := by kernel_rfl
set_option maxRecDepth 100000 in
theorem eq_long (w : World) : (binOp .eql 20 (.iface 34 (.int .i64 3)) (.iface 34 (.int .i64 3))).run Tryz.prog w = .ok (.bool true) w := by
  obtain ⟨ms, h20⟩ := under20
  have h41 : ∃ i, Tryz.prog.info? 34 = some i ∧ i.comparable = true := by
    have := comp41
    cases h : Tryz.prog.info? 34 with
    | none => rw [h] at this; cases this
    | some i => rw [h] at this; exact ⟨i, rfl, by simpa using this⟩
  obtain ⟨i, hi, hc⟩ := h41
  have h : ∀ d : Nat, (Op.equalIn (d + 2) 20 (.iface 34 (.int .i64 3)) (.iface 34 (.int .i64 3))).run Tryz.prog w = .ok true w := fun d => by
    simp [Op.equalIn, run_underlying h20, run_underlying Tryz.underlying34, typeInfo, hi, hc]
  simp only [binOp]
  simp [Op.equal, Op.maxDepth, h 9998]
set_option maxRecDepth 100000 in
set_option maxHeartbeats 1000000 in
theorem catch_long (n : Nat) (p : Addr) (z : Int) (w : World) (hc : w.cell? p = some (.int .i64 z)) (hz : w.frozen? p = false) :
    CallsDIn Fence.wide n Tryz.prog 199 #[.pointer (some p)] (.panicking [{ v := .iface 34 (.int .i64 3), recovered := false }]) w fun e u' w' =>
      e = .returned (.tuple #[]) ∧ u' = .panicking [{ v := .iface 34 (.int .i64 3), recovered := true }] ∧ w' = w.setCell p (.int .i64 3) := by
  have he := eq_long w
  refine callsDIn_of_wpSIn Tryz.func199 rfl trivial fun c₀ cs hu => ?_
  apply wpSIn_seq
  apply wpSIn_region
  simp [wpOpsSIn, go_sem, recoverD, hu, Tryz.ntmps199, Exit.thenS, Oper.about, Fence.wide, Array.replicate_succ]
  refine wpSIn_of_wpIn rfl ?_
  gi_wp2
  exact ⟨rfl, _, rfl, _, (by simp [results, Tryz.results199]), rfl, rfl, rfl⟩
set_option maxRecDepth 100000 in
set_option maxHeartbeats 1000000 in
theorem catch_idle (n : Nat) (p : Addr) (w : World) :
    CallsDIn Fence.wide n Tryz.prog 199 #[.pointer (some p)] .returning w fun e u' w' => e = .returned (.tuple #[]) ∧ u' = .returning ∧ w' = w := by
  have he := run_eql_iface_nil_left (P := Tryz.prog) w 34 (.int .i64 3) Tryz.underlying20
  have hne := run_neq_nil_nil (P := Tryz.prog) w 20 (by kernel_rfl)
  refine callsDIn_of_wpSIn Tryz.func199 rfl trivial fun c₀ cs hu => ?_
  apply wpSIn_seq
  apply wpSIn_region
  simp [wpOpsSIn, go_sem, recoverD, hu, Tryz.ntmps199, Exit.thenS, Oper.about, Fence.wide, Array.replicate_succ]
  refine wpSIn_of_wpIn rfl ?_
  gi_wp2
  cases c₀
  simp only at hu
  subst hu
  exact ⟨rfl, _, rfl, _, (by simp [results, Tryz.results199]), rfl, rfl, rfl⟩
end Go.Proofs.YthfilnflgahcjaaGreatDoor

