/- What Check does with a panic: the function that it defers. -/
import Derived.Test.YteddjlbfbpecjaaGreatDoorJoin4
import Derived.RecoverIn
import Derived.LaidEql
import Derived.WideLaws
namespace Go.Proofs.YteddjlbfbpecjaaGreatDoor
open Go.RowKit Go.Shelf
set_option linter.unusedVariables false

set_option maxRecDepth 100000 in
theorem under20 : ∃ ms, Tryz.prog.underlying 20 = some (.interface ms) := ⟨_, Tryz.underlying20⟩
set_option maxRecDepth 100000 in
theorem comp41 : (Tryz.prog.info? 28).map (·.comparable) = some true := by kernel_rfl

set_option maxRecDepth 100000 in
theorem eq_long (w : World) : (binOp .eql 20 (.iface 28 (.int .i64 3)) (.iface 28 (.int .i64 3))).run Tryz.prog w = .ok (.bool true) w := by
  obtain ⟨ms, h20⟩ := under20
  have h41 : ∃ i, Tryz.prog.info? 28 = some i ∧ i.comparable = true := by
    have := comp41
    cases h : Tryz.prog.info? 28 with
    | none => rw [h] at this; cases this
    | some i => rw [h] at this; exact ⟨i, rfl, by simpa using this⟩
  obtain ⟨i, hi, hc⟩ := h41
  have h : ∀ d : Nat, (Op.equalIn (d + 2) 20 (.iface 28 (.int .i64 3)) (.iface 28 (.int .i64 3))).run Tryz.prog w = .ok true w := fun d => by
    simp [Op.equalIn, run_underlying h20, run_underlying Tryz.underlying28, typeInfo, hi, hc]
  simp only [binOp]
  simp [Op.equal, Op.maxDepth, h 9998]

set_option maxRecDepth 100000 in
set_option maxHeartbeats 1000000 in
theorem catch_long (n : Nat) (p : Addr) (z : Int) (w : World) (hc : w.cell? p = some (.int .i64 z)) (hz : w.frozen? p = false) :
    CallsDIn Fence.wide n Tryz.prog 206 #[.pointer (some p)] (.panicking [{ v := .iface 28 (.int .i64 3), recovered := false }]) w fun e u' w' =>
      e = .returned (.tuple #[]) ∧ u' = .panicking [{ v := .iface 28 (.int .i64 3), recovered := true }] ∧ w' = w.setCell p (.int .i64 3) := by
  have he := eq_long w
  refine callsDIn_of_wpSIn Tryz.func206 rfl trivial fun c₀ cs hu => ?_
  apply wpSIn_seq
  apply wpSIn_region
  simp [wpOpsSIn, go_sem, recoverD, hu, Tryz.ntmps206, Exit.thenS, Oper.about, Fence.wide, Array.replicate_succ]
  refine wpSIn_of_wpIn rfl ?_
  gi_wp2
  exact ⟨rfl, _, rfl, _, (by simp [results, Tryz.results206]), rfl, rfl, rfl⟩

set_option maxRecDepth 100000 in
set_option maxHeartbeats 1000000 in
theorem catch_idle (n : Nat) (p : Addr) (w : World) :
    CallsDIn Fence.wide n Tryz.prog 206 #[.pointer (some p)] .returning w fun e u' w' => e = .returned (.tuple #[]) ∧ u' = .returning ∧ w' = w := by
  have he := run_eql_iface_nil_left (P := Tryz.prog) w 28 (.int .i64 3) Tryz.underlying20
  have hne := run_neq_nil_nil (P := Tryz.prog) w 20 (by kernel_rfl)
  refine callsDIn_of_wpSIn Tryz.func206 rfl trivial fun c₀ cs hu => ?_
  apply wpSIn_seq
  apply wpSIn_region
  simp [wpOpsSIn, go_sem, recoverD, hu, Tryz.ntmps206, Exit.thenS, Oper.about, Fence.wide, Array.replicate_succ]
  refine wpSIn_of_wpIn rfl ?_
  gi_wp2
  cases c₀
  simp only at hu
  subst hu
  exact ⟨rfl, _, rfl, _, (by simp [results, Tryz.results206]), rfl, rfl, rfl⟩
end Go.Proofs.YteddjlbfbpecjaaGreatDoor
