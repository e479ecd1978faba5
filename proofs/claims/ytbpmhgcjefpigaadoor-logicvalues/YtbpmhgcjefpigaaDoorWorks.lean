/- Contract of works: whatever the world, it returns true and turns nothing that was there. -/
import Derived.Test.YtbpmhgcjefpigaaDoorRange
namespace Go.Proofs.YtbpmhgcjefpigaaDoor
open Go.RowKit
set_option linter.unusedVariables false

theorem mul_works (w : World) : Calls Tryd.prog 29 #[.int .i64 (-4294967296), .int .i64 2147483648] w fun e w' => e = .returned (.tuple #[.int .i64 (-9223372036854775808), .int .i64 0]) ∧ w' = w := by
  have h := mul_any (-4294967296) 2147483648 w (by omega) (by omega) (by omega) (by omega)
  have e1 : fitN (-4294967296 * 2147483648) = -9223372036854775808 := by unfold fitN; simp
  have e2 : fitE (-4294967296 * 2147483648) = 0 := by unfold fitE; simp
  rw [e1, e2] at h
  exact h
theorem add_works (w : World) : Calls Tryd.prog 24 #[.int .i64 9223372036854775807, .int .i64 1] w fun e w' => e = .returned (.tuple #[.int .i64 0, .int .i64 120]) ∧ w' = w :=
  add_over _ _ _ (by omega) (by omega) (by omega)
theorem sum_works (w : World) : Calls Tryd.prog 30 #[.slice (some ⟨w.heap.size, 0, none⟩) 3 3] (w.alloc (.cells #[.int .i64 9223372036854775807, .int .i64 1, .int .i64 (-1)] 2)) fun e w' => e = .returned (.tuple #[.int .i64 9223372036854775807, .int .i64 0]) ∧ Below w.heap.size w w' := by
  have h := sum_any w.heap.size 0 3 3 [9223372036854775807, 1, -1] (w.alloc (.cells #[.int .i64 9223372036854775807, .int .i64 1, .int .i64 (-1)] 2)) rfl (by omega) (by simp) (by
    intro j hj; match j, hj with
    | 0, _ => simp
    | 1, _ => simp
    | 2, _ => simp) (by
    intro j hj; match j, hj with
    | 0, _ => simp
    | 1, _ => simp
    | 2, _ => simp)
  have e0 : sumL [9223372036854775807, 1, -1] = 9223372036854775807 := by simp [sumL]
  have e1 : fitN 9223372036854775807 = 9223372036854775807 := by unfold fitN; simp
  have e2 : fitE 9223372036854775807 = 0 := by unfold fitE; simp
  rw [e0, e1, e2] at h
  refine h.mono ?_
  rintro e w' ⟨rfl, hb⟩
  exact ⟨rfl, below_alloc hb⟩

theorem rgo_works : rgo 1 (-2) 65537 5 = [5, 3, 1] := by
  rw [show (65537 : Nat) = 65533 + 1 + 1 + 1 + 1 from rfl, rgo_on (by decide) (by decide), rgo_on (by decide) (by decide), rgo_on (by decide) (by decide), rgo_end (by decide)]
  rfl
theorem range_works (w : World) : Calls Tryd.prog 20 #[.int .i64 5, .int .i64 1, .int .i64 (-2)] w fun e w' => Below w.heap.size w w' ∧
    ∃ g cap, e = .returned (.tuple #[.slice (some ⟨g, 0, none⟩) 3 cap, .int .i64 0]) ∧ g < w'.heap.size ∧ w'.cell? ⟨g, 2, none⟩ = some (.int .i64 1) := by
  refine (range_any 5 1 (-2) w (by omega) (by omega) (by omega) (by omega) (by omega) (by omega) (by omega)).mono ?_
  rintro e w' ⟨hb, h | ⟨_, v, rfl, hown⟩⟩
  · rw [rgo_works] at h; simp at h
  · rw [rgo_works] at hown
    refine ⟨hb, ?_⟩
    have ho := hown
    obtain ⟨_, ⟨_, h0⟩ | ⟨g, cap, cur, rfl, hg⟩⟩ := ho
    · simp at h0
    · refine ⟨g, cap, rfl, (hown.lt g rfl).2, ?_⟩
      have := hown.cells (g := g) rfl 2 (.int .i64 1) (by simp)
      simpa [Addr.add] using this

set_option maxHeartbeats 800000 in
theorem works_any (w : World) : Calls Tryd.prog 6 #[] w fun e w' => e = .returned (.bool true) ∧ Below w.heap.size w w' := by
  have e1 : (andL [2, 1] == 1) = true := by decide
  have e2 : (orL [1, 2] == 2) = true := by decide
  have e3 : (notI 1 == 1) = true := by decide
  go_enter Tryd.func6, Tryd.ntmps6
  go_wp2_with fail
  refine (mul_works _).mono ?_; rintro e w' ⟨rfl, rfl⟩
  go_wp2_with fail
  refine (add_works _).mono ?_; rintro e w' ⟨rfl, rfl⟩
  go_wp2_with fail
  refine (sum_works _).mono ?_; rintro e w1 ⟨rfl, hb1⟩
  go_wp2_with fail
  refine (range_works _).mono ?_; rintro e w2 ⟨hb2, g, cap, rfl, hg, hc⟩
  have hb := below_on hb1 hb2
  clear hb1 hb2
  go_wp2_with fail
  refine (and_two _ _ _).mono ?_; rintro e w3 ⟨rfl, hb3⟩
  have hc3 : w3.cell? ⟨g, 2, none⟩ = some (.int .i64 1) := (hb3.cell (p := ⟨g, 2, none⟩) hg).trans hc
  have hg3 : g < w3.heap.size := Nat.lt_of_lt_of_le hg hb3.size
  have hbb := below_on hb hb3
  clear hb hb3 hc hg
  go_wp2_with fail
  refine (or_two _ _ _).mono ?_; rintro e w4 ⟨rfl, hb4⟩
  have hc4 : w4.cell? ⟨g, 2, none⟩ = some (.int .i64 1) := (hb4.cell (p := ⟨g, 2, none⟩) hg3).trans hc3
  have hg4 : g < w4.heap.size := Nat.lt_of_lt_of_le hg3 hb4.size
  have hb := below_on hbb hb4
  clear hbb hb4 hc3 hg3
  go_wp2_with fail
  refine (not_any _ _).mono ?_; rintro e w5 ⟨rfl, hb5⟩
  have hc5 : w5.cell? ⟨g, 2, none⟩ = some (.int .i64 1) := (hb5.cell (p := ⟨g, 2, none⟩) hg4).trans hc4
  have hbb := below_on hb hb5
  clear hb hb5 hc4 hg4
  go_wp2_with (go_at_call 21; refine (num_any _ _).mono ?_; rintro e w' ⟨rfl, rfl⟩)
  go_ret
  exact ⟨rfl, hbb⟩
end Go.Proofs.YtbpmhgcjefpigaaDoor
