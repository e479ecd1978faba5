/- The number two, told. -/
import Derived.Test.YtbpmhgcjefpigaaGreatDoorTell3
namespace Go.Proofs.YtbpmhgcjefpigaaGreatDoor
open Go.RowKit Go.Shelf Go.Lib
set_option linter.unusedVariables false

set_option maxRecDepth 100000 in
theorem small_two (w : World) : Calls Tryz.prog 118 #[.int .i64 2] w fun e w' => e = .returned (.string ⟨#[50]⟩) ∧ w' = w := by
  go_enter Tryz.func118, Tryz.ntmps118
  go_wp2_with fail
  go_ret
  exact ⟨rfl, rfl⟩
set_option maxRecDepth 100000 in
theorem appendUint_two (base n : Nat) (v : Value) (xs : List Value) (w : World) (hown : w.ownsRow base 5 1 v n xs) (hB : base ≤ w.heap.size) (hn : n ≤ 1000000000) :
    Calls Tryz.prog 140 #[v, .int .u64 2, .int .i64 10] w fun e w' => ∃ v', e = .returned v' ∧ Told base n xs v w [50] v' w' := by
  go_enter Tryz.func140, Tryz.ntmps140
  go_wp2_with fail
  refine (small_two w).mono ?_
  rintro e _ ⟨rfl, rfl⟩
  go_wp2_with (at_builtin; refine append_text _ rfl _ _ rfl base n v xs rfl hown ⟨#[50]⟩ rfl (by decide) (by show n + 1 ≤ _; omega) hB ?_; intro v' w' ht)
  have HT := hidE ht
  go_ret
  exact ⟨_, rfl, HT.out⟩
set_option maxRecDepth 100000 in
theorem appendInt_two_in (base n : Nat) (v : Value) (xs : List Value) (w : World) (hown : w.ownsRow base 5 1 v n xs) (hB : base ≤ w.heap.size) (hn : n ≤ 1000000000) :
    Calls Tryz.prog 117 #[v, .int .i64 2, .int .i64 10] w fun e w' => ∃ v', e = .returned v' ∧ Told base n xs v w [50] v' w' := by
  have HC := hidE (appendUint_two base n v xs w hown hB hn)
  clear hown
  go_enter Tryz.func117, Tryz.ntmps117
  go_wp2_with fail
  refine HC.out.mono ?_
  rintro e w' ⟨v', rfl, ht⟩
  have HT := hidE ht
  clear ht HC
  go_wp2_with fail
  go_ret
  exact ⟨_, rfl, HT.out⟩
theorem itoa_two : itoa 2 = [50] := by simp [itoa, decDigits]
theorem intOk_two : IntOk 2 := by
  intro base n v xs w hown hB hn _
  rw [itoa_two]
  have HC := hidE (appendInt_two_in base n v xs w hown hB hn)
  clear hown
  go_enter Tryz.func99, Tryz.ntmps99
  go_wp2_with fail
  refine HC.out.mono ?_
  rintro e w' ⟨v', rfl, ht⟩
  have HT := hidE ht
  clear ht HC
  go_wp2_with fail
  go_ret
  exact ⟨_, rfl, HT.out⟩
end Go.Proofs.YtbpmhgcjefpigaaGreatDoor
