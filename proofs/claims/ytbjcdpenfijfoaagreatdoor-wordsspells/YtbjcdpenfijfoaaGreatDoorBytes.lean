/- Letters, digits, small letters: both sides. -/
import Derived.Test.YtbjcdpenfijfoaaGreatDoorUtf8
import Derived.Test.YtbjcdpenfijfoaaGreatDoorJoin1
namespace Go.Proofs.YtbjcdpenfijfoaaGreatDoor
open Go.RowKit Go.Shelf Go.Lexed
set_option linter.unusedVariables false
set_option linter.unusedSimpArgs false

def lowN (n : Nat) : Nat := if 65 ≤ n ∧ n ≤ 90 then n + 32 else n
theorem lower_any (n : Nat) (hn : n < 256) (w : World) : Calls Tryz.prog 66 #[.int .u8 (n : Int)] w fun e w' => e = .returned (.int .u8 (lowN n : Nat)) ∧ w' = w := by
  go_enter Tryz.func66, Tryz.ntmps66
  unfold lowN
  by_cases h1 : 65 ≤ n
  · have h1' : (65 : Int) ≤ n := by omega
    by_cases h2 : n ≤ 90
    · have h2' : (n : Int) ≤ 90 := by omega
      rw [if_pos ⟨h1, h2⟩]
      go_wp2
      go_ret
      refine ⟨?_, rfl⟩
      congr 2
      go_num
    · have h2' : ¬ (n : Int) ≤ 90 := by omega
      rw [if_neg (fun h => h2 h.2)]
      go_wp2
      go_ret
      exact ⟨rfl, rfl⟩
  · have h1' : ¬ (65 : Int) ≤ n := by omega
    rw [if_neg (fun h => h1 h.1)]
    go_wp2
    go_ret
    exact ⟨rfl, rfl⟩

def letN (n : Nat) : Bool := decide (n = 95) || (decide (97 ≤ lowN n) && decide (lowN n ≤ 122))
theorem letter_any (n : Nat) (hn : n < 256) (w : World) : Calls Tryz.prog 70 #[.int .u8 (n : Int)] w fun e w' => e = .returned (.bool (letN n)) ∧ w' = w := by
  have hl := fun w => lower_any n hn w
  have hlow : lowN n < 256 := by unfold lowN; split <;> omega
  unfold letN
  generalize lowN n = m at *
  go_enter Tryz.func70, Tryz.ntmps70
  by_cases h0 : n = 95
  · subst h0
    go_wp2_with fail
    go_ret
    exact ⟨rfl, rfl⟩
  · have h0' : ((n : Int) == 95) = false := ne_bool (by omega)
    have hd : decide (n = 95) = false := decide_eq_false h0
    rw [hd, Bool.false_or]
    go_wp2_with fail
    refine (hl _).mono ?_
    rintro e w1 ⟨rfl, rfl⟩
    by_cases h1 : 97 ≤ m
    · have h1' : (97 : Int) ≤ m := by omega
      go_wp2_with fail
      refine (hl _).mono ?_
      rintro e w1 ⟨rfl, rfl⟩
      by_cases h2 : m ≤ 122
      · have h2' : (m : Int) ≤ 122 := by omega
        go_wp2_with fail
        go_ret
        exact ⟨by simp [h1, h2], rfl⟩
      · have h2' : ¬ (m : Int) ≤ 122 := by omega
        go_wp2_with fail
        go_ret
        exact ⟨by simp [h1, h2]; omega, rfl⟩
    · have h1' : ¬ (97 : Int) ≤ m := by omega
      go_wp2_with fail
      go_ret
      exact ⟨by simp [h1], rfl⟩
def digN (n : Nat) : Bool := decide (48 ≤ n) && decide (n ≤ 57)
theorem digit_any (n : Nat) (hn : n < 256) (w : World) : Calls Tryz.prog 75 #[.int .u8 (n : Int)] w fun e w' => e = .returned (.bool (digN n)) ∧ w' = w := by
  unfold digN
  go_enter Tryz.func75, Tryz.ntmps75
  by_cases h1 : 48 ≤ n
  · have h1' : (48 : Int) ≤ n := by omega
    rw [decide_eq_true h1, Bool.true_and]
    by_cases h2 : n ≤ 57
    · have h2' : (n : Int) ≤ 57 := by omega
      rw [decide_eq_true h2]
      go_wp2_with fail
      go_ret
      exact ⟨rfl, rfl⟩
    · have h2' : ¬ (n : Int) ≤ 57 := by omega
      rw [decide_eq_false h2]
      go_wp2_with fail
      go_ret
      exact ⟨rfl, rfl⟩
  · have h1' : ¬ (48 : Int) ≤ n := by omega
    rw [decide_eq_false h1, Bool.false_and]
    go_wp2_with fail
    go_ret
    exact ⟨rfl, rfl⟩
theorem rdigit_any (n : Nat) (hn : n < 256) (w : World) : Calls Tryz.prog 54 #[.int .u8 (n : Int)] w fun e w' => e = .returned (.bool (digN n)) ∧ w' = w := by
  unfold digN
  go_enter Tryz.func54, Tryz.ntmps54
  by_cases h1 : 48 ≤ n
  · have h1' : (48 : Int) ≤ n := by omega
    rw [decide_eq_true h1, Bool.true_and]
    by_cases h2 : n ≤ 57
    · have h2' : (n : Int) ≤ 57 := by omega
      rw [decide_eq_true h2]
      go_wp2_with fail
      go_ret
      exact ⟨rfl, rfl⟩
    · have h2' : ¬ (n : Int) ≤ 57 := by omega
      rw [decide_eq_false h2]
      go_wp2_with fail
      go_ret
      exact ⟨rfl, rfl⟩
  · have h1' : ¬ (48 : Int) ≤ n := by omega
    rw [decide_eq_false h1, Bool.false_and]
    go_wp2_with fail
    go_ret
    exact ⟨rfl, rfl⟩

set_option maxRecDepth 20000 in
theorem isL_let (c : UInt8) : isL c = letN c.toNat := by
  refine all_bytes (p := fun c => isL c = letN c.toNat) ?_ c
  decide
set_option maxRecDepth 20000 in
theorem isD_dig (c : UInt8) : isD c = digN c.toNat := by
  refine all_bytes (p := fun c => isD c = digN c.toNat) ?_ c
  decide
end Go.Proofs.YtbjcdpenfijfoaaGreatDoor
