/- Letters, digits, small letters: both sides. The document's letters. Does a text stand at a place? -/
import Derived.Test.YtbjcdpenfijfoaaGreatDoorUtf8
import Derived.Test.YtbjcdpenfijfoaaGreatDoorJoin3
import Derived.Lib.IndexBytes
namespace Go.Proofs.YtbjcdpenfijfoaaGreatDoor
open Go.RowKit Go.Shelf Go.Lexed
set_option linter.unusedVariables false
set_option linter.unusedSimpArgs false

def lowN (n : Nat) : Nat := if 65 ≤ n ∧ n ≤ 90 then n + 32 else n
theorem lower_any (n : Nat) (hn : n < 256) (w : World) : Calls Tryz.prog 66 #[.int .u8 (n : Int)] w fun e w' => e = .returned (.int .u8 (lowN n : Nat)) ∧ w' = w := by
  go_enter Tryz.func66, Tryz.ntmps66
  unfold lowN
  by_cases h1 : 65 ≤ n
  · have h1' : (65 : Int) ≤ n := by omega
    by_cases h2 : n ≤ 90
    · have h2' : (n : Int) ≤ 90 := by omega
      rw [if_pos ⟨h1, h2⟩]
      go_wp2
      go_ret
      refine ⟨?_, rfl⟩
      congr 2
      go_num
    · have h2' : ¬ (n : Int) ≤ 90 := by omega
      rw [if_neg (fun h => h2 h.2)]
      go_wp2
      go_ret
      exact ⟨rfl, rfl⟩
  · have h1' : ¬ (65 : Int) ≤ n := by omega
    rw [if_neg (fun h => h1 h.1)]
    go_wp2
    go_ret
    exact ⟨rfl, rfl⟩

def letN (n : Nat) : Bool := decide (n = 95) || (decide (97 ≤ lowN n) && decide (lowN n ≤ 122))
theorem letter_any (n : Nat) (hn : n < 256) (w : World) : Calls Tryz.prog 70 #[.int .u8 (n : Int)] w fun e w' => e = .returned (.bool (letN n)) ∧ w' = w := by
  have hl := fun w => lower_any n hn w
  have hlow : lowN n < 256 := by unfold lowN; split <;> omega
  unfold letN
  generalize lowN n = m at *
  go_enter Tryz.func70, Tryz.ntmps70
  by_cases h0 : n = 95
  · subst h0
    go_wp2_with fail
    go_ret
    exact ⟨rfl, rfl⟩
  · have h0' : ((n : Int) == 95) = false := ne_bool (by omega)
    have hd : decide (n = 95) = false := decide_eq_false h0
    rw [hd, Bool.false_or]
    go_wp2_with fail
    refine (hl _).mono ?_
    rintro e w1 ⟨rfl, rfl⟩
    by_cases h1 : 97 ≤ m
    · have h1' : (97 : Int) ≤ m := by omega
      go_wp2_with fail
      refine (hl _).mono ?_
      rintro e w1 ⟨rfl, rfl⟩
      by_cases h2 : m ≤ 122
      · have h2' : (m : Int) ≤ 122 := by omega
        go_wp2_with fail
        go_ret
        exact ⟨by simp [h1, h2], rfl⟩
      · have h2' : ¬ (m : Int) ≤ 122 := by omega
        go_wp2_with fail
        go_ret
        exact ⟨by simp [h1, h2]; omega, rfl⟩
    · have h1' : ¬ (97 : Int) ≤ m := by omega
      go_wp2_with fail
      go_ret
      exact ⟨by simp [h1], rfl⟩
def digN (n : Nat) : Bool := decide (48 ≤ n) && decide (n ≤ 57)
theorem digit_any (n : Nat) (hn : n < 256) (w : World) : Calls Tryz.prog 75 #[.int .u8 (n : Int)] w fun e w' => e = .returned (.bool (digN n)) ∧ w' = w := by
  unfold digN
  go_enter Tryz.func75, Tryz.ntmps75
  by_cases h1 : 48 ≤ n
  · have h1' : (48 : Int) ≤ n := by omega
    rw [decide_eq_true h1, Bool.true_and]
    by_cases h2 : n ≤ 57
    · have h2' : (n : Int) ≤ 57 := by omega
      rw [decide_eq_true h2]
      go_wp2_with fail
      go_ret
      exact ⟨rfl, rfl⟩
    · have h2' : ¬ (n : Int) ≤ 57 := by omega
      rw [decide_eq_false h2]
      go_wp2_with fail
      go_ret
      exact ⟨rfl, rfl⟩
  · have h1' : ¬ (48 : Int) ≤ n := by omega
    rw [decide_eq_false h1, Bool.false_and]
    go_wp2_with fail
    go_ret
    exact ⟨rfl, rfl⟩
theorem rdigit_any (n : Nat) (hn : n < 256) (w : World) : Calls Tryz.prog 54 #[.int .u8 (n : Int)] w fun e w' => e = .returned (.bool (digN n)) ∧ w' = w := by
  unfold digN
  go_enter Tryz.func54, Tryz.ntmps54
  by_cases h1 : 48 ≤ n
  · have h1' : (48 : Int) ≤ n := by omega
    rw [decide_eq_true h1, Bool.true_and]
    by_cases h2 : n ≤ 57
    · have h2' : (n : Int) ≤ 57 := by omega
      rw [decide_eq_true h2]
      go_wp2_with fail
      go_ret
      exact ⟨rfl, rfl⟩
    · have h2' : ¬ (n : Int) ≤ 57 := by omega
      rw [decide_eq_false h2]
      go_wp2_with fail
      go_ret
      exact ⟨rfl, rfl⟩
  · have h1' : ¬ (48 : Int) ≤ n := by omega
    rw [decide_eq_false h1, Bool.false_and]
    go_wp2_with fail
    go_ret
    exact ⟨rfl, rfl⟩

set_option maxRecDepth 20000 in
theorem isL_let (c : UInt8) : isL c = letN c.toNat := by
  refine all_bytes (p := fun c => isL c = letN c.toNat) ?_ c
  decide
set_option maxRecDepth 20000 in
theorem isD_dig (c : UInt8) : isD c = digN c.toNat := by
  refine all_bytes (p := fun c => isD c = digN c.toNat) ?_ c
  decide
end Go.Proofs.YtbjcdpenfijfoaaGreatDoor

namespace Go.Proofs.YtbjcdpenfijfoaaGreatDoor
open Go.RowKit Go.Shelf Go.Lexed
set_option linter.unusedVariables false
set_option linter.unusedSimpArgs false

theorem rletter_any (n : Nat) (hn : n < 256) (w : World) : Calls Tryz.prog 53 #[.int .u8 (n : Int)] w fun e w' => e = .returned (.bool (letN n)) ∧ w' = w := by
  have hv : letN n = (decide (97 ≤ n) && decide (n ≤ 122) || (decide (65 ≤ n) && decide (n ≤ 90) || decide (n = 95))) := by
    unfold letN lowN
    rw [Bool.eq_iff_iff]
    by_cases hu : 65 ≤ n ∧ n ≤ 90
    · rw [if_pos hu]; simp only [Bool.or_eq_true, Bool.and_eq_true, decide_eq_true_eq]; omega
    · rw [if_neg hu]; simp only [Bool.or_eq_true, Bool.and_eq_true, decide_eq_true_eq]; omega
  have HT : Hid ((97 ≤ n ∧ n ≤ 122 ∨ 65 ≤ n ∧ n ≤ 90 ∨ n = 95) → letN n = true) := fun h => by rw [hv]; simp only [Bool.or_eq_true, Bool.and_eq_true, decide_eq_true_eq]; exact h
  have HF : Hid (¬ (97 ≤ n ∧ n ≤ 122 ∨ 65 ≤ n ∧ n ≤ 90 ∨ n = 95) → letN n = false) := fun h => by
    rw [hv, Bool.eq_false_iff]
    simp only [ne_eq, Bool.or_eq_true, Bool.and_eq_true, decide_eq_true_eq]
    exact h
  generalize letN n = v at HT HF ⊢
  clear hv
  go_enter Tryz.func53, Tryz.ntmps53
  by_cases h1 : 97 ≤ n
  · have h1' : (97 : Int) ≤ n := by omega
    by_cases h2 : n ≤ 122
    · have h2' : (n : Int) ≤ 122 := by omega
      go_wp2_with fail
      go_ret
      rw [HT.out (by omega)]
      exact ⟨rfl, rfl⟩
    · have h2' : ¬ (n : Int) ≤ 122 := by omega
      have h3' : (65 : Int) ≤ n := by omega
      have h4' : ¬ (n : Int) ≤ 90 := by omega
      have h5' : ((n : Int) == 95) = false := ne_bool (by omega)
      go_wp2_with fail
      go_ret
      rw [HF.out (by omega)]
      exact ⟨rfl, rfl⟩
  · have h1' : ¬ (97 : Int) ≤ n := by omega
    by_cases h3 : 65 ≤ n
    · have h3' : (65 : Int) ≤ n := by omega
      by_cases h4 : n ≤ 90
      · have h4' : (n : Int) ≤ 90 := by omega
        go_wp2_with fail
        go_ret
        rw [HT.out (by omega)]
        exact ⟨rfl, rfl⟩
      · have h4' : ¬ (n : Int) ≤ 90 := by omega
        by_cases h5 : n = 95
        · subst h5
          go_wp2_with fail
          go_ret
          rw [HT.out (by simp)]
          exact ⟨rfl, rfl⟩
        · have h5' : ((n : Int) == 95) = false := ne_bool (by omega)
          go_wp2_with fail
          go_ret
          rw [HF.out (by omega)]
          exact ⟨rfl, rfl⟩
    · have h3' : ¬ (65 : Int) ≤ n := by omega
      have h5' : ((n : Int) == 95) = false := ne_bool (by omega)
      go_wp2_with fail
      go_ret
      rw [HF.out (by omega)]
      exact ⟨rfl, rfl⟩

/-- Does a text stand at a place? -/
def startsB (s : ByteArray) (i : Nat) (x : List UInt8) : Bool := x.isPrefixOf (s.data.toList.drop i)
end Go.Proofs.YtbjcdpenfijfoaaGreatDoor

namespace Go.Proofs.YtbjcdpenfijfoaaGreatDoor
open Go.RowKit Go.Shelf Go.Lexed
set_option linter.unusedVariables false
set_option linter.unusedSimpArgs false
theorem piece_eq (s : ByteArray) (i : Nat) (x : ByteArray) (hi : i + x.size ≤ s.size) : ((s.extract i (i + x.size)).toList == x.toList) = startsB s i x.data.toList := by
  rw [← Go.Lib.occ_of_piece s x i hi]
  rfl
theorem starts_any (s : ByteArray) (i : Nat) (x : ByteArray) (hi : i ≤ s.size) (hs : s.size ≤ 10000000000) (hx : x.size ≤ 1000) (w : World) : Calls Tryz.prog 52 #[.string s, .int .i64 (i : Int), .string x] w fun e w' => e = .returned (.bool (startsB s i x.data.toList)) ∧ w' = w := by
  have HP : Hid (i + x.size ≤ s.size → ((s.extract i (i + x.size)).toList == x.toList) = startsB s i x.data.toList) := piece_eq s i x
  have HN : Hid (¬ i + x.size ≤ s.size → startsB s i x.data.toList = false) := fun h => by
    unfold startsB
    rw [Bool.eq_false_iff]
    intro e
    have := (List.isPrefixOf_iff_prefix.1 e).length_le
    simp only [List.length_drop, Array.length_toList] at this
    have e1 : x.data.size = x.size := rfl
    have e2 : s.data.size = s.size := rfl
    omega
  generalize startsB s i x.data.toList = v at HP HN ⊢
  go_enter Tryz.func52, Tryz.ntmps52
  by_cases h : x.size ≤ s.size - i
  · have h' : (x.size : Int) ≤ (s.size : Int) - i := by omega
    have h2 : (0 : Int) ≤ i := by omega
    have h3 : (i : Int) + x.size ≤ s.size := by omega
    have h4 : (i : Int) ≤ (i : Int) + x.size := by omega
    go_wp2_with fail
    go_ret
    refine ⟨?_, rfl⟩
    rw [← HP.out (by omega)]
    rfl
  · have h' : ¬ (x.size : Int) ≤ (s.size : Int) - i := by omega
    go_wp2_with fail
    go_ret
    rw [HN.out (by omega)]
    exact ⟨rfl, rfl⟩
end Go.Proofs.YtbjcdpenfijfoaaGreatDoor

