/- What is told byte by byte: letters, bare keys, rows of bytes that grow. -/
import Derived.Test.YtbpmhgcjefpigaaGreatDoorLess
import Derived.Lib.AppendStr
import Derived.Lib.BufferKept
namespace Go.Proofs.YtbpmhgcjefpigaaGreatDoor
open Go.RowKit Go.Shelf
set_option linter.unusedVariables false

def letterB (m : Nat) : Bool := m == 95 || (decide (65 ≤ m) && decide (m ≤ 90)) || (decide (97 ≤ m) && decide (m ≤ 122))
theorem letter_any (m : Nat) (w : World) : Calls Tryz.prog 106 #[.int .u8 (m : Int)] w fun e w' => e = .returned (.bool (letterB m)) ∧ w' = w := by
  go_enter Tryz.func106, Tryz.ntmps106
  by_cases h1 : m = 95
  · subst h1
    go_wp2_with fail
    go_ret
    exact ⟨rfl, rfl⟩
  have a1 : ¬ (m : Int) = 95 := by omega
  by_cases h2 : 65 ≤ m
  · have a2 : (65 : Int) ≤ m := by omega
    by_cases h3 : m ≤ 90
    · have a3 : (m : Int) ≤ 90 := by omega
      go_wp2_with fail
      go_ret
      exact ⟨by simp [letterB, h2, h3], rfl⟩
    · have a3 : ¬ (m : Int) ≤ 90 := by omega
      by_cases h4 : 97 ≤ m
      · have a4 : (97 : Int) ≤ m := by omega
        go_wp2_with fail
        go_ret
        refine ⟨congrArg (fun b => Ending.returned (.bool b)) (?_ : ((m : Int) == 95 || decide ((m : Int) ≤ 122)) = letterB m), rfl⟩
        rw [Bool.eq_iff_iff]
        simp [letterB]
        omega
      · have a4 : ¬ (97 : Int) ≤ m := by omega
        go_wp2_with fail
        go_ret
        refine ⟨congrArg (fun b => Ending.returned (.bool b)) (?_ : ((m : Int) == 95) = letterB m), rfl⟩
        rw [Bool.eq_iff_iff]
        simp [letterB]
        omega
  · have a2 : ¬ (65 : Int) ≤ m := by omega
    have a4 : ¬ (97 : Int) ≤ m := by omega
    go_wp2_with fail
    go_ret
    refine ⟨congrArg (fun b => Ending.returned (.bool b)) (?_ : ((m : Int) == 95) = letterB m), rfl⟩
    rw [Bool.eq_iff_iff]
    simp [letterB]
    omega

/-- May the byte at place j stand in a key that bears no signs? -/
def bareAt (s : ByteArray) (j : Nat) : Bool := letterB (s.get! j).toNat || (decide (0 < j) && (decide (48 ≤ (s.get! j).toNat) && decide ((s.get! j).toNat ≤ 57)))
def bareB (s : ByteArray) : Bool := (List.range s.size).all (bareAt s) && decide (0 < s.size)
theorem bare_step {s : ByteArray} {j : Nat} (h : (List.range j).all (bareAt s) = true) (h' : bareAt s j = true) : (List.range (j + 1)).all (bareAt s) = true := by
  rw [List.range_succ, List.all_append, h]; simp [h']
theorem bare_not {s : ByteArray} {j : Nat} (hj : j < s.size) (h' : bareAt s j = false) : bareB s = false := by
  unfold bareB
  rw [Bool.and_eq_false_iff]
  left
  rw [List.all_eq_false]
  exact ⟨j, List.mem_range.2 hj, by simp [h']⟩

set_option maxHeartbeats 1000000 in
theorem bare_any (s : ByteArray) (hs : s.size ≤ maxLen) (w : World) : Calls Tryz.prog 83 #[.string s] w fun e w' => e = .returned (.bool (bareB s)) ∧ w' = w := by
  unfold maxLen at hs
  go_enter Tryz.func83, Tryz.ntmps83
  go_wp2_with fail
  go_loopw [6] (fun i wr => ∃ j : Nat, j ≤ s.size ∧ i = .int .i64 j ∧ wr = w ∧ (List.range j).all (bareAt s) = true) (fun i _ => s.size - (intOf i).toNat)
  case atStart => exact ⟨0, Nat.zero_le _, rfl, rfl, rfl⟩
  case round =>
    obtain ⟨j, hj, rfl, rfl, hno⟩ := hrel
    have HNO := hidE hno
    clear hno
    by_cases hlt : j < s.size
    · have hb : s[j] = s.get! j := by simp [ByteArray.get!, ByteArray.getElem_eq_getElem_data, hlt]
      have HAT : Hid (∀ m, (s.get! j).toNat = m → bareAt s j = (letterB m || (decide (0 < j) && (decide (48 ≤ m) && decide (m ≤ 57))))) := fun m h => by subst h; rfl
      go_wp2_with fail
      refine (letter_any _ wr).mono ?_
      rintro e _ ⟨rfl, rfl⟩
      obtain ⟨m, hm⟩ : ∃ m, (s.get! j).toNat = m := ⟨_, rfl⟩
      have HA := hidE (HAT.out m hm)
      rw [hm]
      have hbm : (s[j]).toNat = m := by rw [hb]; exact hm
      clear HAT
      cases hl : letterB m with
      | true =>
        have HL := hidE hl
        clear hl
        go_wp2_with fail
        go_roundw
        case rel =>
          refine ⟨j + 1, by omega, by go_num, trivial, bare_step HNO.out ?_⟩
          rw [HA.out, HL.out]; rfl
        case measure => simp [intOf]; omega
      | false =>
        have HL := hidE hl
        clear hl
        by_cases h0 : j = 0
        · have HR : Hid (bareB s = false) := bare_not hlt (by rw [HA.out, HL.out, h0]; rfl)
          have h0' : ((j : Int) == 0) = true := by simp [h0]
          go_wp2_with fail
          go_ret
          exact ⟨by rw [HR.out]; rfl, rfl⟩
        · have h0' : ((j : Int) == 0) = false := by simp [h0]
          by_cases h1 : m < 48
          · have h1' : (m : Int) < 48 := by omega
            have HR : Hid (bareB s = false) := bare_not hlt (by rw [HA.out, HL.out]; simp; omega)
            go_wp2_with fail
            go_ret
            exact ⟨by rw [HR.out]; rfl, rfl⟩
          · have h1' : ¬ (m : Int) < 48 := by omega
            by_cases h2 : 57 < m
            · have h2' : (57 : Int) < m := by omega
              have HR : Hid (bareB s = false) := bare_not hlt (by rw [HA.out, HL.out]; simp; omega)
              go_wp2_with fail
              go_ret
              exact ⟨by rw [HR.out]; rfl, rfl⟩
            · have h2' : ¬ (57 : Int) < m := by omega
              go_wp2_with fail
              go_roundw
              case rel =>
                refine ⟨j + 1, by omega, by go_num, trivial, bare_step HNO.out ?_⟩
                rw [HA.out, HL.out]
                simp
                omega
              case measure => simp [intOf]; omega
    · have hjs : j = s.size := by omega
      go_wp2_with fail
      go_ret
      refine ⟨congrArg (fun b => Ending.returned (.bool b)) (?_ : (!s.toList.isEmpty) = bareB s), rfl⟩
      have hn := HNO.out
      rw [hjs] at hn
      unfold bareB
      rw [hn, ByteArray.toList_eq, Bool.true_and, Bool.eq_iff_iff]
      have hz : s.size = s.data.toList.length := rfl
      rw [hz]
      cases s.data.toList <;> simp
end Go.Proofs.YtbpmhgcjefpigaaGreatDoor
