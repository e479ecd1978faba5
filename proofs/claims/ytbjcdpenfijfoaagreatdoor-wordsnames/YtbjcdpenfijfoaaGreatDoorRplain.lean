/- The document's own: which keys bear no signs. -/
import Derived.Test.YtbjcdpenfijfoaaGreatDoorPspell
namespace Go.Proofs.YtbjcdpenfijfoaaGreatDoor
open Go.RowKit Go.Shelf
set_option linter.unusedVariables false

set_option maxHeartbeats 2000000 in
theorem refPlain_any (s : ByteArray) (hs : s.size ≤ maxLen) (w : World) : Calls Tryz.prog 49 #[.string s] w fun e w' => e = .returned (.bool (vbareB s)) ∧ w' = w := by
  unfold maxLen at hs
  go_enter Tryz.func49, Tryz.ntmps49
  go_wp2_with fail
  go_loopw [3] (fun i wr => ∃ j : Nat, j ≤ s.size ∧ i = .int .i64 j ∧ wr = w ∧ (List.range j).all (vbareAt s) = true) (fun i _ => s.size - (intOf i).toNat)
  case atStart => exact ⟨0, Nat.zero_le _, rfl, rfl, rfl⟩
  case round =>
    obtain ⟨j, hj, rfl, rfl, hno⟩ := hrel
    have HNO := hidE hno
    clear hno
    by_cases hlt : j < s.size
    · have hb : s[j] = s.get! j := by simp [ByteArray.get!, ByteArray.getElem_eq_getElem_data, hlt]
      obtain ⟨m, hm⟩ : ∃ m, (s.get! j).toNat = m := ⟨_, rfl⟩
      have hbm : (s[j]).toNat = m := by rw [hb]; exact hm
      have HAT : Hid (vbareAt s j = (vletB m || (decide (0 < j) && (decide (48 ≤ m) && decide (m ≤ 57))))) := by show _ = _; unfold vbareAt; rw [hm]
      clear hb hm
      go_upto_region 5 with fail
      clear hbm
      by_cases h97 : 97 ≤ m
      · have a97 : (97 : Int) ≤ m := by omega
        by_cases h122 : m ≤ 122
        · have a122 : (m : Int) ≤ 122 := by omega
          have HL : Hid (vletB m = true) := by show _ = _; simp [vletB, h97, h122]
          go_wp2_with fail
          go_roundw
          case rel => exact ⟨j + 1, by omega, by go_num, trivial, vbare_step HNO.out (by rw [HAT.out, HL.out]; rfl)⟩
          case measure => simp [intOf]; omega
        · have a122 : ¬ (m : Int) ≤ 122 := by omega
          have a65 : (65 : Int) ≤ m := by omega
          have a90 : ¬ (m : Int) ≤ 90 := by omega
          have a95 : ((m : Int) == 95) = false := by simp; omega
          have a48 : ¬ (m : Int) < 48 := by omega
          have a57 : (57 : Int) < m := by omega
          have HR : Hid (vbareB s = false) := vbare_not hlt (by rw [HAT.out]; simp [vletB]; omega)
          by_cases h0 : j = 0
          · have h0' : ((j : Int) == 0) = true := by simp [h0]
            go_wp2_with fail
            go_ret
            exact ⟨by rw [HR.out]; rfl, rfl⟩
          · have h0' : ((j : Int) == 0) = false := by simp [h0]
            go_wp2_with fail
            go_ret
            exact ⟨by rw [HR.out]; rfl, rfl⟩
      · have a97 : ¬ (97 : Int) ≤ m := by omega
        by_cases h65 : 65 ≤ m
        · have a65 : (65 : Int) ≤ m := by omega
          by_cases h90 : m ≤ 90
          · have a90 : (m : Int) ≤ 90 := by omega
            have HL : Hid (vletB m = true) := by show _ = _; simp [vletB, h65, h90]
            go_wp2_with fail
            go_roundw
            case rel => exact ⟨j + 1, by omega, by go_num, trivial, vbare_step HNO.out (by rw [HAT.out, HL.out]; rfl)⟩
            case measure => simp [intOf]; omega
          · have a90 : ¬ (m : Int) ≤ 90 := by omega
            by_cases h95 : m = 95
            · subst h95
              go_wp2_with fail
              go_roundw
              case rel => exact ⟨j + 1, by omega, by go_num, trivial, vbare_step HNO.out (by rw [HAT.out]; rfl)⟩
              case measure => simp [intOf]; omega
            · have a95 : ((m : Int) == 95) = false := by simp; omega
              have a48 : ¬ (m : Int) < 48 := by omega
              have a57 : (57 : Int) < m := by omega
              have HR : Hid (vbareB s = false) := vbare_not hlt (by rw [HAT.out]; simp [vletB]; omega)
              by_cases h0 : j = 0
              · have h0' : ((j : Int) == 0) = true := by simp [h0]
                go_wp2_with fail
                go_ret
                exact ⟨by rw [HR.out]; rfl, rfl⟩
              · have h0' : ((j : Int) == 0) = false := by simp [h0]
                go_wp2_with fail
                go_ret
                exact ⟨by rw [HR.out]; rfl, rfl⟩
        · have a65 : ¬ (65 : Int) ≤ m := by omega
          have a95 : ((m : Int) == 95) = false := by simp; omega
          by_cases h0 : j = 0
          · have h0' : ((j : Int) == 0) = true := by simp [h0]
            have HR : Hid (vbareB s = false) := vbare_not hlt (by rw [HAT.out]; simp [vletB]; omega)
            go_wp2_with fail
            go_ret
            exact ⟨by rw [HR.out]; rfl, rfl⟩
          · have h0' : ((j : Int) == 0) = false := by simp [h0]
            by_cases h48 : m < 48
            · have a48 : (m : Int) < 48 := by omega
              have HR : Hid (vbareB s = false) := vbare_not hlt (by rw [HAT.out]; simp [vletB]; omega)
              go_wp2_with fail
              go_ret
              exact ⟨by rw [HR.out]; rfl, rfl⟩
            · have a48 : ¬ (m : Int) < 48 := by omega
              by_cases h57 : 57 < m
              · have a57 : (57 : Int) < m := by omega
                have HR : Hid (vbareB s = false) := vbare_not hlt (by rw [HAT.out]; simp [vletB]; omega)
                go_wp2_with fail
                go_ret
                exact ⟨by rw [HR.out]; rfl, rfl⟩
              · have a57 : ¬ (57 : Int) < m := by omega
                go_wp2_with fail
                go_roundw
                case rel => exact ⟨j + 1, by omega, by go_num, trivial, vbare_step HNO.out (by rw [HAT.out]; simp [vletB]; omega)⟩
                case measure => simp [intOf]; omega
    · have hjs : j = s.size := by omega
      go_wp2_with fail
      go_ret
      refine ⟨congrArg (fun b => Ending.returned (.bool b)) (?_ : (!s.toList.isEmpty) = vbareB s), rfl⟩
      have hn := HNO.out
      rw [hjs] at hn
      unfold vbareB
      rw [hn, ByteArray.toList_eq, Bool.true_and, Bool.eq_iff_iff]
      have hz : s.size = s.data.toList.length := rfl
      rw [hz]
      cases s.data.toList <;> simp
end Go.Proofs.YtbjcdpenfijfoaaGreatDoor
