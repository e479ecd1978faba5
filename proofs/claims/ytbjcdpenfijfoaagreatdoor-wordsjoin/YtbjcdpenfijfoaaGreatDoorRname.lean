/- The document's names. -/
import Derived.Test.YtbjcdpenfijfoaaGreatDoorRskip
namespace Go.Proofs.YtbjcdpenfijfoaaGreatDoor
open Go.RowKit Go.Shelf Go.Lexed
set_option linter.unusedVariables false
set_option linter.unusedSimpArgs false
theorem zero_at {s : ByteArray} {q : Nat} (hq : q < s.size) (h : s[q].toNat = 0) : (suf s q).contains 0 = true := by
  rw [suf_cons hq]
  have e : s[q] = UInt8.ofNat 0 := by rw [← h]; simp
  simp [e]
theorem zero_not {s : ByteArray} {q : Nat} (hq : q < s.size) (h : s[q].toNat ≠ 0) : (suf s q).contains 0 = (suf s (q + 1)).contains 0 := by
  rw [suf_cons hq, List.contains_cons]
  have e : (0 == s[q]) = false := by
    rw [beq_eq_false_iff_ne]
    intro e; rw [← e] at h; exact h rfl
  rw [e, Bool.false_or]
set_option maxHeartbeats 2000000 in
theorem rname_any (s : ByteArray) (w : World) (hs : s.size ≤ 10000000000) : Calls Tryz.prog 24 #[.string s] w fun e w' => e = .returned (.bool (nameOk Lib.validD s.data.toList)) ∧ w' = w := by
  have hv : nameOk Lib.validD s.data.toList = (decide (s.size ≥ 1) && decide (s.size ≤ 64) && Lib.validD s.data.toList && !(suf s 0).contains 0) := by
    unfold nameOk suf
    simp
  have HV := hidE hv
  clear hv
  generalize nameOk Lib.validD s.data.toList = v at HV ⊢
  have HU := hidE (fun w => utf_any s w (by omega))
  generalize Lib.validD s.data.toList = u at HV HU
  go_enter Tryz.func24, Tryz.ntmps24
  go_wp2_with fail
  go_loopw [3] (fun x wr => ∃ q : Nat, q ≤ s.size ∧ x = .int .i64 q ∧ wr = w ∧ (suf s 0).contains 0 = (suf s q).contains 0) (fun x _ => s.size - (intOf x).toNat)
  case atStart => exact ⟨0, Nat.zero_le _, rfl, rfl, rfl⟩
  case round =>
    obtain ⟨q, hq, rfl, rfl, hln⟩ := hrel
    have HLN := hidE hln
    clear hln
    by_cases hlq : q < s.size
    · have hlq' : (q : Int) < s.size := by omega
      obtain ⟨m2, hm2⟩ : ∃ m2, s[q].toNat = m2 := ⟨_, rfl⟩
      have hm2' : (s[q].toNat : Int) = m2 := by rw [hm2]
      have HM2 := hidE hm2
      clear hm2
      by_cases hz : m2 = 0
      · subst hz
        have HE : Hid (v = false) := by
          show _ = _
          rw [HV.out, HLN.out, zero_at hlq HM2.out]; simp
        go_wp2_with fail
        go_ret
        rw [HE.out]
        exact ⟨rfl, rfl⟩
      · have hz' : ((m2 : Int) == 0) = false := ne_bool (by omega)
        have HE : Hid ((suf s 0).contains 0 = (suf s (q + 1)).contains 0) := by
          show _ = _
          rw [HLN.out]
          exact zero_not hlq (by rw [HM2.out]; exact hz)
        go_wp2_with fail
        go_roundw
        case rel => exact ⟨q + 1, by omega, by go_num, trivial, HE.out⟩
        case measure => simp [intOf]; omega
    · have hlq' : ¬ (q : Int) < s.size := by omega
      have HE : Hid (v = (decide (s.size ≥ 1) && decide (s.size ≤ 64) && u)) := by
        show _ = _
        rw [HV.out, HLN.out, suf_end (by omega)]; simp
      by_cases h1 : 1 ≤ s.size
      · have h1' : (1 : Int) ≤ s.size := by omega
        by_cases h2 : s.size ≤ 64
        · have h2' : (s.size : Int) ≤ 64 := by omega
          have HE2 : Hid (v = u) := by show _ = _; rw [HE.out]; simp [h1, h2]
          go_wp2_with fail
          refine (HU.out _).mono ?_
          rintro e w1 ⟨rfl, rfl⟩
          go_wp2_with fail
          go_ret
          rw [HE2.out]
          exact ⟨rfl, rfl⟩
        · have h2' : ¬ (s.size : Int) ≤ 64 := by omega
          have HE2 : Hid (v = false) := by show _ = _; rw [HE.out]; simp [h2]
          go_wp2_with fail
          go_ret
          rw [HE2.out]
          exact ⟨rfl, rfl⟩
      · have h1' : ¬ (1 : Int) ≤ s.size := by omega
        have HE2 : Hid (v = false) := by show _ = _; rw [HE.out]; simp; omega
        go_wp2_with fail
        go_ret
        rw [HE2.out]
        exact ⟨rfl, rfl⟩
end Go.Proofs.YtbjcdpenfijfoaaGreatDoor
