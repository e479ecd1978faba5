/- The reader goes over letters and digits. -/
import Derived.Test.YtbjcdpenfijfoaaGreatDoorRdr
namespace Go.Proofs.YtbjcdpenfijfoaaGreatDoor
open Go.RowKit Go.Shelf Go.Lexed
set_option linter.unusedVariables false
set_option linter.unusedSimpArgs false
/-- Up to where a reader has read. -/
def atOf (w : World) (a : Nat) : Nat := match w.cell? ⟨a, 1, none⟩ with
  | some (.int _ z) => z.toNat
  | _ => 0
theorem Rd.upTo {w : World} {a : Nat} {s : ByteArray} {k b : Nat} (h : Rd w a s k b) : atOf w a = k := by simp [atOf, h.c1]
set_option maxHeartbeats 2000000 in
theorem run_any (a : Nat) (s : ByteArray) (k b : Nat) (w : World) (h : Rd w a s k b) (hk : k ≤ s.size) (hs : s.size ≤ 10000000000) :
    Calls Tryz.prog 71 #[.pointer (some ⟨a, 0, none⟩)] w fun e w' => e = .returned (.string (bsOf ((suf s k).takeWhile isLD))) ∧ ∃ j : Nat, k ≤ j ∧ j ≤ s.size ∧ suf s j = (suf s k).dropWhile isLD ∧ Rd w' a s j b ∧ Fr a w.heap.size w w' := by
  have HV : Hid (∀ q, k ≤ q → (s.extract k q).data.toList.all isLD = true → (∀ c ∈ (suf s q).head?, isLD c = false) → bsOf ((suf s k).takeWhile isLD) = s.extract k q ∧ suf s q = (suf s k).dropWhile isLD) := fun q hq ha he => by
    obtain ⟨e1, e2⟩ := run_to hq ha he
    exact ⟨by rw [e1, of_bs], e2.symm⟩
  generalize bsOf ((suf s k).takeWhile isLD) = V at HV ⊢
  generalize (suf s k).dropWhile isLD = D at HV ⊢
  have c1 := h.c1
  have H := hidE h
  go_enter Tryz.func71, Tryz.ntmps71
  go_wp2_with fail
  clear c1 h
  go_loopw [] (fun wr => ∃ q : Nat, k ≤ q ∧ q ≤ s.size ∧ Rd wr a s q b ∧ Fr a w.heap.size w wr ∧ (s.extract k q).data.toList.all isLD = true) (fun wr => s.size - atOf wr a)
  case atStart => exact ⟨k, Nat.le_refl _, hk, H.out, Fr.refl _ _ _, by simp [ext_list]⟩
  case round =>
    obtain ⟨q, hkq, hq, hr, hf, hall⟩ := hrel
    have HR := hidE hr
    have HF := hidE hf
    have HA := hidE hall
    have c0 := hr.c0
    have c1 := hr.c1
    have z1 := hr.z1
    clear hr hf hall
    by_cases hlt : q < s.size
    · have hlt' : (q : Int) < s.size := by omega
      obtain ⟨m, hm⟩ : ∃ m, s[q].toNat = m := ⟨_, rfl⟩
      have hm' : (s[q].toNat : Int) = m := by rw [hm]
      have hm2 : m < 256 := by rw [← hm]; exact s[q].toNat_lt
      have HM := hidE hm
      clear hm
      have HLet := hidE (fun w => letter_any m hm2 w)
      have HDig := hidE (fun w => digit_any m hm2 w)
      have HN : Hid (isLD s[q] = (letN m || digN m)) := by show _ = _; rw [isLD_let, HM.out]
      have HX : Hid (isLD s[q] = true → (s.extract k (q + 1)).data.toList.all isLD = true) := fun hx => by
        rw [ext_snoc hkq hlt, List.all_append, HA.out]; simp [hx]
      have HY : Hid (isLD s[q] = false → V = s.extract k q ∧ suf s q = D) := fun hx => HV.out q hkq HA.out (fun c hc => by rw [head_suf hlt c hc]; exact hx)
      have h0 : (0 : Int) ≤ k := by omega
      have h1 : (k : Int) ≤ q := by omega
      have h2 : (q : Int) ≤ s.size := by omega
      cases hl : letN m with
      | true =>
        have HX2 := hidE (HX.out (by rw [HN.out, hl]; rfl))
        rw [hl] at HLet
        go_wp2_with fail
        go_quiet ((go_at_call 70; exact Calls.quiet_of_same (HLet.out _)))
        go_wp2_with fail
        go_roundw
        case rel => exact ⟨q + 1, by omega, by omega, (HR.out.drewN _).at (q + 1) _ (by go_num), (HF.out.drewN _).put _ _, HX2.out⟩
        case measure => rw [Rd.upTo ((HR.out.drewN _).at (q + 1) _ (by go_num)), HR.out.upTo]; omega
      | false =>
        rw [hl] at HLet
        cases hd : digN m with
        | true =>
          have HX2 := hidE (HX.out (by rw [HN.out, hl, hd]; rfl))
          rw [hd] at HDig
          go_wp2_with fail
          go_quiet ((first | (go_at_call 70; exact Calls.quiet_of_same (HLet.out _)) | (go_at_call 75; exact Calls.quiet_of_same (HDig.out _))))
          go_wp2_with fail
          go_roundw
          case rel => exact ⟨q + 1, by omega, by omega, (HR.out.drewN _).at (q + 1) _ (by go_num), (HF.out.drewN _).put _ _, HX2.out⟩
          case measure => rw [Rd.upTo ((HR.out.drewN _).at (q + 1) _ (by go_num)), HR.out.upTo]; omega
        | false =>
          have HY2 := hidE (HY.out (by rw [HN.out, hl, hd]; rfl))
          rw [hd] at HDig
          go_wp2_with fail
          go_quiet ((first | (go_at_call 70; exact Calls.quiet_of_same (HLet.out _)) | (go_at_call 75; exact Calls.quiet_of_same (HDig.out _))))
          go_wp2_with fail
          go_quiet (fail)
          go_wp2_with fail
          go_ret
          refine ⟨?_, q, hkq, hq, HY2.out.2, (HR.out.drewN _).drewN _, (HF.out.drewN _).drewN _⟩
          rw [HY2.out.1]
          rfl
    · have hlt' : ¬ (q : Int) < s.size := by omega
      have HY2 := hidE (HV.out q hkq HA.out (head_end (by omega)))
      have h0 : (0 : Int) ≤ k := by omega
      have h1 : (k : Int) ≤ q := by omega
      have h2 : (q : Int) ≤ s.size := by omega
      have hlt2 : decide ((q : Int) < s.size) = false := decide_eq_false hlt'
      go_wp2_with fail
      go_quiet (fail)
      go_wp2_with fail
      go_quiet (fail)
      go_wp2_with fail
      go_ret
      refine ⟨?_, q, hkq, hq, HY2.out.2, (HR.out.drewN _).drewN _, (HF.out.drewN _).drewN _⟩
      rw [HY2.out.1]
      rfl
end Go.Proofs.YtbjcdpenfijfoaaGreatDoor
