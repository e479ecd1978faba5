/- WordsBack, walked. -/
import Derived.Test.YtbjcdpenfijfoaaGreatDoorBack0
namespace Go.Proofs.YtbjcdpenfijfoaaGreatDoor
open Go.RowKit Go.Shelf Go.Lexed
set_option linter.unusedVariables false
set_option linter.unusedSimpArgs false
attribute [local go_sem] Oper.semAt_some
theorem bytes_one {a b : ByteArray} (h : a.data.toList = b.data.toList) : a = b := by rw [← of_bs a, ← of_bs b, h]
set_option maxRecDepth 100000 in
set_option maxHeartbeats 4000000 in
theorem back_walk (v : Value) (xs : List W4) (t : ByteArray) (w : World) (hE : Env w) (hx : Lie4 w.heap.size w v xs) (hn : ∀ x ∈ xs, 0 ≤ x.n ∧ x.n < 18446744073709551616) : Calls Tryz.prog 7 #[v, .string t] w fun e w' => e = .returned (.bool true) ∧ Below w.heap.size w w' := by
  have HE := hidE hE
  have h8 := hE.room
  have HX := hidE hx
  have HN := hidE hn
  clear hE hx hn
  have HW := hidE (fun w1 (h : Below w.heap.size w w1) => works_any w1 (HE.out.below h h8))
  have HSm := hidE (small_any xs v w HX.out)
  go_enter Tryz.func7, Tryz.ntmps7
  go_wp2_with fail
  refine HSm.out.mono ?_
  rintro e W ⟨b, rfl, rfl, hb⟩
  cases b with
  | false =>
    clear hb
    go_wp2_with fail
    refine (HW.out _ (Below.refl _ _)).mono ?_
    rintro e w1 ⟨rfl, hb1⟩
    go_wp2_with fail
    go_ret
    exact ⟨rfl, hb1⟩
  | true =>
    obtain ⟨hx200, hxt⟩ := hb rfl
    have HXT := hidE hxt
    clear hb hxt HSm
    by_cases h1 : 4000 < t.size
    · have h1' : (4000 : Int) < t.size := by omega
      go_wp2_with fail
      refine (HW.out _ (Below.refl _ _)).mono ?_
      rintro e w1 ⟨rfl, hb1⟩
      go_wp2_with fail
      go_ret
      exact ⟨rfl, hb1⟩
    have h1' : ¬ (4000 : Int) < t.size := by omega
    have HLt := hidE (fun w1 (h : Below W.heap.size W w1) => lex_any t (by omega) w1 (HE.out.below h h8))
    have HFt := hidE (lw_fine t (by omega))
    have hmt := lw_may t
    have hlt := lw_told t
    obtain ⟨T, hT⟩ : ∃ T, bsOf (printW ((lw t).map W4.wd)) = T := ⟨_, rfl⟩
    have hTs : T.size ≤ 168000 := by rw [← hT, bsOf_size]; omega
    have HPV : Hid (printV (lw t) = .tuple #[.string T, .int .i64 0]) := by show _ = _; rw [printV_ok (all_may hmt) (by omega), hT]
    have hbk := told_back (lw t) hmt (by omega)
    rw [hT] at hbk
    have HOT := hidE hbk.1
    have HFT := hidE (lw_fine T (by omega))
    have HPT : Hid (printV (lw T) = .tuple #[.string T, .int .i64 0]) := by show _ = _; rw [printV_ok (all_may (lw_may T)) (by rw [hbk.2]; omega), hbk.2, hT]
    have HSt : Hid (sameB (lw t) (lw T) = true) := sameB_of hbk.2.symm hmt (fun x hx => (HFt.out x hx).1) (fun x hx => (HFT.out x hx).1)
    have HLP := hidE (fun w1 (h : Below W.heap.size W w1) => lex_any T (by omega) w1 (HE.out.below h h8))
    clear hmt hlt hT hbk
    have HPr := hidE (print_any v xs (fun x hx => ⟨(HN.out x hx).1, (HN.out x hx).2, by have := HXT.out x hx; omega⟩) W HE.out HX.out)
    have HCs : Hid ((∃ c : Int, c ≠ 0 ∧ printV xs = .tuple #[.string ⟨#[]⟩, .int .i64 c]) ∨ (∃ P : ByteArray, printV xs = .tuple #[.string P, .int .i64 0] ∧ P.size ≤ 1048576 ∧ lexO P = none ∧ sameB xs (lw P) = true)) := by
      show _ ∨ _
      by_cases hm : (xs.all fun x => mayW Lib.validD x.wd) = true
      · by_cases hl : 1048576 < (printW (xs.map W4.wd)).length
        · exact .inl ⟨3, by decide, by unfold printV; rw [if_pos hm, if_pos hl]⟩
        · have hm' := List.all_eq_true.1 hm
          have hb := told_back xs hm' (by omega)
          have hsz : (bsOf (printW (xs.map W4.wd))).size ≤ 1048576 := by rw [bsOf_size]; omega
          exact .inr ⟨_, printV_ok hm (by omega), hsz, hb.1, sameB_of hb.2.symm hm' (fun x hx => (HN.out x hx).1) (fun x hx => (lw_fine _ hsz x hx).1)⟩
      · exact .inl ⟨2, by decide, by unfold printV; rw [if_neg hm]⟩
    rcases HCs.out with ⟨c, hc0, hpv⟩ | ⟨P, hpv, hPs, hPo, hPm⟩
    · rw [hpv] at HPr
      have hc' : (c == 0) = false := ne_bool hc0
      clear hpv HCs
      go_wp2_with fail
      refine HPr.out.mono ?_
      rintro e w1 ⟨rfl, hb1⟩
      have HBW := hidE hb1
      clear hb1
      go_wp2_with fail
      refine (num_any _ _).mono ?_
      rintro e W ⟨rfl, rfl⟩
      go_wp2_with fail
      refine (HLt.out _ HBW.out).mono ?_
      rintro e w5 ⟨hb5, ⟨ho5, v5, rfl, hl5⟩ | ⟨j5, hj5, ho5, rfl⟩⟩
      · have HB5 := hidE (below_on HBW.out hb5)
        have HL5 : Hid (Lie4 w5.heap.size w5 v5 (lw t)) := hl5
        clear hb5 ho5 hl5
        go_wp2_with fail
        refine (num_any _ _).mono ?_
        rintro e W ⟨rfl, rfl⟩
        go_wp2_with fail
        refine (print_any v5 (lw t) HFt.out _ (HE.out.below HB5.out h8) HL5.out).mono ?_
        rw [HPV.out]
        rintro e w6 ⟨rfl, hb6⟩
        have HB6 := hidE (below_on HB5.out hb6)
        have HL6 := hidE (HL5.out.below hb6 (Nat.le_refl _))
        have HS6 := hidE hb6.size
        clear hb6
        go_wp2_with fail
        refine (HLP.out _ HB6.out).mono ?_
        rintro e w7 ⟨hb7, ⟨ho7, v7, rfl, hl7⟩ | ⟨j7, hj7, ho7, _⟩⟩
        · have HB7 := hidE (below_on HB6.out hb7)
          have HL7 : Hid (Lie4 w7.heap.size w7 v7 (lw T)) := hl7
          have HM7 := hidE (HL6.out.below hb7 HS6.out)
          have HS7 := hidE (Nat.le_trans HS6.out hb7.size)
          clear hb7 ho7 hl7 HL6 HS6
          go_wp2_with fail
          refine (print_any v7 (lw T) HFT.out _ (HE.out.below HB7.out h8) HL7.out).mono ?_
          rw [HPT.out]
          rintro e w8 ⟨rfl, hb8⟩
          have HB8 := hidE (below_on HB7.out hb8)
          have HL8 := hidE ((HL7.out.below hb8 (Nat.le_refl _)).mono hb8.size)
          have HM8 := hidE ((HM7.out.below hb8 HS7.out).mono (Nat.le_trans HS7.out hb8.size))
          clear hb8
          go_wp2_with fail
          refine (num_any _ _).mono ?_
          rintro e W ⟨rfl, rfl⟩
          go_wp2_with fail
          refine (num_any _ _).mono ?_
          rintro e W ⟨rfl, rfl⟩
          go_wp2_with fail
          refine (num_any _ _).mono ?_
          rintro e W ⟨rfl, rfl⟩
          go_wp2_with fail
          refine (same_any (lw t) (lw T) _ _ _ HM8.out HL8.out).mono ?_
          rw [HSt.out]
          rintro e w9 ⟨rfl, hb9⟩
          have HB9 := hidE (below_on HB8.out hb9)
          clear hb9
          go_wp2_with fail
          refine (HW.out _ HB9.out).mono ?_
          rintro e w10 ⟨rfl, hb10⟩
          have HB10 := hidE (below_on HB9.out hb10)
          clear hb10
          go_wp2_with fail
          go_ret
          exact ⟨rfl, HB10.out⟩
        · rw [HOT.out] at ho7; cases ho7
      · have HB5 := hidE (below_on HBW.out hb5)
        clear hb5 ho5
        go_wp2_with fail
        refine (num_any _ _).mono ?_
        rintro e W ⟨rfl, rfl⟩
        go_wp2_with fail
        refine (HW.out _ HB5.out).mono ?_
        rintro e w6 ⟨rfl, hb6⟩
        have HB6 := hidE (below_on HB5.out hb6)
        clear hb6
        go_wp2_with fail
        go_ret
        exact ⟨rfl, HB6.out⟩
    · rw [hpv] at HPr
      have HPo := hidE hPo
      have HPm := hidE hPm
      have HL1 := hidE (fun w1 (h : Below W.heap.size W w1) => lex_any P hPs w1 (HE.out.below h h8))
      clear hpv HCs hPo hPm
      go_wp2_with fail
      refine HPr.out.mono ?_
      rintro e w1 ⟨rfl, hb1⟩
      have HB1 := hidE hb1
      have HX1 := hidE (HX.out.below hb1 (Nat.le_refl _))
      have HS1 := hidE hb1.size
      clear hb1
      go_wp2_with fail
      refine (num_any _ _).mono ?_
      rintro e W' ⟨rfl, rfl⟩
      go_wp2_with fail
      refine (HL1.out _ HB1.out).mono ?_
      rintro e w2 ⟨hb2, ⟨ho2, v2, rfl, hl2⟩ | ⟨j2, hj2, ho2, _⟩⟩
      · have HB2 := hidE (below_on HB1.out hb2)
        have HX2 : Hid (Lie4 w2.heap.size w2 v xs) := (HX1.out.below hb2 HS1.out).mono (Nat.le_trans HS1.out hb2.size)
        have HY2 : Hid (Lie4 w2.heap.size w2 v2 (lw P)) := hl2
        clear hb2 ho2 hl2
        go_wp2_with fail
        refine (same_any xs (lw P) _ _ _ HX2.out HY2.out).mono ?_
        rw [HPm.out]
        rintro e w3 ⟨rfl, hb3⟩
        have HBW := hidE (below_on HB2.out hb3)
        clear hb3
        go_wp2_with fail
        refine (num_any _ _).mono ?_
        rintro e W' ⟨rfl, rfl⟩
        go_wp2_with fail
        refine (HLt.out _ HBW.out).mono ?_
        rintro e w5 ⟨hb5, ⟨ho5, v5, rfl, hl5⟩ | ⟨j5, hj5, ho5, rfl⟩⟩
        · have HB5 := hidE (below_on HBW.out hb5)
          have HL5 : Hid (Lie4 w5.heap.size w5 v5 (lw t)) := hl5
          clear hb5 ho5 hl5
          go_wp2_with fail
          refine (num_any _ _).mono ?_
          rintro e W ⟨rfl, rfl⟩
          go_wp2_with fail
          refine (print_any v5 (lw t) HFt.out _ (HE.out.below HB5.out h8) HL5.out).mono ?_
          rw [HPV.out]
          rintro e w6 ⟨rfl, hb6⟩
          have HB6 := hidE (below_on HB5.out hb6)
          have HL6 := hidE (HL5.out.below hb6 (Nat.le_refl _))
          have HS6 := hidE hb6.size
          clear hb6
          go_wp2_with fail
          refine (HLP.out _ HB6.out).mono ?_
          rintro e w7 ⟨hb7, ⟨ho7, v7, rfl, hl7⟩ | ⟨j7, hj7, ho7, _⟩⟩
          · have HB7 := hidE (below_on HB6.out hb7)
            have HL7 : Hid (Lie4 w7.heap.size w7 v7 (lw T)) := hl7
            have HM7 := hidE (HL6.out.below hb7 HS6.out)
            have HS7 := hidE (Nat.le_trans HS6.out hb7.size)
            clear hb7 ho7 hl7 HL6 HS6
            go_wp2_with fail
            refine (print_any v7 (lw T) HFT.out _ (HE.out.below HB7.out h8) HL7.out).mono ?_
            rw [HPT.out]
            rintro e w8 ⟨rfl, hb8⟩
            have HB8 := hidE (below_on HB7.out hb8)
            have HL8 := hidE ((HL7.out.below hb8 (Nat.le_refl _)).mono hb8.size)
            have HM8 := hidE ((HM7.out.below hb8 HS7.out).mono (Nat.le_trans HS7.out hb8.size))
            clear hb8
            go_wp2_with fail
            refine (num_any _ _).mono ?_
            rintro e W ⟨rfl, rfl⟩
            go_wp2_with fail
            refine (num_any _ _).mono ?_
            rintro e W ⟨rfl, rfl⟩
            go_wp2_with fail
            refine (num_any _ _).mono ?_
            rintro e W ⟨rfl, rfl⟩
            go_wp2_with fail
            refine (same_any (lw t) (lw T) _ _ _ HM8.out HL8.out).mono ?_
            rw [HSt.out]
            rintro e w9 ⟨rfl, hb9⟩
            have HB9 := hidE (below_on HB8.out hb9)
            clear hb9
            go_wp2_with fail
            refine (HW.out _ HB9.out).mono ?_
            rintro e w10 ⟨rfl, hb10⟩
            have HB10 := hidE (below_on HB9.out hb10)
            clear hb10
            go_wp2_with fail
            go_ret
            exact ⟨rfl, HB10.out⟩
          · rw [HOT.out] at ho7; cases ho7
        · have HB5 := hidE (below_on HBW.out hb5)
          clear hb5 ho5
          go_wp2_with fail
          refine (num_any _ _).mono ?_
          rintro e W ⟨rfl, rfl⟩
          go_wp2_with fail
          refine (HW.out _ HB5.out).mono ?_
          rintro e w6 ⟨rfl, hb6⟩
          have HB6 := hidE (below_on HB5.out hb6)
          clear hb6
          go_wp2_with fail
          go_ret
          exact ⟨rfl, HB6.out⟩
      · rw [HPo.out] at ho2; cases ho2
end Go.Proofs.YtbjcdpenfijfoaaGreatDoor
