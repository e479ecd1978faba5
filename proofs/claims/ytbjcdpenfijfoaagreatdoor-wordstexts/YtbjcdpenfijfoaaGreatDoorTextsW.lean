/- WordsTexts, walked. -/
import Derived.Test.YtbjcdpenfijfoaaGreatDoorRsome
import Derived.Test.YtbjcdpenfijfoaaGreatDoorGoes
namespace Go.Proofs.YtbjcdpenfijfoaaGreatDoor
open Go.RowKit Go.Shelf Go.Lexed
set_option linter.unusedVariables false
set_option linter.unusedSimpArgs false
attribute [local go_sem] Oper.semAt_some
def lexX (s : ByteArray) : List W4 := if lexO s = none then lw s else []
def lexJ (s : ByteArray) : Int := match lexO s with | none => 0 | some r => ((s.size - r : Nat) : Int)
def lexC (s : ByteArray) : Int := match lexO s with | none => 0 | some _ => 130
theorem lexTo_one {s : ByteArray} {w w' : World} {e : Ending} (h : LexTo s w e w') : Below w.heap.size w w' ∧ ∃ v, e = .returned (.tuple #[v, .int .i64 (lexJ s), .int .i64 (lexC s)]) ∧ Lie4 w'.heap.size w' v (lexX s) := by
  obtain ⟨hb, ⟨ho, v, rfl, hl⟩ | ⟨j, hj, ho, rfl⟩⟩ := h
  · exact ⟨hb, v, by simp [lexJ, lexC, ho], by simp only [lexX, ho, if_true]; exact hl⟩
  · refine ⟨hb, .slice none 0 0, ?_, ?_⟩
    · simp only [lexJ, lexC, ho]
      rw [show s.size - (s.size - j) = j by omega]
    · simp only [lexX, ho]
      exact ⟨none, 0, rfl, Nat.le_refl _, by decide, .inl rfl⟩
theorem lexX_len (s : ByteArray) : (lexX s).length ≤ s.size := by
  unfold lexX
  split
  · exact lw_len s
  · simp
set_option maxRecDepth 100000 in
set_option maxHeartbeats 4000000 in
theorem texts_walk (t : ByteArray) (leave : Int) (w : World) (hE : Env w) : Calls Tryz.prog 3 #[.string t, .int .i64 leave] w fun e w' => e = .returned (.bool true) ∧ Below w.heap.size w w' := by
  have HE := hidE hE
  have h8 := hE.room
  clear hE
  have HW := hidE (fun w1 (h : Below w.heap.size w w1) => works_any w1 (HE.out.below h h8))
  go_enter Tryz.func3, Tryz.ntmps3
  by_cases h1 : 4000 < t.size
  · have h1' : (4000 : Int) < t.size := by omega
    go_wp2_with fail
    refine (HW.out _ (Below.refl _ _)).mono ?_
    rintro e w1 ⟨rfl, hb1⟩
    go_wp2_with fail
    go_ret
    exact ⟨rfl, hb1⟩
  have h1' : ¬ (4000 : Int) < t.size := by omega
  have HLt := hidE (fun w1 (h : Below w.heap.size w w1) => lex_any t (by omega) w1 (HE.out.below h h8))
  have HRt := hidE (fun w1 => rlex_any t (by omega) w1)
  have HSt := hidE (fun w1 => rsome_any t (by omega) w1)
  go_wp2_with fail
  refine (HLt.out _ (Below.refl _ _)).mono ?_
  rintro e w1 hx1
  obtain ⟨hb1, v1, rfl, hl1⟩ := lexTo_one hx1
  have HB1 := hidE hb1
  have HL1 := hidE hl1
  obtain ⟨ad1, cap1, rfl, hc1, hm1, _⟩ := hl1
  clear hx1 hb1
  go_wp2_with fail
  refine (HRt.out _).mono ?_
  rintro e w2 hx2
  obtain ⟨hb2, v2, rfl, hl2⟩ := lexTo_one hx2
  have HB2 := hidE (below_on HB1.out hb2)
  have HM2 := hidE ((HL1.out.below hb2 (Nat.le_refl _)).mono hb2.size)
  have HL2 := hidE hl2
  obtain ⟨ad2, cap2, rfl, hc2, hm2, _⟩ := hl2
  clear hx2 hb2 HL1 HB1
  obtain ⟨n, hn⟩ : ∃ n, (lexX t).length = n := ⟨_, rfl⟩
  obtain ⟨J, hJ⟩ : ∃ J, lexJ t = J := ⟨_, rfl⟩
  obtain ⟨C, hC⟩ : ∃ C, lexC t = C := ⟨_, rfl⟩
  have hln := lexX_len t
  rw [hn] at HM2 HL2 hc1 hc2 hln ⊢
  rw [hJ, hC]
  have HN := hidE hn
  clear hn hJ hC
  go_wp2_with fail
  refine (num_any _ _).mono ?_
  rintro e w3 ⟨rfl, rfl⟩
  go_wp2_with fail
  go_loopw [11] (fun x wr => ∃ q : Nat, q ≤ n ∧ x = .int .i64 q ∧ Below w3.heap.size w3 wr) (fun x _ => n - (intOf x).toNat)
  case atStart => exact ⟨0, Nat.zero_le _, rfl, Below.refl _ _⟩
  case round =>
    obtain ⟨q, hq, rfl, hb⟩ := hrel
    have HB := hidE hb
    clear hb
    by_cases hlt : q < n
    · have hlt' : (q : Int) < n := by omega
      obtain ⟨x, hx⟩ : ∃ x, (lexX t)[q]? = some x := ⟨_, List.getElem?_eq_getElem (by rw [HN.out]; exact hlt)⟩
      have hA := (HM2.out.below HB.out (Nat.le_refl _)).at hx
      have hB := (HL2.out.below HB.out (Nat.le_refl _)).at hx
      obtain ⟨b1, o1, k1, e1, _, _, a0, a1, a2, a3⟩ := hA
      obtain ⟨b2, o2, k2, e2, _, _, d0, d1, d2, d3⟩ := hB
      have f1 : ad1 = some ⟨b1, o1, none⟩ := by injection e1
      have f2 : ad2 = some ⟨b2, o2, none⟩ := by injection e2
      obtain ⟨xk, xi, xt, xn⟩ := x
      simp only at a0 a1 a2 a3 d0 d1 d2 d3
      subst f1 f2
      clear e1 e2 hx
      go_wp2_with fail
      go_quiet (fail)
      go_wp2_with fail
      go_roundw
      case rel => exact ⟨q + 1, by omega, by go_num, below_drewN' HB.out _⟩
      case measure => simp [intOf]; omega
    · have hlt' : ¬ (q : Int) < n := by omega
      have HB4 := hidE (below_on HB2.out HB.out)
      clear HB HM2 HL2
      go_wp2_with fail
      refine (HSt.out _).mono ?_
      rintro e w5 ⟨hb5, v5, hl5, hcase⟩
      have HB5 := hidE (below_on HB4.out hb5)
      have HL5 : Hid (Lie4 w5.heap.size w5 v5 (lw t)) := hl5
      obtain ⟨j5, c5, rfl⟩ : ∃ j5 c5 : Int, e = .returned (.tuple #[v5, .int .i64 j5, .int .i64 c5]) := by
        rcases hcase with ⟨_, h⟩ | ⟨j, _, _, h⟩
        · exact ⟨_, _, h⟩
        · exact ⟨_, _, h⟩
      clear hb5 hl5 hcase
      go_wp2_with fail
      refine (all_any t _).mono ?_
      rintro e w6 ⟨rfl, hb6, hx6⟩
      have HB6 := hidE (below_on HB5.out hb6)
      have HX6 := hidE hx6
      have HL6 : Hid (Lie4 w6.heap.size w6 v5 (lw t)) := (HL5.out.below hb6 (Nat.le_refl _)).mono hb6.size
      clear hb6 hx6
      obtain ⟨b6, hb6⟩ : ∃ b6, w5.heap.size = b6 := ⟨_, rfl⟩
      rw [hb6] at HX6 ⊢
      clear hb6
      obtain ⟨F6, hF6⟩ : ∃ F6, allF b6 = F6 := ⟨_, rfl⟩
      have HG := hidE (fun le W (h : Below w6.heap.size w6 W) => goes_any t (by omega) v5 le b6 W (HE.out.below (below_on HB6.out h) h8) ((h.block _ HX6.out.lt).trans HX6.out) ((HL6.out.below h (Nat.le_refl _)).mono h.size))
      rw [hF6] at HG ⊢
      clear hF6
      go_wp2_with fail
      refine (HG.out leave _ (Below.refl _ _)).mono ?_
      rintro e w7 ⟨rfl, hb7⟩
      have HB7 := hidE hb7
      clear hb7
      go_wp2_with fail
      refine (HG.out 0 _ HB7.out).mono ?_
      rintro e w8 ⟨rfl, hb8⟩
      have HB8 := hidE (below_on HB6.out (below_on HB7.out hb8))
      clear hb8
      go_wp2_with fail
      refine (HW.out _ HB8.out).mono ?_
      rintro e w9 ⟨rfl, hb9⟩
      have HB9 := hidE (below_on HB8.out hb9)
      clear hb9
      go_wp2_with fail
      go_ret
      exact ⟨rfl, HB9.out⟩
end Go.Proofs.YtbjcdpenfijfoaaGreatDoor
