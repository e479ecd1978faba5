/- Print: words told, one behind another. -/
import Derived.Test.YtbjcdpenfijfoaaGreatDoorJoin15
namespace Go.Proofs.YtbjcdpenfijfoaaGreatDoor
open Go.RowKit Go.Shelf Go.Lexed
open Go.Lib (byteCells byteCells_length)
set_option linter.unusedVariables false
set_option linter.unusedSimpArgs false
attribute [local go_sem] Oper.semAt_some
set_option maxRecDepth 100000 in
set_option maxHeartbeats 4000000 in
theorem print_any (v : Value) (xs : List W4) (hn : ∀ x ∈ xs, 0 ≤ x.n ∧ x.n < 18446744073709551616 ∧ x.t.size ≤ 1000000000) (w : World) (hE : Env w) (hL : Lie4 w.heap.size w v xs) :
    Calls Tryz.prog 19 #[v] w fun e w' => e = .returned (printV xs) ∧ Below w.heap.size w w' := by
  obtain ⟨R, hR⟩ : ∃ R, printV xs = R := ⟨_, rfl⟩
  rw [hR]
  have HR := hidE hR
  have HE := hidE hE
  have HL := hidE hL
  have HN := hidE hn
  have h8 := hE.room
  obtain ⟨ad, cap, rfl, hlc, hcm, -⟩ := hL
  clear hE hn hR
  go_enter Tryz.func19, Tryz.ntmps19
  go_wp2_with fail
  go_loopw [11] (fun i wr => ∃ j : Nat, j ≤ xs.length ∧ i = .int .i64 j ∧ Below w.heap.size w wr ∧ ((xs.take j).all fun x => mayW Lib.validD x.wd) = true) (fun i _ => xs.length - (intOf i).toNat)
  case atStart => exact ⟨0, Nat.zero_le _, rfl, Below.refl _ _, rfl⟩
  case round =>
    obtain ⟨j, hj, rfl, hbr, hall⟩ := hrel
    have HA := hidE hall
    have HB := hidE hbr
    clear hall hbr
    by_cases hlt : j < xs.length
    · obtain ⟨x, hx⟩ : ∃ x, xs[j]? = some x := ⟨_, List.getElem?_eq_getElem hlt⟩
      obtain ⟨bl, off, cap', hv, hbl, hlc', c0, c1, c2, c3⟩ := (HL.out.below HB.out (Nat.le_refl _)).at hx
      cases hv
      obtain ⟨hn0, hn1, hts⟩ := HN.out x (List.mem_of_getElem? hx)
      have HX := hidE hx
      obtain ⟨k, i, t, n⟩ := x
      simp only at hn0 hn1 hts c0 c1 c2 c3
      have hal : Below wr.heap.size wr (wr.alloc (.cells #[.int .i64 k, .int .i64 i, .string t, .int .u64 n] 33)) := (Below.refl _ _).alloc (Nat.le_refl _) _
      have HC := hidE (may_any ⟨k, i, t, n⟩ hn0 hn1 hts _ ((HE.out.below HB.out h8).below hal (Nat.le_trans h8 HB.out.size)))
      have HAL := hidE hal
      unfold W4.val at HC
      simp only at HC
      clear hx hal hn0 hn1 hts
      generalize hm : mayW Lib.validD (W4.mk k i t n).wd = m at HC
      have HM := hidE hm
      clear hm
      go_wp2_with fail
      refine HC.out.mono ?_
      rintro e w2 ⟨rfl, hb2⟩
      have HB2 : Hid (Below w.heap.size w w2) := below_on HB.out (below_on HAL.out hb2)
      clear hb2 HC HAL c0 c1 c2 c3
      cases m with
      | true =>
        go_wp2_with fail
        go_roundw
        case rel =>
          refine ⟨j + 1, by omega, by go_num, HB2.out, ?_⟩
          rw [List.take_add_one, HX.out, List.all_append, HA.out]
          simp [HM.out]
        case measure => simp [intOf]; omega
      | false =>
        have HV : Hid (R = .tuple #[.string ⟨#[]⟩, .int .i64 2]) := by show _ = _; rw [← HR.out]; exact printV_may (List.mem_of_getElem? HX.out) HM.out
        go_wp2_with fail
        go_ret2
        exact ⟨by rw [HV.out]; rfl, HB2.out⟩
    · have HAll : Hid ((xs.all fun x => mayW Lib.validD x.wd) = true) := by
        have := HA.out
        rwa [List.take_of_length_le (by omega)] at this
      clear HA
      go_wp2_with fail
      obtain ⟨w1, hw1⟩ : ∃ x, x = wr := ⟨_, rfl⟩
      rw [← hw1] at HB ⊢
      clear hw1
      obtain ⟨j0, hj0⟩ : ∃ x, x = j := ⟨_, rfl⟩
      clear hlt hj
      go_loopw [21, 6] (fun i r wr => ∃ j : Nat, j ≤ xs.length ∧ i = .int .i64 j ∧ Below w.heap.size w wr ∧ wr.ownsRow w.heap.size 5 1 r (printW ((xs.take j).map W4.wd)).length (byteCells (printW ((xs.take j).map W4.wd))) ∧ (printW ((xs.take j).map W4.wd)).length ≤ 1048576) (fun i _ _ => xs.length - (intOf i).toNat)
      case atStart => exact ⟨0, Nat.zero_le _, rfl, HB.out, World.ownsRow_nil _ _ _ _, by simp [printW]⟩
      case round =>
        obtain ⟨j, hj, rfl, hbr, ho, hle⟩ := hrel
        have HB' := hidE hbr
        have HO := hidE ho
        have hB1 := hbr.size
        clear hbr ho HB
        by_cases hlt : j < xs.length
        · obtain ⟨x, hx⟩ : ∃ x, xs[j]? = some x := ⟨_, List.getElem?_eq_getElem hlt⟩
          obtain ⟨bl, off, cap', hv, hbl, hlc', c0, c1, c2, c3⟩ := (HL.out.below HB'.out (Nat.le_refl _)).at hx
          cases hv
          obtain ⟨hn0, hn1, hts⟩ := HN.out x (List.mem_of_getElem? hx)
          have HM : Hid (mayW Lib.validD x.wd = true) := List.all_eq_true.1 HAll.out x (List.mem_of_getElem? hx)
          obtain ⟨A, hA⟩ : ∃ A, printW ((xs.take j).map W4.wd) = A := ⟨_, rfl⟩
          rw [hA] at hle HO
          have HNX : Hid (printW ((xs.take (j + 1)).map W4.wd) = (A ++ (if j = 0 then [] else [32])) ++ tellW x.wd) := by
            show _ = _
            rw [List.take_add_one, hx, List.map_append]
            show printW (_ ++ [x.wd]) = _
            rw [print_snoc, hA]
            congr 2
            by_cases z : j = 0
            · subst z; simp
            · rw [if_neg z, if_neg]
              intro e
              have := congrArg List.length e
              rw [List.length_map, List.length_take] at this
              simp only [List.length_nil] at this
              omega
          obtain ⟨k, i, t, n⟩ := x
          simp only at hn0 hn1 hts c0 c1 c2 c3
          have HLG : Hid ((tellW (W4.mk k i t n).wd).length ≤ 6 * t.size + 20) := tell_len Lib.validD _ HM.out
          have HGE : Hid (t.size ≤ (tellW (W4.mk k i t n).wd).length) := tell_ge Lib.validD _ HM.out
          have HPO : Hid (0 < (tellW (W4.mk k i t n).wd).length) := tell_pos Lib.validD _ HM.out
          clear hx hA
          by_cases hj0 : j = 0
          · have HS : Hid ((if j = 0 then [] else [32] : List UInt8) = []) := if_pos hj0
            have hg : ¬ (j : Int) > 0 := by omega
            clear hj0
            go_upto_region 13 with fail
            generalize hW1 : World.alloc _ _ = W2
            have HW2 : Hid (Wo W2 wr.heap.size k i n t) := by rw [← hW1]; exact World.alloc_heap_new _ _
            have HB2 : Hid (Below w.heap.size w W2) := by rw [← hW1]; exact HB'.out.alloc hB1 _
            have HO2 : Hid (W2.ownsRow w.heap.size 5 1 u6 (A ++ (if j = 0 then [] else [32])).length (byteCells (A ++ (if j = 0 then [] else [32])))) := by rw [← hW1, HS.out, List.append_nil]; exact own_alloc HO.out _
            have HP2 : Hid (u6.ownBlock ≠ some wr.heap.size) := fun e => by have := (HO.out.lt _ e).2; omega
            clear HS hg HO HB' hW1 c0 c1 c2 c3
            have hB2 : w.heap.size ≤ W2.heap.size := HB2.out.size
            have hc2 := HW2.out.c2
            have hc0 := HW2.out.c0
            have hc1 := HW2.out.c1
            have hc3 := HW2.out.c3
            obtain ⟨A2, hA2⟩ : ∃ x, A ++ (if j = 0 then [] else [32]) = x := ⟨_, rfl⟩
            rw [hA2] at HO2 HNX
            have hl2 : A2.length ≤ 1048577 := by
              rw [← hA2]
              split <;> simp <;> omega
            clear hA2
            by_cases hbig : 1048576 < t.size
            · have hbig' : (1048576 : Int) < t.size := by omega
              have HV : Hid (R = .tuple #[.string ⟨#[]⟩, .int .i64 3]) := by
                show _ = _
                rw [← HR.out]
                refine printV_long (j := j + 1) HAll.out ?_
                rw [HNX.out, List.length_append]
                have := HGE.out
                omega
              go_wp2_with fail
              go_ret2
              exact ⟨by rw [HV.out]; rfl, HB2.out⟩
            · have hbig' : ¬ (1048576 : Int) < t.size := by omega
              have HC := hidE (tell_any ⟨k, i, t, n⟩ hn0 hn1 (by show t.size ≤ _; omega) HM.out W2 (HE.out.below HB2.out h8))
              unfold W4.val at HC
              simp only at HC
              obtain ⟨T, hT⟩ : ∃ x, tellW (W4.mk k i t n).wd = x := ⟨_, rfl⟩
              rw [hT] at HC HNX HLG HGE HPO
              clear hT
              go_wp2_with fail
              refine HC.out.mono ?_
              rintro e w3 ⟨rfl, hb3⟩
              have HB3 : Hid (Below w.heap.size w w3) := below_on HB2.out hb3
              have HO3 := hidE (own_below HO2.out hb3)
              have hB3 := HB3.out.size
              have hTs : (bsOf T).size = T.length := rfl
              have h20 := HLG.out
              have h21 := HPO.out
              clear hb3 HB2 HO2 HC hc0 hc1 hc2 hc3 HW2
              go_upto_region 16 with (at_builtin; refine append_text w3 rfl _ _ rfl w.heap.size A2.length _ (byteCells A2) rfl HO3.out (bsOf T) rfl (by omega) (by omega) hB3 ?_; intro v4 w4 ht4)
              have HB4 : Hid (Below w.heap.size w w4) := HB3.out.trans (ht4.below HO3.out hB3)
              have HO4 : Hid (w4.ownsRow w.heap.size 5 1 v4 (A2 ++ T).length (byteCells (A2 ++ T))) := by
                have := ht4.own
                rw [show (bsOf T).data.toList = T from rfl] at this
                rw [List.length_append]
                rwa [show byteCells A2 ++ byteCells T = byteCells (A2 ++ T) by simp [byteCells]] at this
              clear ht4 HO3 HB3
              obtain ⟨ua, uc, rfl⟩ := row_slice HO4.out
              obtain ⟨L, hL⟩ : ∃ x, (A2 ++ T).length = x := ⟨_, rfl⟩
              have HLL := hidE hL
              have hL1 : L ≤ 100000000 := by rw [← hL, List.length_append]; omega
              rw [hL] at HO4 ⊢
              clear hL
              by_cases hbg : 1048576 < L
              · have hbg' : (1048576 : Int) < L := by omega
                have HV : Hid (R = .tuple #[.string ⟨#[]⟩, .int .i64 3]) := by
                  show _ = _
                  rw [← HR.out]
                  refine printV_long (j := j + 1) HAll.out ?_
                  rw [HNX.out, HLL.out]
                  exact hbg
                go_wp2_with fail
                go_ret2
                exact ⟨by rw [HV.out]; rfl, HB4.out⟩
              · have hbg' : ¬ (1048576 : Int) < L := by omega
                go_wp2_with fail
                go_roundw
                case rel =>
                  refine ⟨j + 1, by omega, by go_num, HB4.out, ?_, ?_⟩
                  · rw [HNX.out]
                    rw [HLL.out]
                    exact HO4.out
                  · rw [HNX.out, HLL.out]; omega
                case measure => simp [intOf]; omega
          · have HS : Hid ((if j = 0 then [] else [32] : List UInt8) = [32]) := if_neg hj0
            have hg : (j : Int) > 0 := by omega
            clear hj0
            go_upto_region 12 with fail
            generalize hW1 : World.alloc _ _ = W1
            have HW1 : Hid (Wo W1 wr.heap.size k i n t) := by rw [← hW1]; exact World.alloc_heap_new _ _
            have HB1 : Hid (Below w.heap.size w W1) := by rw [← hW1]; exact HB'.out.alloc hB1 _
            have HO1 : Hid (W1.ownsRow w.heap.size 5 1 u6 A.length (byteCells A)) := by rw [← hW1]; exact own_alloc HO.out _
            have hB4 : w.heap.size ≤ W1.heap.size := HB1.out.size
            clear hW1 c0 c1 c2 c3
            go_upto_region 13 with (at_builtin; refine append_row (W1.alloc (.cells #[.int .u8 32] 5)) rfl _ _ rfl w.heap.size A.length u6 (byteCells A) rfl (own_alloc HO1.out _) ⟨W1.heap.size, 0, none⟩ 1 1 [32] rfl rfl (one_cellA W1 32) (by omega) (by simp; omega) ?_; intro v2 W2 ht)
            have HW2 : Hid (Wo W2 wr.heap.size k i n t) := told_word HO.out (Nat.le_refl _) (HW1.out.keep (Below.heap_alloc _ _ _ HW1.out.lt)) ht
            have HB2 : Hid (Below w.heap.size w W2) := (HB1.out.alloc hB4 _).trans (ht.below (own_alloc HO1.out _) (by simp; omega))
            have HO2 : Hid (W2.ownsRow w.heap.size 5 1 v2 (A ++ (if j = 0 then [] else [32])).length (byteCells (A ++ (if j = 0 then [] else [32])))) := by
              have := ht.own
              rw [HS.out, List.length_append]
              rwa [show byteCells A ++ byteCells [32] = byteCells (A ++ [32]) by simp [byteCells]] at this
            clear HS hg HO HB' HW1 HB1 HO1 ht
            have hB2 : w.heap.size ≤ W2.heap.size := HB2.out.size
            have hc2 := HW2.out.c2
            have hc0 := HW2.out.c0
            have hc1 := HW2.out.c1
            have hc3 := HW2.out.c3
            obtain ⟨A2, hA2⟩ : ∃ x, A ++ (if j = 0 then [] else [32]) = x := ⟨_, rfl⟩
            rw [hA2] at HO2 HNX
            have hl2 : A2.length ≤ 1048577 := by
              rw [← hA2]
              split <;> simp <;> omega
            clear hA2
            by_cases hbig : 1048576 < t.size
            · have hbig' : (1048576 : Int) < t.size := by omega
              have HV : Hid (R = .tuple #[.string ⟨#[]⟩, .int .i64 3]) := by
                show _ = _
                rw [← HR.out]
                refine printV_long (j := j + 1) HAll.out ?_
                rw [HNX.out, List.length_append]
                have := HGE.out
                omega
              go_wp2_with fail
              go_ret2
              exact ⟨by rw [HV.out]; rfl, HB2.out⟩
            · have hbig' : ¬ (1048576 : Int) < t.size := by omega
              have HC := hidE (tell_any ⟨k, i, t, n⟩ hn0 hn1 (by show t.size ≤ _; omega) HM.out W2 (HE.out.below HB2.out h8))
              unfold W4.val at HC
              simp only at HC
              obtain ⟨T, hT⟩ : ∃ x, tellW (W4.mk k i t n).wd = x := ⟨_, rfl⟩
              rw [hT] at HC HNX HLG HGE HPO
              clear hT
              go_wp2_with fail
              refine HC.out.mono ?_
              rintro e w3 ⟨rfl, hb3⟩
              have HB3 : Hid (Below w.heap.size w w3) := below_on HB2.out hb3
              have HO3 := hidE (own_below HO2.out hb3)
              have hB3 := HB3.out.size
              have hTs : (bsOf T).size = T.length := rfl
              have h20 := HLG.out
              have h21 := HPO.out
              clear hb3 HB2 HO2 HC hc0 hc1 hc2 hc3 HW2
              go_upto_region 16 with (at_builtin; refine append_text w3 rfl _ _ rfl w.heap.size A2.length _ (byteCells A2) rfl HO3.out (bsOf T) rfl (by omega) (by omega) hB3 ?_; intro v4 w4 ht4)
              have HB4 : Hid (Below w.heap.size w w4) := HB3.out.trans (ht4.below HO3.out hB3)
              have HO4 : Hid (w4.ownsRow w.heap.size 5 1 v4 (A2 ++ T).length (byteCells (A2 ++ T))) := by
                have := ht4.own
                rw [show (bsOf T).data.toList = T from rfl] at this
                rw [List.length_append]
                rwa [show byteCells A2 ++ byteCells T = byteCells (A2 ++ T) by simp [byteCells]] at this
              clear ht4 HO3 HB3
              obtain ⟨ua, uc, rfl⟩ := row_slice HO4.out
              obtain ⟨L, hL⟩ : ∃ x, (A2 ++ T).length = x := ⟨_, rfl⟩
              have HLL := hidE hL
              have hL1 : L ≤ 100000000 := by rw [← hL, List.length_append]; omega
              rw [hL] at HO4 ⊢
              clear hL
              by_cases hbg : 1048576 < L
              · have hbg' : (1048576 : Int) < L := by omega
                have HV : Hid (R = .tuple #[.string ⟨#[]⟩, .int .i64 3]) := by
                  show _ = _
                  rw [← HR.out]
                  refine printV_long (j := j + 1) HAll.out ?_
                  rw [HNX.out, HLL.out]
                  exact hbg
                go_wp2_with fail
                go_ret2
                exact ⟨by rw [HV.out]; rfl, HB4.out⟩
              · have hbg' : ¬ (1048576 : Int) < L := by omega
                go_wp2_with fail
                go_roundw
                case rel =>
                  refine ⟨j + 1, by omega, by go_num, HB4.out, ?_, ?_⟩
                  · rw [HNX.out]
                    rw [HLL.out]
                    exact HO4.out
                  · rw [HNX.out, HLL.out]; omega
                case measure => simp [intOf]; omega
        · have HF : Hid ((printW (xs.map W4.wd)).length ≤ 1048576) := by
            have := hle
            rwa [List.take_of_length_le (by omega)] at this
          have HV : Hid (R = .tuple #[.string (bsOf (printW (xs.map W4.wd))), .int .i64 0]) := by show _ = _; rw [← HR.out]; exact printV_ok HAll.out HF.out
          have HO2 : Hid (wr.ownsRow w.heap.size 5 1 u6 (printW (xs.map W4.wd)).length (byteCells (printW (xs.map W4.wd)))) := by
            have := HO.out
            rwa [List.take_of_length_le (by omega)] at this
          have hcv := own_conv HO2.out
          go_wp2_with fail
          go_ret2
          exact ⟨by rw [HV.out]; rfl, HB'.out⟩
end Go.Proofs.YtbjcdpenfijfoaaGreatDoor
