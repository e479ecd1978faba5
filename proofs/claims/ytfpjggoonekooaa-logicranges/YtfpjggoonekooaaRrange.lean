/- Contract of the document's own Range, and the walk of the law LogicRanges. -/
import Derived.Test.YtfpjggoonekooaaRef
namespace Go.Proofs.Ytfpjggoonekooaa
open Go.RowKit Go.WideShapes
set_option linter.unusedVariables false

theorem radd_in (a b : Int) (w : World) (ha1 : -9223372036854775808 ≤ a) (ha2 : a ≤ 9223372036854775807) (hb1 : -9223372036854775808 ≤ b) (hb2 : b ≤ 9223372036854775807) (h1 : -9223372036854775808 ≤ a + b) (h2 : a + b ≤ 9223372036854775807) :
    Calls Try.prog 23 #[.int .i64 a, .int .i64 b] w fun e w' => e = .returned (.tuple #[.int .i64 (a + b), .int .i64 0]) ∧ Below w.heap.size w w' := by
  have h := radd_any a b w ha1 ha2 hb1 hb2
  rw [(fit_in h1 h2).1, (fit_in h1 h2).2] at h
  exact h
theorem radd_out (a b : Int) (w : World) (ha1 : -9223372036854775808 ≤ a) (ha2 : a ≤ 9223372036854775807) (hb1 : -9223372036854775808 ≤ b) (hb2 : b ≤ 9223372036854775807) (h1 : a + b < -9223372036854775808 ∨ 9223372036854775807 < a + b) :
    Calls Try.prog 23 #[.int .i64 a, .int .i64 b] w fun e w' => e = .returned (.tuple #[.int .i64 0, .int .i64 120]) ∧ Below w.heap.size w w' := by
  have h := radd_any a b w ha1 ha2 hb1 hb2
  rw [(fit_out h1).1, (fit_out h1).2] at h
  exact h

set_option maxHeartbeats 1600000 in
set_option maxRecDepth 100000 in
theorem rrange_any (fr to step : Int) (w : World) (hf1 : -9223372036854775808 ≤ fr) (hf2 : fr ≤ 9223372036854775807) (ht1 : -9223372036854775808 ≤ to) (ht2 : to ≤ 9223372036854775807)
    (hs1 : -9223372036854775808 ≤ step) (hs2 : step ≤ 9223372036854775807) (hs : 0 < step ∨ step < 0) :
    Calls Try.prog 33 #[.int .i64 fr, .int .i64 to, .int .i64 step] w fun e w' => RangeSays to step fr w e w' := by
  obtain ⟨i0, hi, hz0, hz1, hz2⟩ := info_parts Try.info2
  have hs0 : (step == 0) = false := beq_eq_false_iff_ne.2 (by omega)
  rcases hs with hs | hs
  · go_enter Try.func33, Try.ntmps33
    go_wp2
    go_loopw [8, 9] (fun v nn wr => ∃ acc : List Int, ∃ n : Int, nn = .int .i64 n ∧ -9223372036854775808 ≤ n ∧ n ≤ 9223372036854775807 ∧ acc.length ≤ 65536 ∧
        wr.ownsRow w.heap.size 2 1 v acc.length (acc.map (Value.int .i64)) ∧ Below w.heap.size w wr ∧ rgo to step 65537 fr = acc ++ rgo to step (65537 - acc.length) n)
      (fun v _ _ => 65537 - sliceLen v)
    case atStart => exact ⟨[], fr, rfl, hf1, hf2, by simp, World.ownsRow_nil _ _ _ _, Below.refl _ _, by simp⟩
    case round =>
      obtain ⟨acc, n, rfl, hn1, hn2, hlen, hown, hbel, hrg⟩ := hrel
      have HRG : Hid (rgo to step 65537 fr = acc ++ rgo to step (65537 - acc.length) n) := hrg
      clear hrg
      obtain ⟨ad, cap, rfl⟩ := ownsRow_slice hown
      by_cases hby : to < n
      · have HB : Hid (beyond to step n = true) := by unfold Hid beyond; simp; omega
        go_wp2
        go_ret2
        exact says_end HRG HB.out hlen hown hbel
      · have HB : Hid (beyond to step n = false) := by unfold Hid beyond; simp; omega
        go_wp2_with (first
          | (at_builtin; refine wpList_append_own _ rfl _ _ 37 rfl w.heap.size 2 i0 (.int .i64 0) 1 8 Try.underlying37 hi hz0 hz1 hz2 rfl (by decide) _ _ _ rfl (hown.alloc _) ⟨wr.heap.size, 0, none⟩ 1 1 [.int .i64 n] rfl rfl (cell_one_new _ _ _) (by intro u hu; simp at hu; subst hu; rfl) (by unfold maxLen; omega) (by omega) (by have := hbel.size; simp; omega) ?_)
          | fail)
        intro v' w1 hown' hgrow _
        have R := rel_app hown hbel hown' hgrow
        obtain ⟨R1, R2⟩ := R
        clear hown' hgrow hown hbel
        obtain ⟨m, hm⟩ : ∃ m, acc.length + 1 = m := ⟨_, rfl⟩
        rw [hm] at R1
        have HMM := hidden hm
        obtain ⟨ad', cap', rfl⟩ := ownsRow_slice R1
        by_cases hfull : acc.length = 65536
        · have hf : 65536 < (m : Int) := by omega
          have HFU : Hid (acc.length = 65536) := hfull
          clear hfull hm
          go_wp2
          go_ret2
          exact says_long HRG HB.out HFU.out R2
        · have HLL : Hid (acc.length < 65536) := by unfold Hid; omega
          have hf : (m : Int) ≤ 65536 := by omega
          clear hfull hm hlen
          by_cases hin : inside (n + step) = true
          · have HI : Hid (inside (n + step) = true) := hin
            have hin2 : -9223372036854775808 ≤ n + step ∧ n + step ≤ 9223372036854775807 := by unfold inside at hin; simpa using hin
            obtain ⟨b1, b2⟩ := hin2
            clear hin
            go_wp2_with fail
            refine (radd_in _ _ _ hn1 hn2 hs1 hs2 b1 b2).mono ?_
            rintro e w2 ⟨rfl, k2⟩
            have R3 := ownsRow_below R1 k2
            have R4 := below_on R2 k2
            clear R1 R2 k2
            go_wp2
            go_roundw
            case rel => exact ⟨acc ++ [n], n + step, rfl, b1, b2, by have := HLL.out; simp; omega, by rw [len_snoc, HMM.out]; exact R3, R4, rgo_next HRG HB.out HI.out HLL.out⟩
            case measure => have := HMM.out; have := HLL.out; simp [sliceLen]; omega
          · have HI : Hid (inside (n + step) = false) := by unfold Hid; simpa using hin
            have hout : n + step < -9223372036854775808 ∨ 9223372036854775807 < n + step := by
              unfold inside at hin; simp at hin; omega
            clear hin
            go_wp2_with fail
            refine (radd_out _ _ _ hn1 hn2 hs1 hs2 hout).mono ?_
            rintro e w2 ⟨rfl, k2⟩
            have R3 := ownsRow_below R1 k2
            have R4 := below_on R2 k2
            clear R1 R2 k2 hout
            go_wp2
            go_ret2
            exact says_last HRG HB.out HI.out HLL.out (by rw [HMM.out]; exact R3) R4
  · go_enter Try.func33, Try.ntmps33
    go_wp2
    go_loopw [8, 9] (fun v nn wr => ∃ acc : List Int, ∃ n : Int, nn = .int .i64 n ∧ -9223372036854775808 ≤ n ∧ n ≤ 9223372036854775807 ∧ acc.length ≤ 65536 ∧
        wr.ownsRow w.heap.size 2 1 v acc.length (acc.map (Value.int .i64)) ∧ Below w.heap.size w wr ∧ rgo to step 65537 fr = acc ++ rgo to step (65537 - acc.length) n)
      (fun v _ _ => 65537 - sliceLen v)
    case atStart => exact ⟨[], fr, rfl, hf1, hf2, by simp, World.ownsRow_nil _ _ _ _, Below.refl _ _, by simp⟩
    case round =>
      obtain ⟨acc, n, rfl, hn1, hn2, hlen, hown, hbel, hrg⟩ := hrel
      have HRG : Hid (rgo to step 65537 fr = acc ++ rgo to step (65537 - acc.length) n) := hrg
      clear hrg
      obtain ⟨ad, cap, rfl⟩ := ownsRow_slice hown
      by_cases hby : n < to
      · have HB : Hid (beyond to step n = true) := by unfold Hid beyond; simp; omega
        go_wp2
        go_ret2
        exact says_end HRG HB.out hlen hown hbel
      · have HB : Hid (beyond to step n = false) := by unfold Hid beyond; simp; omega
        go_wp2_with (first
          | (at_builtin; refine wpList_append_own _ rfl _ _ 37 rfl w.heap.size 2 i0 (.int .i64 0) 1 8 Try.underlying37 hi hz0 hz1 hz2 rfl (by decide) _ _ _ rfl (hown.alloc _) ⟨wr.heap.size, 0, none⟩ 1 1 [.int .i64 n] rfl rfl (cell_one_new _ _ _) (by intro u hu; simp at hu; subst hu; rfl) (by unfold maxLen; omega) (by omega) (by have := hbel.size; simp; omega) ?_)
          | fail)
        intro v' w1 hown' hgrow _
        have R := rel_app hown hbel hown' hgrow
        obtain ⟨R1, R2⟩ := R
        clear hown' hgrow hown hbel
        obtain ⟨m, hm⟩ : ∃ m, acc.length + 1 = m := ⟨_, rfl⟩
        rw [hm] at R1
        have HMM := hidden hm
        obtain ⟨ad', cap', rfl⟩ := ownsRow_slice R1
        by_cases hfull : acc.length = 65536
        · have hf : 65536 < (m : Int) := by omega
          have HFU : Hid (acc.length = 65536) := hfull
          clear hfull hm
          go_wp2
          go_ret2
          exact says_long HRG HB.out HFU.out R2
        · have HLL : Hid (acc.length < 65536) := by unfold Hid; omega
          have hf : (m : Int) ≤ 65536 := by omega
          clear hfull hm hlen
          by_cases hin : inside (n + step) = true
          · have HI : Hid (inside (n + step) = true) := hin
            have hin2 : -9223372036854775808 ≤ n + step ∧ n + step ≤ 9223372036854775807 := by unfold inside at hin; simpa using hin
            obtain ⟨b1, b2⟩ := hin2
            clear hin
            go_wp2_with fail
            refine (radd_in _ _ _ hn1 hn2 hs1 hs2 b1 b2).mono ?_
            rintro e w2 ⟨rfl, k2⟩
            have R3 := ownsRow_below R1 k2
            have R4 := below_on R2 k2
            clear R1 R2 k2
            go_wp2
            go_roundw
            case rel => exact ⟨acc ++ [n], n + step, rfl, b1, b2, by have := HLL.out; simp; omega, by rw [len_snoc, HMM.out]; exact R3, R4, rgo_next HRG HB.out HI.out HLL.out⟩
            case measure => have := HMM.out; have := HLL.out; simp [sliceLen]; omega
          · have HI : Hid (inside (n + step) = false) := by unfold Hid; simpa using hin
            have hout : n + step < -9223372036854775808 ∨ 9223372036854775807 < n + step := by
              unfold inside at hin; simp at hin; omega
            clear hin
            go_wp2_with fail
            refine (radd_out _ _ _ hn1 hn2 hs1 hs2 hout).mono ?_
            rintro e w2 ⟨rfl, k2⟩
            have R3 := ownsRow_below R1 k2
            have R4 := below_on R2 k2
            clear R1 R2 k2 hout
            go_wp2
            go_ret2
            exact says_last HRG HB.out HI.out HLL.out (by rw [HMM.out]; exact R3) R4

theorem range_zero (fr to : Int) (w : World) :
    Calls Try.prog 32 #[.int .i64 fr, .int .i64 to, .int .i64 0] w fun e w' => e = .returned (.tuple #[.slice none 0 0, .int .i64 2]) ∧ w' = w := by
  go_enter Try.func32, Try.ntmps32
  go_wp2
  go_step3
  go_wp2
  try rw [Exit.noGoto_ret]
  go_ret2
  exact ⟨rfl, rfl⟩
theorem rrange_zero (fr to : Int) (w : World) :
    Calls Try.prog 33 #[.int .i64 fr, .int .i64 to, .int .i64 0] w fun e w' => e = .returned (.tuple #[.slice none 0 0, .int .i64 2]) ∧ w' = w := by
  go_enter Try.func33, Try.ntmps33
  go_wp2
  go_ret2
  exact ⟨rfl, rfl⟩
end Go.Proofs.Ytfpjggoonekooaa
