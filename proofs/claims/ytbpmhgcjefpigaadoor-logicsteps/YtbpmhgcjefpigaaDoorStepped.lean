/- The walk of the law LogicSteps. -/
import Derived.Test.YtbpmhgcjefpigaaDoorSteps
namespace Go.Proofs.YtbpmhgcjefpigaaDoor
open Go.RowKit Go.WideShapes
set_option linter.unusedVariables false

theorem range_zero (fr tt : Int) (w : World) :
    Calls Tryd.prog 20 #[.int .i64 fr, .int .i64 tt, .int .i64 0] w fun e w' => e = .returned (.tuple #[.slice none 0 0, .int .i64 2]) ∧ w' = w := by
  go_enter Tryd.func20, Tryd.ntmps20
  go_wp2
  go_step3
  go_wp2
  try rw [Exit.noGoto_ret]
  go_ret2
  exact ⟨rfl, rfl⟩

set_option maxRecDepth 100000 in
set_option maxHeartbeats 1000000 in
theorem steps_zero (fr tt : Int) (w : World) :
    Calls Tryd.prog 4 #[.int .i64 fr, .int .i64 tt, .int .i64 0] w fun e w' => e = .returned (.bool true) ∧ Below w.heap.size w w' := by
  go_enter Tryd.func4, Tryd.ntmps4
  go_wp2_with fail
  refine (range_zero _ _ _).mono ?_; rintro e w' ⟨rfl, rfl⟩
  go_wp2_with (go_at_call 21; refine (num_any _ _).mono ?_; rintro e w' ⟨rfl, rfl⟩)
  refine (works_any _).mono ?_; rintro e w2 ⟨rfl, hb⟩
  go_wp2_with fail
  go_ret
  exact ⟨rfl, hb⟩

set_option maxRecDepth 100000 in
set_option maxHeartbeats 2000000 in
theorem steps_long (fr tt step : Int) (w : World) (hf1 : -9223372036854775808 ≤ fr) (hf2 : fr ≤ 9223372036854775807) (ht1 : -9223372036854775808 ≤ tt) (ht2 : tt ≤ 9223372036854775807)
    (hs1 : -9223372036854775808 ≤ step) (hs2 : step ≤ 9223372036854775807) (hs : 0 < step ∨ step < 0) (hl : 300 < (rgo tt step 65537 fr).length) :
    Calls Tryd.prog 4 #[.int .i64 fr, .int .i64 tt, .int .i64 step] w fun e w' => e = .returned (.bool true) ∧ Below w.heap.size w w' := by
  have HR := hidE (range_any fr tt step w hf1 hf2 ht1 ht2 hs1 hs2 hs)
  generalize hzs : rgo tt step 65537 fr = zs at *
  have HZ := hidE hzs
  clear hzs
  go_enter Tryd.func4, Tryd.ntmps4
  go_wp2_with fail
  refine HR.out.mono ?_
  intro e w1 hsay
  unfold RangeSays at hsay
  rw [HZ.out] at hsay
  obtain ⟨hb1, ⟨hlen, rfl⟩ | ⟨hlen, v, rfl, hown⟩⟩ := hsay
  · clear hlen
    go_wp2_with (go_at_call 21; refine (num_any _ _).mono ?_; rintro e w' ⟨rfl, rfl⟩)
    refine (works_any _).mono ?_; rintro e w2 ⟨rfl, hb⟩
    go_wp2_with fail
    go_ret
    exact ⟨rfl, below_on hb1 hb⟩
  · obtain ⟨ad, cap, rfl⟩ := ownsRow_slice hown
    have g1 : (300 : Int) < zs.length := by omega
    have g2 : (zs.length : Int) ≤ 65536 := by omega
    clear hown hl
    go_wp2_with (go_at_call 21; refine (num_any _ _).mono ?_; rintro e w' ⟨rfl, rfl⟩)
    refine (works_any _).mono ?_; rintro e w2 ⟨rfl, hb⟩
    go_wp2_with fail
    go_ret
    exact ⟨rfl, below_on hb1 hb⟩

theorem row_ints {base : Nat} {w : World} {v : Value} {L : List Int} (h : w.ownsRow base 2 1 v L.length (L.map (Value.int .i64))) :
    ∃ ad cap, v = .slice ad L.length cap ∧ (L = [] ∨ ∃ g, ad = some ⟨g, 0, none⟩ ∧ ∀ j, j < L.length → w.cell? ⟨g, j, none⟩ = some (.int .i64 (L.getD j 0))) := by
  have ho := h
  obtain ⟨h1, ⟨rfl, h2⟩ | ⟨g, cap, cur, rfl, h3, h4, h5, h6, h7⟩⟩ := h
  · exact ⟨none, 0, by rw [h2], .inl (List.length_eq_zero_iff.1 h2)⟩
  · refine ⟨_, cap, rfl, .inr ⟨g, rfl, fun j hj => ?_⟩⟩
    have := ho.cells (g := g) rfl j (.int .i64 (L[j]'hj)) (by simp [hj])
    rw [add_plain, Nat.zero_add] at this
    simpa [List.getD, hj] using this

theorem inside_iff {n : Int} : inside n = true ↔ -9223372036854775808 ≤ n ∧ n ≤ 9223372036854775807 := by simp [inside]
theorem beyond_false {tt step x : Int} (h : beyond tt step x = false) : (0 < step → x ≤ tt) ∧ (step < 0 → tt ≤ x) := by
  simp [beyond] at h
  omega
theorem beyond_true {tt step x : Int} (h : beyond tt step x = true) : (0 < step ∧ tt < x) ∨ (step < 0 ∧ x < tt) := by
  simpa [beyond] using h

set_option maxRecDepth 100000 in
set_option maxHeartbeats 4000000 in
theorem steps_up (fr tt step : Int) (w : World) (hf1 : -9223372036854775808 ≤ fr) (hf2 : fr ≤ 9223372036854775807) (ht1 : -9223372036854775808 ≤ tt) (ht2 : tt ≤ 9223372036854775807)
    (hs1 : -9223372036854775808 ≤ step) (hs2 : step ≤ 9223372036854775807) (hs : 0 < step) (hl : (rgo tt step 65537 fr).length ≤ 300) (hT : Tabs w) :
    Calls Tryd.prog 4 #[.int .i64 fr, .int .i64 tt, .int .i64 step] w fun e w' => e = .returned (.bool true) ∧ Below w.heap.size w w' := by
  have HR := hidE (range_any fr tt step w hf1 hf2 ht1 ht2 hs1 hs2 (by omega))
  have HFA := hidE (rgo_facts tt step 65537 fr (inside_iff.2 ⟨hf1, hf2⟩))
  have HNO : Hid ((rgo tt step 65537 fr).length = 0 → beyond tt step fr = true) := fun h => rgo_none h
  obtain ⟨i0, hi, hz0, hz1, hz2⟩ := info_parts Tryd.info30
  generalize hzs : rgo tt step 65537 fr = zs at *
  have HZ := hidE hzs
  clear hzs
  have g1 : ¬ (300 : Int) < zs.length := by omega
  have g1' : decide ((300 : Int) < zs.length) = false := decide_eq_false g1
  go_enter Tryd.func4, Tryd.ntmps4
  go_wp2_with fail
  refine HR.out.mono ?_
  intro e w1 hsay
  unfold RangeSays at hsay
  rw [HZ.out] at hsay
  obtain ⟨hb1, ⟨hlen, rfl⟩ | ⟨hlen, v, rfl, hown⟩⟩ := hsay
  · omega
  · obtain ⟨ad, cap, rfl, hcells⟩ := row_ints hown
    clear hown hlen
    go_wp2_with (go_at_call 21; refine (num_any _ _).mono ?_; rintro e w1 ⟨rfl, rfl⟩)
    go_loopw [10, 9] (fun i u wr => ∃ j : Nat, j ≤ zs.length ∧ i = .int .i64 j ∧ wr.ownsRow w1.heap.size 30 6 u j ((zs.take j).flatMap numCells) ∧ Below w1.heap.size w1 wr) (fun i _ _ => zs.length - (intOf i).toNat)
    case atStart => exact ⟨0, Nat.zero_le _, rfl, ⟨by simp, .inl ⟨rfl, rfl⟩⟩, Below.refl _ _⟩
    case round =>
      obtain ⟨j, hj, rfl, hown, hbr⟩ := hrel
      have HO := hidE hown
      clear hown
      by_cases hlt : j < zs.length
      · obtain ⟨g, rfl, hc⟩ := hcells.resolve_left (by intro e; subst e; simp at hlt)
        have HC := hidE hc
        have hcj := cell_below hbr (Nat.le_refl _) (hc j hlt)
        have HCJ := hidE (hc j hlt)
        obtain ⟨f1, f2, f3, f4⟩ := HFA.out
        have hzj := f2 j hlt
        have hz1' := inside_iff.1 hzj.2
        have hz2' := beyond_false hzj.1
        clear hc f1 f2 f3 f4 hzj
        have HPR : Hid (0 < j → w1.cell? ⟨g, j - 1, none⟩ = some (.int .i64 (zs.getD (j - 1) 0)) ∧ zs.getD j 0 = zs.getD (j - 1) 0 + step ∧ (-9223372036854775808 ≤ zs.getD (j - 1) 0 ∧ zs.getD (j - 1) 0 ≤ 9223372036854775807)) := fun h0 => by
          obtain ⟨f1, f2, f3, f4⟩ := HFA.out
          refine ⟨HC.out (j - 1) (by omega), ?_, inside_iff.1 (f2 (j - 1) (by omega)).2⟩
          have := f1 (j - 1) (by omega)
          rwa [show j - 1 + 1 = j from by omega] at this
        have HTK : Hid ((zs.take (j + 1)).flatMap numCells = (zs.take j).flatMap numCells ++ numCells (zs.getD j 0)) := by
          show _ = _
          rw [List.take_add_one, List.getElem?_eq_getElem hlt, List.flatMap_append]
          simp [List.getD, hlt]
        generalize zs.getD j 0 = z at *
        generalize zs.getD (j - 1) 0 = y at *
        have hz3 : ¬ tt < z := by have := hz2'.1 hs; omega
        have hz4 : ¬ step < 0 := by omega
        obtain ⟨ua, uc, hu⟩ := ownsRow_slice HO.out
        subst hu
        have hbs := hbr.size
        clear hcells HC
        go_wp2_with (first
          | (at_builtin; refine wpList_append_own _ rfl _ _ 28 rfl w1.heap.size 30 i0 (.agg #[.int .i64 0, .bool false, .int .i64 0, .string ⟨#[]⟩, .slice none 0 0, .slice none 0 0]) 6 88 Tryd.underlying28 hi hz0 hz1 hz2 rfl (by decide) _ _ _ rfl (HO.out.alloc _) ⟨wr.heap.size, 0, none⟩ 1 1 (numCells z) rfl rfl ?d1 ?d2 ?d3 ?d4 ?d5 ?_)
          | fail)
        case d1 =>
          intro k u hk
          exact hk
        case d2 => intro u hu; simp only [numCells, List.mem_cons, List.not_mem_nil, or_false] at hu; rcases hu with rfl | rfl | rfl | rfl | rfl | rfl <;> rfl
        case d3 => unfold maxLen; omega
        case d4 => omega
        case d5 => first | omega | (simp; omega)
        intro v2 w2 hown2 hgrow2 _
        have hb2 : Below w1.heap.size w1 w2 := (hbr.alloc hbr.size _).grown hgrow2 (by simp; omega) (fun k hk => by have := (HO.out.lt k hk).1; omega)
        have HO2 : Hid (w2.ownsRow w1.heap.size 30 6 v2 (j + 1) ((zs.take (j + 1)).flatMap numCells)) := by
          show w2.ownsRow _ _ _ _ _ _
          rw [HTK.out]; exact hown2
        clear hown2 hgrow2 HO hcj
        obtain ⟨va, vc, hv2⟩ := ownsRow_slice HO2.out
        subst hv2
        have hcj2 : w2.cell? ⟨g, j, none⟩ = some (.int .i64 z) := cell_below hb2 (Nat.le_refl _) (HCJ.out)
        by_cases h0 : 0 < j
        · obtain ⟨hp, hst, hy1, hy2⟩ := HPR.out h0
          have hcp2 := cell_below hb2 (Nat.le_refl _) hp
          have h0' : (0 : Int) < (j : Int) := by omega
          have HST := hidE hst
          clear hp hst
          have HSB : Hid (∀ W, Calls Tryd.prog 22 #[.int .i64 z, .int .i64 y] W fun e w' => e = .returned (.tuple #[.int .i64 step, .int .i64 0]) ∧ w' = W) := fun W => by
            have h := sub_any z y W hz1'.1 hz1'.2 hy1 hy2
            have e : z - y = step := by have := HST.out; omega
            rw [e, (fit_in hs1 hs2).1, (fit_in hs1 hs2).2] at h
            exact h
          have hjz : j < zs.length := hlt
          have hjp : j - 1 < zs.length := by omega
          go_wp2_with fail
          go_quiet ((go_at_call 22; exact Calls.quiet_of_same (HSB.out _)))
          go_wp2_with (go_at_call 21; refine (num_any _ _).mono ?_; rintro e w' ⟨rfl, rfl⟩)
          go_roundw
          case rel => exact ⟨j + 1, by omega, by go_num, HO2.out, below_drewN hb2 _⟩
          case measure => simp [intOf]; omega
        · have h0' : ¬ (0 : Int) < (j : Int) := by omega
          have HJ0 : Hid (j = 0) := by show _ = _; omega
          clear HPR h0
          go_wp2_with fail
          go_roundw
          case rel => exact ⟨j + 1, by omega, by go_num, HO2.out, hb2⟩
          case measure => simp [intOf]; omega
      · have hjl : j = zs.length := by omega
        rw [hjl] at HO
        have HO3 : Hid (wr.ownsRow w1.heap.size 30 6 u9 zs.length (zs.flatMap numCells)) := by
          have := HO.out
          rw [List.take_of_length_le (Nat.le_refl _)] at this
          exact this
        obtain ⟨la, lcap, hu9, hl1, hl2, hll⟩ := row_kids HO3.out
        subst hu9
        have hbw := below_on hb1 hbr
        have HBW := hidE hbw
        have HTW := hidE (hT.below hbw)
        have HLL := hidE hll
        have hlm := hl2
        unfold maxLen at hlm
        have HMN : Hid (∀ t ∈ zs.map numT, Modest t) := by intro t ht; obtain ⟨z, _, rfl⟩ := List.mem_map.1 ht; exact num_modest z
        have HIN : Hid (∀ (z : Int) (W : World), Below wr.heap.size wr W → Calls Tryd.prog 23 #[leaf 2 false z, .slice la zs.length lcap] W fun e w' => e = .returned (.int .i64 (inN (numT z) (zs.map numT))) ∧ Below W.heap.size W w') := fun z W hb => by
          have := in_any (numT z) (zs.map numT) wr.heap.size (leaf 2 false z) la lcap W hb.size (leaf_lies _ _ _ _ _) (HLL.out.below hb) (by simpa using hl1) hl2 (HTW.out.below hb) (num_modest z) HMN.out
          simpa using this
        have HNU : Hid (∀ (W : World), Below wr.heap.size wr W → Calls Tryd.prog 23 #[leaf 0 false 0, .slice la zs.length lcap] W fun e w' => e = .returned (.int .i64 (inN (leafT 0 false 0) (zs.map numT))) ∧ Below W.heap.size W w') := fun W hb => by
          have := in_any (leafT 0 false 0) (zs.map numT) wr.heap.size (leaf 0 false 0) la lcap W hb.size (leaf_lies _ _ _ _ _) (HLL.out.below hb) (by simpa using hl1) hl2 (HTW.out.below hb) ⟨by rw [leaf_height]; omega, by rw [leaf_bytes]; omega⟩ HMN.out
          simpa using this
        clear hll hbw HO
        by_cases hz : zs.length = 0
        · have hzi : ((zs.length : Int) == 0) = true := beq_iff_eq.2 (by omega)
          have hbe := beyond_true (HNO.out hz)
          have HIE : Hid (inN (numT fr) (zs.map numT) = 0) := by show _ = _; rw [List.length_eq_zero_iff.1 hz]; rfl
          have HBE := hidE hbe
          have hbf : tt < fr := by rcases hbe with h | h <;> omega
          clear hbe hz
          go_wp2_with fail
          refine (HIN.out fr _ (Below.refl _ _)).mono ?_
          rintro e w5 ⟨rfl, hb5⟩
          rw [HIE.out]
          go_wp2_with fail
          refine (works_any _).mono ?_
          rintro e w6 ⟨rfl, hb6⟩
          go_wp2_with fail
          go_ret
          exact ⟨rfl, below_on HBW.out (below_on hb5 hb6)⟩
        · have hz' : 0 < zs.length := by omega
          have hzi : ((zs.length : Int) == 0) = false := beq_eq_false_iff_ne.2 (by omega)
          obtain ⟨g, rfl, hc⟩ := hcells.resolve_left (by intro e; subst e; simp at hz')
          obtain ⟨f1, f2, f3, f4⟩ := HFA.out
          have c0 := cell_below hbr (Nat.le_refl _) (hc 0 hz')
          rw [f3 hz'] at c0
          have cl := cell_below hbr (Nat.le_refl _) (hc (zs.length - 1) (by omega))
          have hli := inside_iff.1 (f2 (zs.length - 1) (by omega)).2
          have hend := f4 (by omega) hz'
          have HI1 := hidE (in_first hz' (f3 hz'))
          have HI2 := hidE (in_nothing hz')
          generalize zs.getD (zs.length - 1) 0 = L at *
          clear f1 f2 f3 f4 hc hz hcells
          have h1z : (1 : Int) ≤ zs.length := by omega
          have HAD := hidE (add_any L step wr hli.1 hli.2 hs1 hs2)
          cases hin : inside (L + step) with
          | false =>
            have ho : L + step < -9223372036854775808 ∨ 9223372036854775807 < L + step := by
              have : ¬ (-9223372036854775808 ≤ L + step ∧ L + step ≤ 9223372036854775807) := fun h => by rw [inside_iff.2 h] at hin; cases hin
              omega
            have HAD2 := HAD.out
            rw [(fit_out ho).1, (fit_out ho).2] at HAD2
            have HAD3 := hidE HAD2
            clear hin hend ho HAD HAD2
            go_wp2_with fail
            refine HAD3.out.mono ?_
            rintro e w4 ⟨rfl, hw4⟩
            subst hw4
            go_wp2_with (go_at_call 21; refine (num_any _ _).mono ?_; rintro e w' ⟨rfl, hw'⟩; subst hw')
            refine (HIN.out fr _ (Below.refl _ _)).mono ?_
            rintro e w5 ⟨rfl, hb5⟩
            rw [HI1.out]
            go_wp2_with fail
            refine (HNU.out _ hb5).mono ?_
            rintro e w6 ⟨rfl, hb6⟩
            rw [HI2.out]
            go_wp2_with fail
            refine (works_any _).mono ?_
            rintro e w7 ⟨rfl, hb7⟩
            go_wp2_with fail
            go_ret
            exact ⟨rfl, below_on HBW.out (below_on hb5 (below_on hb6 hb7))⟩
          | true =>
            have hi2 := inside_iff.1 hin
            have HAD2 := HAD.out
            rw [(fit_in hi2.1 hi2.2).1, (fit_in hi2.1 hi2.2).2] at HAD2
            have HAD3 := hidE HAD2
            have hbt := beyond_true (hend.resolve_left (by rw [hin]; simp))
            have hbf : tt < L + step := by rcases hbt with h | h <;> omega
            clear hin hend HAD HAD2 hbt
            go_wp2_with fail
            refine HAD3.out.mono ?_
            rintro e w4 ⟨rfl, hw4⟩
            subst hw4
            go_wp2_with (go_at_call 21; refine (num_any _ _).mono ?_; rintro e w' ⟨rfl, hw'⟩; subst hw')
            refine (HIN.out fr _ (Below.refl _ _)).mono ?_
            rintro e w5 ⟨rfl, hb5⟩
            rw [HI1.out]
            go_wp2_with fail
            refine (HNU.out _ hb5).mono ?_
            rintro e w6 ⟨rfl, hb6⟩
            rw [HI2.out]
            go_wp2_with fail
            refine (works_any _).mono ?_
            rintro e w7 ⟨rfl, hb7⟩
            go_wp2_with fail
            go_ret
            exact ⟨rfl, below_on HBW.out (below_on hb5 (below_on hb6 hb7))⟩

set_option maxRecDepth 100000 in
set_option maxHeartbeats 4000000 in
theorem steps_down (fr tt step : Int) (w : World) (hf1 : -9223372036854775808 ≤ fr) (hf2 : fr ≤ 9223372036854775807) (ht1 : -9223372036854775808 ≤ tt) (ht2 : tt ≤ 9223372036854775807)
    (hs1 : -9223372036854775808 ≤ step) (hs2 : step ≤ 9223372036854775807) (hs : step < 0) (hl : (rgo tt step 65537 fr).length ≤ 300) (hT : Tabs w) :
    Calls Tryd.prog 4 #[.int .i64 fr, .int .i64 tt, .int .i64 step] w fun e w' => e = .returned (.bool true) ∧ Below w.heap.size w w' := by
  have HR := hidE (range_any fr tt step w hf1 hf2 ht1 ht2 hs1 hs2 (by omega))
  have HFA := hidE (rgo_facts tt step 65537 fr (inside_iff.2 ⟨hf1, hf2⟩))
  have HNO : Hid ((rgo tt step 65537 fr).length = 0 → beyond tt step fr = true) := fun h => rgo_none h
  obtain ⟨i0, hi, hz0, hz1, hz2⟩ := info_parts Tryd.info30
  generalize hzs : rgo tt step 65537 fr = zs at *
  have HZ := hidE hzs
  clear hzs
  have g1 : ¬ (300 : Int) < zs.length := by omega
  have g1' : decide ((300 : Int) < zs.length) = false := decide_eq_false g1
  go_enter Tryd.func4, Tryd.ntmps4
  go_wp2_with fail
  refine HR.out.mono ?_
  intro e w1 hsay
  unfold RangeSays at hsay
  rw [HZ.out] at hsay
  obtain ⟨hb1, ⟨hlen, rfl⟩ | ⟨hlen, v, rfl, hown⟩⟩ := hsay
  · omega
  · obtain ⟨ad, cap, rfl, hcells⟩ := row_ints hown
    clear hown hlen
    go_wp2_with (go_at_call 21; refine (num_any _ _).mono ?_; rintro e w1 ⟨rfl, rfl⟩)
    go_loopw [10, 9] (fun i u wr => ∃ j : Nat, j ≤ zs.length ∧ i = .int .i64 j ∧ wr.ownsRow w1.heap.size 30 6 u j ((zs.take j).flatMap numCells) ∧ Below w1.heap.size w1 wr) (fun i _ _ => zs.length - (intOf i).toNat)
    case atStart => exact ⟨0, Nat.zero_le _, rfl, ⟨by simp, .inl ⟨rfl, rfl⟩⟩, Below.refl _ _⟩
    case round =>
      obtain ⟨j, hj, rfl, hown, hbr⟩ := hrel
      have HO := hidE hown
      clear hown
      by_cases hlt : j < zs.length
      · obtain ⟨g, rfl, hc⟩ := hcells.resolve_left (by intro e; subst e; simp at hlt)
        have HC := hidE hc
        have hcj := cell_below hbr (Nat.le_refl _) (hc j hlt)
        have HCJ := hidE (hc j hlt)
        obtain ⟨f1, f2, f3, f4⟩ := HFA.out
        have hzj := f2 j hlt
        have hz1' := inside_iff.1 hzj.2
        have hz2' := beyond_false hzj.1
        clear hc f1 f2 f3 f4 hzj
        have HPR : Hid (0 < j → w1.cell? ⟨g, j - 1, none⟩ = some (.int .i64 (zs.getD (j - 1) 0)) ∧ zs.getD j 0 = zs.getD (j - 1) 0 + step ∧ (-9223372036854775808 ≤ zs.getD (j - 1) 0 ∧ zs.getD (j - 1) 0 ≤ 9223372036854775807)) := fun h0 => by
          obtain ⟨f1, f2, f3, f4⟩ := HFA.out
          refine ⟨HC.out (j - 1) (by omega), ?_, inside_iff.1 (f2 (j - 1) (by omega)).2⟩
          have := f1 (j - 1) (by omega)
          rwa [show j - 1 + 1 = j from by omega] at this
        have HTK : Hid ((zs.take (j + 1)).flatMap numCells = (zs.take j).flatMap numCells ++ numCells (zs.getD j 0)) := by
          show _ = _
          rw [List.take_add_one, List.getElem?_eq_getElem hlt, List.flatMap_append]
          simp [List.getD, hlt]
        generalize zs.getD j 0 = z at *
        generalize zs.getD (j - 1) 0 = y at *
        have hz3 : ¬ z < tt := by have := hz2'.2 hs; omega
        have hz4 : ¬ 0 < step := by omega
        obtain ⟨ua, uc, hu⟩ := ownsRow_slice HO.out
        subst hu
        have hbs := hbr.size
        clear hcells HC
        go_wp2_with (first
          | (at_builtin; refine wpList_append_own _ rfl _ _ 28 rfl w1.heap.size 30 i0 (.agg #[.int .i64 0, .bool false, .int .i64 0, .string ⟨#[]⟩, .slice none 0 0, .slice none 0 0]) 6 88 Tryd.underlying28 hi hz0 hz1 hz2 rfl (by decide) _ _ _ rfl (HO.out.alloc _) ⟨wr.heap.size, 0, none⟩ 1 1 (numCells z) rfl rfl ?d1 ?d2 ?d3 ?d4 ?d5 ?_)
          | fail)
        case d1 =>
          intro k u hk
          exact hk
        case d2 => intro u hu; simp only [numCells, List.mem_cons, List.not_mem_nil, or_false] at hu; rcases hu with rfl | rfl | rfl | rfl | rfl | rfl <;> rfl
        case d3 => unfold maxLen; omega
        case d4 => omega
        case d5 => first | omega | (simp; omega)
        intro v2 w2 hown2 hgrow2 _
        have hb2 : Below w1.heap.size w1 w2 := (hbr.alloc hbr.size _).grown hgrow2 (by simp; omega) (fun k hk => by have := (HO.out.lt k hk).1; omega)
        have HO2 : Hid (w2.ownsRow w1.heap.size 30 6 v2 (j + 1) ((zs.take (j + 1)).flatMap numCells)) := by
          show w2.ownsRow _ _ _ _ _ _
          rw [HTK.out]; exact hown2
        clear hown2 hgrow2 HO hcj
        obtain ⟨va, vc, hv2⟩ := ownsRow_slice HO2.out
        subst hv2
        have hcj2 : w2.cell? ⟨g, j, none⟩ = some (.int .i64 z) := cell_below hb2 (Nat.le_refl _) (HCJ.out)
        by_cases h0 : 0 < j
        · obtain ⟨hp, hst, hy1, hy2⟩ := HPR.out h0
          have hcp2 := cell_below hb2 (Nat.le_refl _) hp
          have h0' : (0 : Int) < (j : Int) := by omega
          have HST := hidE hst
          clear hp hst
          have HSB : Hid (∀ W, Calls Tryd.prog 22 #[.int .i64 z, .int .i64 y] W fun e w' => e = .returned (.tuple #[.int .i64 step, .int .i64 0]) ∧ w' = W) := fun W => by
            have h := sub_any z y W hz1'.1 hz1'.2 hy1 hy2
            have e : z - y = step := by have := HST.out; omega
            rw [e, (fit_in hs1 hs2).1, (fit_in hs1 hs2).2] at h
            exact h
          have hjz : j < zs.length := hlt
          have hjp : j - 1 < zs.length := by omega
          go_wp2_with fail
          go_quiet ((go_at_call 22; exact Calls.quiet_of_same (HSB.out _)))
          go_wp2_with (go_at_call 21; refine (num_any _ _).mono ?_; rintro e w' ⟨rfl, rfl⟩)
          go_roundw
          case rel => exact ⟨j + 1, by omega, by go_num, HO2.out, below_drewN hb2 _⟩
          case measure => simp [intOf]; omega
        · have h0' : ¬ (0 : Int) < (j : Int) := by omega
          have HJ0 : Hid (j = 0) := by show _ = _; omega
          clear HPR h0
          go_wp2_with fail
          go_roundw
          case rel => exact ⟨j + 1, by omega, by go_num, HO2.out, hb2⟩
          case measure => simp [intOf]; omega
      · have hjl : j = zs.length := by omega
        rw [hjl] at HO
        have HO3 : Hid (wr.ownsRow w1.heap.size 30 6 u9 zs.length (zs.flatMap numCells)) := by
          have := HO.out
          rw [List.take_of_length_le (Nat.le_refl _)] at this
          exact this
        obtain ⟨la, lcap, hu9, hl1, hl2, hll⟩ := row_kids HO3.out
        subst hu9
        have hbw := below_on hb1 hbr
        have HBW := hidE hbw
        have HTW := hidE (hT.below hbw)
        have HLL := hidE hll
        have hlm := hl2
        unfold maxLen at hlm
        have HMN : Hid (∀ t ∈ zs.map numT, Modest t) := by intro t ht; obtain ⟨z, _, rfl⟩ := List.mem_map.1 ht; exact num_modest z
        have HIN : Hid (∀ (z : Int) (W : World), Below wr.heap.size wr W → Calls Tryd.prog 23 #[leaf 2 false z, .slice la zs.length lcap] W fun e w' => e = .returned (.int .i64 (inN (numT z) (zs.map numT))) ∧ Below W.heap.size W w') := fun z W hb => by
          have := in_any (numT z) (zs.map numT) wr.heap.size (leaf 2 false z) la lcap W hb.size (leaf_lies _ _ _ _ _) (HLL.out.below hb) (by simpa using hl1) hl2 (HTW.out.below hb) (num_modest z) HMN.out
          simpa using this
        have HNU : Hid (∀ (W : World), Below wr.heap.size wr W → Calls Tryd.prog 23 #[leaf 0 false 0, .slice la zs.length lcap] W fun e w' => e = .returned (.int .i64 (inN (leafT 0 false 0) (zs.map numT))) ∧ Below W.heap.size W w') := fun W hb => by
          have := in_any (leafT 0 false 0) (zs.map numT) wr.heap.size (leaf 0 false 0) la lcap W hb.size (leaf_lies _ _ _ _ _) (HLL.out.below hb) (by simpa using hl1) hl2 (HTW.out.below hb) ⟨by rw [leaf_height]; omega, by rw [leaf_bytes]; omega⟩ HMN.out
          simpa using this
        clear hll hbw HO
        by_cases hz : zs.length = 0
        · have hzi : ((zs.length : Int) == 0) = true := beq_iff_eq.2 (by omega)
          have hbe := beyond_true (HNO.out hz)
          have HIE : Hid (inN (numT fr) (zs.map numT) = 0) := by show _ = _; rw [List.length_eq_zero_iff.1 hz]; rfl
          have HBE := hidE hbe
          have hbf : fr < tt := by rcases hbe with h | h <;> omega
          clear hbe hz
          go_wp2_with fail
          refine (HIN.out fr _ (Below.refl _ _)).mono ?_
          rintro e w5 ⟨rfl, hb5⟩
          rw [HIE.out]
          go_wp2_with fail
          refine (works_any _).mono ?_
          rintro e w6 ⟨rfl, hb6⟩
          go_wp2_with fail
          go_ret
          exact ⟨rfl, below_on HBW.out (below_on hb5 hb6)⟩
        · have hz' : 0 < zs.length := by omega
          have hzi : ((zs.length : Int) == 0) = false := beq_eq_false_iff_ne.2 (by omega)
          obtain ⟨g, rfl, hc⟩ := hcells.resolve_left (by intro e; subst e; simp at hz')
          obtain ⟨f1, f2, f3, f4⟩ := HFA.out
          have c0 := cell_below hbr (Nat.le_refl _) (hc 0 hz')
          rw [f3 hz'] at c0
          have cl := cell_below hbr (Nat.le_refl _) (hc (zs.length - 1) (by omega))
          have hli := inside_iff.1 (f2 (zs.length - 1) (by omega)).2
          have hend := f4 (by omega) hz'
          have HI1 := hidE (in_first hz' (f3 hz'))
          have HI2 := hidE (in_nothing hz')
          generalize zs.getD (zs.length - 1) 0 = L at *
          clear f1 f2 f3 f4 hc hz hcells
          have h1z : (1 : Int) ≤ zs.length := by omega
          have HAD := hidE (add_any L step wr hli.1 hli.2 hs1 hs2)
          cases hin : inside (L + step) with
          | false =>
            have ho : L + step < -9223372036854775808 ∨ 9223372036854775807 < L + step := by
              have : ¬ (-9223372036854775808 ≤ L + step ∧ L + step ≤ 9223372036854775807) := fun h => by rw [inside_iff.2 h] at hin; cases hin
              omega
            have HAD2 := HAD.out
            rw [(fit_out ho).1, (fit_out ho).2] at HAD2
            have HAD3 := hidE HAD2
            clear hin hend ho HAD HAD2
            go_wp2_with fail
            refine HAD3.out.mono ?_
            rintro e w4 ⟨rfl, hw4⟩
            subst hw4
            go_wp2_with (go_at_call 21; refine (num_any _ _).mono ?_; rintro e w' ⟨rfl, hw'⟩; subst hw')
            refine (HIN.out fr _ (Below.refl _ _)).mono ?_
            rintro e w5 ⟨rfl, hb5⟩
            rw [HI1.out]
            go_wp2_with fail
            refine (HNU.out _ hb5).mono ?_
            rintro e w6 ⟨rfl, hb6⟩
            rw [HI2.out]
            go_wp2_with fail
            refine (works_any _).mono ?_
            rintro e w7 ⟨rfl, hb7⟩
            go_wp2_with fail
            go_ret
            exact ⟨rfl, below_on HBW.out (below_on hb5 (below_on hb6 hb7))⟩
          | true =>
            have hi2 := inside_iff.1 hin
            have HAD2 := HAD.out
            rw [(fit_in hi2.1 hi2.2).1, (fit_in hi2.1 hi2.2).2] at HAD2
            have HAD3 := hidE HAD2
            have hbt := beyond_true (hend.resolve_left (by rw [hin]; simp))
            have hbf : L + step < tt := by rcases hbt with h | h <;> omega
            clear hin hend HAD HAD2 hbt
            go_wp2_with fail
            refine HAD3.out.mono ?_
            rintro e w4 ⟨rfl, hw4⟩
            subst hw4
            go_wp2_with (go_at_call 21; refine (num_any _ _).mono ?_; rintro e w' ⟨rfl, hw'⟩; subst hw')
            refine (HIN.out fr _ (Below.refl _ _)).mono ?_
            rintro e w5 ⟨rfl, hb5⟩
            rw [HI1.out]
            go_wp2_with fail
            refine (HNU.out _ hb5).mono ?_
            rintro e w6 ⟨rfl, hb6⟩
            rw [HI2.out]
            go_wp2_with fail
            refine (works_any _).mono ?_
            rintro e w7 ⟨rfl, hb7⟩
            go_wp2_with fail
            go_ret
            exact ⟨rfl, below_on HBW.out (below_on hb5 (below_on hb6 hb7))⟩

end Go.Proofs.YtbpmhgcjefpigaaDoor
