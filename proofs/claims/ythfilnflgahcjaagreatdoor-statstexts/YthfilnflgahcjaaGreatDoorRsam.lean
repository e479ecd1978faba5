/- Counts held against each other: the document's own. -/
import Derived.Test.YthfilnflgahcjaaGreatDoorJoin14
namespace Go.Proofs.YthfilnflgahcjaaGreatDoor
open Go.RowKit Go.Shelf Go.Maps
set_option linter.unusedVariables false
set_option linter.unusedSimpArgs false
attribute [local go_sem] Oper.semAt_some
set_option maxRecDepth 100000 in
set_option maxHeartbeats 16000000 in
theorem same_any14 (a b : StatP) (vl vt ve vk ul ut ue uk : Value) (B : Nat) (w : World) (hB : B ≤ w.heap.size) (ha : StatL B w vl vt ve vk a) (hb : StatL B w ul ut ue uk b) : Calls Tryz.prog 14 #[statV a vl vt ve vk, statV b ul ut ue uk] w fun e w' => e = .returned (.bool (sameB a b)) ∧ Below w.heap.size w w' := by
  obtain ⟨pla, plc, rfl, pl1, pl2, -⟩ := ha.hl
  obtain ⟨pta, ptc, rfl, pt1, pt2, -⟩ := ha.ht
  obtain ⟨pea, pec, rfl, pe1, pe2, -⟩ := ha.he
  obtain ⟨pka, pkc, rfl, pk1, pk2, -⟩ := ha.hk
  obtain ⟨qla, qlc, rfl, ql1, ql2, -⟩ := hb.hl
  obtain ⟨qta, qtc, rfl, qt1, qt2, -⟩ := hb.ht
  obtain ⟨qea, qec, rfl, qe1, qe2, -⟩ := hb.he
  obtain ⟨qka, qkc, rfl, qk1, qk2, -⟩ := hb.hk
  unfold statV
  obtain ⟨pn, hpn⟩ : ∃ n, a.nodes = n := ⟨_, rfl⟩
  obtain ⟨pr, hpr⟩ : ∃ n, a.rels = n := ⟨_, rfl⟩
  obtain ⟨plm, hplm⟩ : ∃ n, a.labels.length = n := ⟨_, rfl⟩
  obtain ⟨ptm, hptm⟩ : ∃ n, a.types.length = n := ⟨_, rfl⟩
  obtain ⟨pem, hpem⟩ : ∃ n, a.ends.length = n := ⟨_, rfl⟩
  obtain ⟨pkm, hpkm⟩ : ∃ n, a.keys.length = n := ⟨_, rfl⟩
  obtain ⟨qn, hqn⟩ : ∃ n, b.nodes = n := ⟨_, rfl⟩
  obtain ⟨qr, hqr⟩ : ∃ n, b.rels = n := ⟨_, rfl⟩
  obtain ⟨qlm, hqlm⟩ : ∃ n, b.labels.length = n := ⟨_, rfl⟩
  obtain ⟨qtm, hqtm⟩ : ∃ n, b.types.length = n := ⟨_, rfl⟩
  obtain ⟨qem, hqem⟩ : ∃ n, b.ends.length = n := ⟨_, rfl⟩
  obtain ⟨qkm, hqkm⟩ : ∃ n, b.keys.length = n := ⟨_, rfl⟩
  have HLEN := hidE (And.intro hplm (And.intro hptm (And.intro hpem (And.intro hpkm (And.intro hqlm (And.intro hqtm (And.intro hqem hqkm)))))))
  have HNR := hidE (And.intro hpn (And.intro hpr (And.intro hqn hqr)))
  obtain ⟨D, hD⟩ : ∃ D, sameB a b = D := ⟨_, rfl⟩
  have HD := hidE hD
  rw [hD]
  have HRA := hidE ha
  have HRB := hidE hb
  rw [hplm] at pl1 HRA
  rw [hptm] at pt1 HRA
  rw [hpem] at pe1 HRA
  rw [hpkm] at pk1 HRA
  rw [hqlm] at ql1 HRB
  rw [hqtm] at qt1 HRB
  rw [hqem] at qe1 HRB
  rw [hqkm] at qk1 HRB
  rw [hpn, hpr, hqn, hqr, hplm, hptm, hpem, hpkm, hqlm, hqtm, hqem, hqkm]
  clear ha hb hD hpn hpr hqn hqr hplm hptm hpem hpkm hqlm hqtm hqem hqkm
  go_enter Tryz.func14, Tryz.ntmps14
  go_upto_region 1 with fail
  obtain ⟨W1, hW1⟩ : ∃ W, w.alloc (.cells #[.int .i64 pn, .int .i64 pr, .slice pla plm plc, .slice pta ptm ptc, .slice pea pem pec, .slice pka pkm pkc] 33) = W := ⟨_, rfl⟩
  have hz1 : W1.heap.size = w.heap.size + 1 := by rw [← hW1]; simp
  have HP0 := hidE (sbox_new w (.int .i64 pn) (.int .i64 pr) (.slice pla plm plc) (.slice pta ptm ptc) (.slice pea pem pec) (.slice pka pkm pkc) 33)
  have HB1 := hidE (below_new w (.cells #[.int .i64 pn, .int .i64 pr, .slice pla plm plc, .slice pta ptm ptc, .slice pea pem pec, .slice pka pkm pkc] 33))
  rw [hW1] at HP0 HB1
  obtain ⟨W2, hW2⟩ : ∃ W, W1.alloc (.cells #[.int .i64 qn, .int .i64 qr, .slice qla qlm qlc, .slice qta qtm qtc, .slice qea qem qec, .slice qka qkm qkc] 33) = W := ⟨_, rfl⟩
  have HQ2 := hidE (sbox_new W1 (.int .i64 qn) (.int .i64 qr) (.slice qla qlm qlc) (.slice qta qtm qtc) (.slice qea qem qec) (.slice qka qkm qkc) 33)
  have HB12 := hidE (below_new W1 (.cells #[.int .i64 qn, .int .i64 qr, .slice qla qlm qlc, .slice qta qtm qtc, .slice qea qem qec, .slice qka qkm qkc] 33))
  rw [hW2] at HQ2 HB12
  rw [hz1] at HQ2
  have HP2 := hidE (HP0.out.keep HB12.out)
  have HB2 := hidE (Below.on HB1.out HB12.out)
  try rw [hW1]
  try rw [hW2]
  clear hW1 hW2 hz1 HP0 HB1 HB12
  have f0 := HP2.out.c0
  have g0 := HQ2.out.c0
  have f1 := HP2.out.c1
  have g1 := HQ2.out.c1
  have f2 := HP2.out.c2
  have g2 := HQ2.out.c2
  have f3 := HP2.out.c3
  have g3 := HQ2.out.c3
  have f4 := HP2.out.c4
  have g4 := HQ2.out.c4
  have f5 := HP2.out.c5
  have g5 := HQ2.out.c5
  by_cases en : pn = qn
  · subst en
    by_cases er : pr = qr
    · subst er
      by_cases el : plm = qlm
      · subst el
        by_cases et : ptm = qtm
        · subst et
          by_cases ee : pem = qem
          · subst ee
            by_cases ek : pkm = qkm
            · subst ek
              go_wp2_with fail
              clear f0 g0 f1 g1 f2 g2 f3 g3 f4 g4 f5 g5
              go_loopw [5] (fun i wr => ∃ (j : Nat), j ≤ plm ∧ i = .int .i64 j ∧ a.labels.take j = b.labels.take j ∧ Below W2.heap.size W2 wr) (fun i _ => plm - (intOf i).toNat)
              case atStart => exact ⟨0, Nat.zero_le _, rfl, rfl, Below.refl _ _⟩
              case round =>
                obtain ⟨j, hj, rfl, hte, hbr⟩ := hrel
                have HTE := hidE hte
                have HBR := hidE hbr
                have HB3 := hidE (Below.on HB2.out hbr)
                have f2 := (HP2.out.keep hbr).c2
                have g2 := (HQ2.out.keep hbr).c2
                clear hte hbr
                by_cases hlt : j < plm
                · have hlt' : (j : Int) < plm := by omega
                  obtain ⟨⟨x0, x1⟩, hx⟩ : ∃ q, a.labels[j]? = some q := ⟨_, List.getElem?_eq_getElem (by have := HLEN.out.1; omega)⟩
                  obtain ⟨⟨y0, y1⟩, hy⟩ : ∃ q, b.labels[j]? = some q := ⟨_, List.getElem?_eq_getElem (by have := HLEN.out.2.2.2.2.1; omega)⟩
                  obtain ⟨_, _, ea, _, _, hca⟩ := HRA.out.hl
                  obtain ⟨_, _, eb, _, _, hcb⟩ := HRB.out.hl
                  injection ea with ea1 ea2 ea3
                  injection eb with eb1 eb2 eb3
                  subst ea1 ea3 eb1 eb3
                  obtain ⟨bl, off, rfl, hbl, hc⟩ := hca.resolve_left (by intro e; rw [e] at hx; simp at hx)
                  obtain ⟨bl', off', rfl, hbl', hc'⟩ := hcb.resolve_left (by intro e; rw [e] at hy; simp at hy)
                  have c0 := (HB3.out.cell (p := ⟨bl, off + j * 2 + 0, none⟩) (Nat.lt_of_lt_of_le hbl hB)).trans (hc j _ hx 0 _ rfl)
                  have d0 := (HB3.out.cell (p := ⟨bl', off' + j * 2 + 0, none⟩) (Nat.lt_of_lt_of_le hbl' hB)).trans (hc' j _ hy 0 _ rfl)
                  have c1 := (HB3.out.cell (p := ⟨bl, off + j * 2 + 1, none⟩) (Nat.lt_of_lt_of_le hbl hB)).trans (hc j _ hx 1 _ rfl)
                  have d1 := (HB3.out.cell (p := ⟨bl', off' + j * 2 + 1, none⟩) (Nat.lt_of_lt_of_le hbl' hB)).trans (hc' j _ hy 1 _ rfl)
                  rw [Nat.add_zero] at c0 d0
                  simp only at c0 d0 c1 d1
                  have fx0 : ∀ u : Up wr, u.x.cell? ⟨bl, off + j * 2, none⟩ = some (.string x0) := fun u => u.cell c0
                  have fy0 : ∀ u : Up wr, u.x.cell? ⟨bl', off' + j * 2, none⟩ = some (.string y0) := fun u => u.cell d0
                  have fx1 : ∀ u : Up wr, u.x.cell? ⟨bl, off + j * 2 + 1, none⟩ = some (.int .i64 x1) := fun u => u.cell c1
                  have fy1 : ∀ u : Up wr, u.x.cell? ⟨bl', off' + j * 2 + 1, none⟩ = some (.int .i64 y1) := fun u => u.cell d1
                  have fa : ∀ u : Up wr, u.x.cell? ⟨w.heap.size, 2, none⟩ = some (.slice (some ⟨bl, off, none⟩) plm plc) := fun u => u.cell f2
                  have fb : ∀ u : Up wr, u.x.cell? ⟨w.heap.size + 1, 2, none⟩ = some (.slice (some ⟨bl', off', none⟩) plm qlc) := fun u => u.cell g2
                  have up_ne : Nonempty (Up wr) := ⟨⟨wr, Below.refl _ _⟩⟩
                  have HXY := hidE (And.intro hx hy)
                  clear hx hy hc hc' hca hcb c0 d0 c1 d1
                  by_cases e0 : x0 = y0
                  · subst e0
                    have b0 := str_yes (rfl : x0 = x0)
                    by_cases e1 : x1 = y1
                    · subst e1
                      have b1 : (x1 == x1) = true := beq_self_eq_true _
                      have HS := hidE (take_eq_step HTE.out HXY.out.1 HXY.out.2 rfl)
                      go_upto_region 6 with fail
                      clear f2 g2
                      refine wp_up (by kernel_rfl) (by kernel_rfl) ?_
                      repeat (go_big_quiet_step (fail))
                      refine wpQuiet_nil ?_
                      rintro w4 ⟨⟨W4, hb4⟩, rfl⟩
                      have HB4 := hidE (Below.on HBR.out hb4)
                      clear fx0 fy0 fx1 fy1 fa fb up_ne hb4
                      go_wp2_with fail
                      go_roundw
                      case rel => exact ⟨j + 1, by omega, by go_num, HS.out, HB4.out⟩
                      case measure => simp [intOf]; omega
                    · have b1 : (x1 == y1) = false := beq_eq_false_iff_ne.2 e1
                      have hne : a.labels ≠ b.labels := ne_at HXY.out.1 HXY.out.2 fun e => e1 (by injections)
                      have HF : Hid (D = false) := by
                        show _ = _
                        rw [← HD.out]
                        unfold sameB
                        rw [decide_eq_false hne]; simp
                      clear e1 hne
                      go_upto_region 6 with fail
                      clear f2 g2
                      refine wp_up (by kernel_rfl) (by kernel_rfl) ?_
                      repeat (go_big_quiet_step (fail))
                      refine wpQuiet_nil ?_
                      rintro w4 ⟨⟨W4, hb4⟩, rfl⟩
                      have HB4 := hidE (Below.on HBR.out hb4)
                      clear fx0 fy0 fx1 fy1 fa fb up_ne hb4
                      go_wp2_with fail
                      go_ret
                      exact ⟨by rw [HF.out]; rfl, Below.on HB2.out HB4.out⟩
                  · have b0 := str_no e0
                    have hne : a.labels ≠ b.labels := ne_at HXY.out.1 HXY.out.2 fun e => e0 (by injections)
                    have HF : Hid (D = false) := by
                      show _ = _
                      rw [← HD.out]
                      unfold sameB
                      rw [decide_eq_false hne]; simp
                    clear e0 hne
                    go_upto_region 6 with fail
                    clear f2 g2
                    refine wp_up (by kernel_rfl) (by kernel_rfl) ?_
                    repeat (go_big_quiet_step (fail))
                    refine wpQuiet_nil ?_
                    rintro w4 ⟨⟨W4, hb4⟩, rfl⟩
                    have HB4 := hidE (Below.on HBR.out hb4)
                    clear fx0 fy0 fx1 fy1 fa fb up_ne hb4
                    go_wp2_with fail
                    go_ret
                    exact ⟨by rw [HF.out]; rfl, Below.on HB2.out HB4.out⟩
                · have hlt' : ¬ (j : Int) < plm := by omega
                  have HEQl : Hid (a.labels = b.labels) := take_all_eq HTE.out (by have := HLEN.out.1; omega) (by have := HLEN.out.2.2.2.2.1; omega)
                  have HBXl := hidE HBR.out
                  have HBYl := hidE HB3.out
                  clear HTE HBR HB3 g2
                  have f3 := (HP2.out.keep HBXl.out).c3
                  go_wp2_with fail
                  clear f3
                  go_loopw [6] (fun i wr => ∃ (j : Nat), j ≤ ptm ∧ i = .int .i64 j ∧ a.types.take j = b.types.take j ∧ Below W2.heap.size W2 wr) (fun i _ => ptm - (intOf i).toNat)
                  case atStart => exact ⟨0, Nat.zero_le _, rfl, rfl, HBXl.out⟩
                  case round =>
                    obtain ⟨j, hj, rfl, hte, hbr⟩ := hrel
                    have HTE := hidE hte
                    have HBR := hidE hbr
                    have HB3 := hidE (Below.on HB2.out hbr)
                    have f3 := (HP2.out.keep hbr).c3
                    have g3 := (HQ2.out.keep hbr).c3
                    clear HBXl
                    clear hte hbr
                    by_cases hlt : j < ptm
                    · have hlt' : (j : Int) < ptm := by omega
                      obtain ⟨⟨x0, x1⟩, hx⟩ : ∃ q, a.types[j]? = some q := ⟨_, List.getElem?_eq_getElem (by have := HLEN.out.2.1; omega)⟩
                      obtain ⟨⟨y0, y1⟩, hy⟩ : ∃ q, b.types[j]? = some q := ⟨_, List.getElem?_eq_getElem (by have := HLEN.out.2.2.2.2.2.1; omega)⟩
                      obtain ⟨_, _, ea, _, _, hca⟩ := HRA.out.ht
                      obtain ⟨_, _, eb, _, _, hcb⟩ := HRB.out.ht
                      injection ea with ea1 ea2 ea3
                      injection eb with eb1 eb2 eb3
                      subst ea1 ea3 eb1 eb3
                      obtain ⟨bl, off, rfl, hbl, hc⟩ := hca.resolve_left (by intro e; rw [e] at hx; simp at hx)
                      obtain ⟨bl', off', rfl, hbl', hc'⟩ := hcb.resolve_left (by intro e; rw [e] at hy; simp at hy)
                      have c0 := (HB3.out.cell (p := ⟨bl, off + j * 2 + 0, none⟩) (Nat.lt_of_lt_of_le hbl hB)).trans (hc j _ hx 0 _ rfl)
                      have d0 := (HB3.out.cell (p := ⟨bl', off' + j * 2 + 0, none⟩) (Nat.lt_of_lt_of_le hbl' hB)).trans (hc' j _ hy 0 _ rfl)
                      have c1 := (HB3.out.cell (p := ⟨bl, off + j * 2 + 1, none⟩) (Nat.lt_of_lt_of_le hbl hB)).trans (hc j _ hx 1 _ rfl)
                      have d1 := (HB3.out.cell (p := ⟨bl', off' + j * 2 + 1, none⟩) (Nat.lt_of_lt_of_le hbl' hB)).trans (hc' j _ hy 1 _ rfl)
                      rw [Nat.add_zero] at c0 d0
                      simp only at c0 d0 c1 d1
                      have fx0 : ∀ u : Up wr, u.x.cell? ⟨bl, off + j * 2, none⟩ = some (.string x0) := fun u => u.cell c0
                      have fy0 : ∀ u : Up wr, u.x.cell? ⟨bl', off' + j * 2, none⟩ = some (.string y0) := fun u => u.cell d0
                      have fx1 : ∀ u : Up wr, u.x.cell? ⟨bl, off + j * 2 + 1, none⟩ = some (.int .i64 x1) := fun u => u.cell c1
                      have fy1 : ∀ u : Up wr, u.x.cell? ⟨bl', off' + j * 2 + 1, none⟩ = some (.int .i64 y1) := fun u => u.cell d1
                      have fa : ∀ u : Up wr, u.x.cell? ⟨w.heap.size, 3, none⟩ = some (.slice (some ⟨bl, off, none⟩) ptm ptc) := fun u => u.cell f3
                      have fb : ∀ u : Up wr, u.x.cell? ⟨w.heap.size + 1, 3, none⟩ = some (.slice (some ⟨bl', off', none⟩) ptm qtc) := fun u => u.cell g3
                      have up_ne : Nonempty (Up wr) := ⟨⟨wr, Below.refl _ _⟩⟩
                      have HXY := hidE (And.intro hx hy)
                      clear hx hy hc hc' hca hcb c0 d0 c1 d1
                      by_cases e0 : x0 = y0
                      · subst e0
                        have b0 := str_yes (rfl : x0 = x0)
                        by_cases e1 : x1 = y1
                        · subst e1
                          have b1 : (x1 == x1) = true := beq_self_eq_true _
                          have HS := hidE (take_eq_step HTE.out HXY.out.1 HXY.out.2 rfl)
                          go_upto_region 11 with fail
                          clear f3 g3
                          refine wp_up (by kernel_rfl) (by kernel_rfl) ?_
                          repeat (go_big_quiet_step (fail))
                          refine wpQuiet_nil ?_
                          rintro w4 ⟨⟨W4, hb4⟩, rfl⟩
                          have HB4 := hidE (Below.on HBR.out hb4)
                          clear fx0 fy0 fx1 fy1 fa fb up_ne hb4
                          go_wp2_with fail
                          go_roundw
                          case rel => exact ⟨j + 1, by omega, by go_num, HS.out, HB4.out⟩
                          case measure => simp [intOf]; omega
                        · have b1 : (x1 == y1) = false := beq_eq_false_iff_ne.2 e1
                          have hne : a.types ≠ b.types := ne_at HXY.out.1 HXY.out.2 fun e => e1 (by injections)
                          have HF : Hid (D = false) := by
                            show _ = _
                            rw [← HD.out]
                            unfold sameB
                            rw [decide_eq_false hne]; simp
                          clear e1 hne
                          go_upto_region 11 with fail
                          clear f3 g3
                          refine wp_up (by kernel_rfl) (by kernel_rfl) ?_
                          repeat (go_big_quiet_step (fail))
                          refine wpQuiet_nil ?_
                          rintro w4 ⟨⟨W4, hb4⟩, rfl⟩
                          have HB4 := hidE (Below.on HBR.out hb4)
                          clear fx0 fy0 fx1 fy1 fa fb up_ne hb4
                          go_wp2_with fail
                          go_ret
                          exact ⟨by rw [HF.out]; rfl, Below.on HB2.out HB4.out⟩
                      · have b0 := str_no e0
                        have hne : a.types ≠ b.types := ne_at HXY.out.1 HXY.out.2 fun e => e0 (by injections)
                        have HF : Hid (D = false) := by
                          show _ = _
                          rw [← HD.out]
                          unfold sameB
                          rw [decide_eq_false hne]; simp
                        clear e0 hne
                        go_upto_region 11 with fail
                        clear f3 g3
                        refine wp_up (by kernel_rfl) (by kernel_rfl) ?_
                        repeat (go_big_quiet_step (fail))
                        refine wpQuiet_nil ?_
                        rintro w4 ⟨⟨W4, hb4⟩, rfl⟩
                        have HB4 := hidE (Below.on HBR.out hb4)
                        clear fx0 fy0 fx1 fy1 fa fb up_ne hb4
                        go_wp2_with fail
                        go_ret
                        exact ⟨by rw [HF.out]; rfl, Below.on HB2.out HB4.out⟩
                    · have hlt' : ¬ (j : Int) < ptm := by omega
                      have HEQt : Hid (a.types = b.types) := take_all_eq HTE.out (by have := HLEN.out.2.1; omega) (by have := HLEN.out.2.2.2.2.2.1; omega)
                      have HBXt := hidE HBR.out
                      have HBYt := hidE HB3.out
                      clear HTE HBR HB3 g3
                      have f4 := (HP2.out.keep HBXt.out).c4
                      go_wp2_with fail
                      clear f4
                      go_loopw [7] (fun i wr => ∃ (j : Nat), j ≤ pem ∧ i = .int .i64 j ∧ a.ends.take j = b.ends.take j ∧ Below W2.heap.size W2 wr) (fun i _ => pem - (intOf i).toNat)
                      case atStart => exact ⟨0, Nat.zero_le _, rfl, rfl, HBXt.out⟩
                      case round =>
                        obtain ⟨j, hj, rfl, hte, hbr⟩ := hrel
                        have HTE := hidE hte
                        have HBR := hidE hbr
                        have HB3 := hidE (Below.on HB2.out hbr)
                        have f4 := (HP2.out.keep hbr).c4
                        have g4 := (HQ2.out.keep hbr).c4
                        clear HBXt
                        clear hte hbr
                        by_cases hlt : j < pem
                        · have hlt' : (j : Int) < pem := by omega
                          obtain ⟨⟨x0, x1, x2, x3⟩, hx⟩ : ∃ q, a.ends[j]? = some q := ⟨_, List.getElem?_eq_getElem (by have := HLEN.out.2.2.1; omega)⟩
                          obtain ⟨⟨y0, y1, y2, y3⟩, hy⟩ : ∃ q, b.ends[j]? = some q := ⟨_, List.getElem?_eq_getElem (by have := HLEN.out.2.2.2.2.2.2.1; omega)⟩
                          obtain ⟨_, _, ea, _, _, hca⟩ := HRA.out.he
                          obtain ⟨_, _, eb, _, _, hcb⟩ := HRB.out.he
                          injection ea with ea1 ea2 ea3
                          injection eb with eb1 eb2 eb3
                          subst ea1 ea3 eb1 eb3
                          obtain ⟨bl, off, rfl, hbl, hc⟩ := hca.resolve_left (by intro e; rw [e] at hx; simp at hx)
                          obtain ⟨bl', off', rfl, hbl', hc'⟩ := hcb.resolve_left (by intro e; rw [e] at hy; simp at hy)
                          have c0 := (HB3.out.cell (p := ⟨bl, off + j * 4 + 0, none⟩) (Nat.lt_of_lt_of_le hbl hB)).trans (hc j _ hx 0 _ rfl)
                          have d0 := (HB3.out.cell (p := ⟨bl', off' + j * 4 + 0, none⟩) (Nat.lt_of_lt_of_le hbl' hB)).trans (hc' j _ hy 0 _ rfl)
                          have c1 := (HB3.out.cell (p := ⟨bl, off + j * 4 + 1, none⟩) (Nat.lt_of_lt_of_le hbl hB)).trans (hc j _ hx 1 _ rfl)
                          have d1 := (HB3.out.cell (p := ⟨bl', off' + j * 4 + 1, none⟩) (Nat.lt_of_lt_of_le hbl' hB)).trans (hc' j _ hy 1 _ rfl)
                          have c2 := (HB3.out.cell (p := ⟨bl, off + j * 4 + 2, none⟩) (Nat.lt_of_lt_of_le hbl hB)).trans (hc j _ hx 2 _ rfl)
                          have d2 := (HB3.out.cell (p := ⟨bl', off' + j * 4 + 2, none⟩) (Nat.lt_of_lt_of_le hbl' hB)).trans (hc' j _ hy 2 _ rfl)
                          have c3 := (HB3.out.cell (p := ⟨bl, off + j * 4 + 3, none⟩) (Nat.lt_of_lt_of_le hbl hB)).trans (hc j _ hx 3 _ rfl)
                          have d3 := (HB3.out.cell (p := ⟨bl', off' + j * 4 + 3, none⟩) (Nat.lt_of_lt_of_le hbl' hB)).trans (hc' j _ hy 3 _ rfl)
                          rw [Nat.add_zero] at c0 d0
                          simp only at c0 d0 c1 d1 c2 d2 c3 d3
                          have fx0 : ∀ u : Up wr, u.x.cell? ⟨bl, off + j * 4, none⟩ = some (.string x0) := fun u => u.cell c0
                          have fy0 : ∀ u : Up wr, u.x.cell? ⟨bl', off' + j * 4, none⟩ = some (.string y0) := fun u => u.cell d0
                          have fx1 : ∀ u : Up wr, u.x.cell? ⟨bl, off + j * 4 + 1, none⟩ = some (.string x1) := fun u => u.cell c1
                          have fy1 : ∀ u : Up wr, u.x.cell? ⟨bl', off' + j * 4 + 1, none⟩ = some (.string y1) := fun u => u.cell d1
                          have fx2 : ∀ u : Up wr, u.x.cell? ⟨bl, off + j * 4 + 2, none⟩ = some (.bool x2) := fun u => u.cell c2
                          have fy2 : ∀ u : Up wr, u.x.cell? ⟨bl', off' + j * 4 + 2, none⟩ = some (.bool y2) := fun u => u.cell d2
                          have fx3 : ∀ u : Up wr, u.x.cell? ⟨bl, off + j * 4 + 3, none⟩ = some (.int .i64 x3) := fun u => u.cell c3
                          have fy3 : ∀ u : Up wr, u.x.cell? ⟨bl', off' + j * 4 + 3, none⟩ = some (.int .i64 y3) := fun u => u.cell d3
                          have fa : ∀ u : Up wr, u.x.cell? ⟨w.heap.size, 4, none⟩ = some (.slice (some ⟨bl, off, none⟩) pem pec) := fun u => u.cell f4
                          have fb : ∀ u : Up wr, u.x.cell? ⟨w.heap.size + 1, 4, none⟩ = some (.slice (some ⟨bl', off', none⟩) pem qec) := fun u => u.cell g4
                          have up_ne : Nonempty (Up wr) := ⟨⟨wr, Below.refl _ _⟩⟩
                          have HXY := hidE (And.intro hx hy)
                          clear hx hy hc hc' hca hcb c0 d0 c1 d1 c2 d2 c3 d3
                          by_cases e0 : x0 = y0
                          · subst e0
                            have b0 := str_yes (rfl : x0 = x0)
                            by_cases e1 : x1 = y1
                            · subst e1
                              have b1 := str_yes (rfl : x1 = x1)
                              by_cases e2 : x2 = y2
                              · subst e2
                                have b2 : (x2 == x2) = true := beq_self_eq_true _
                                by_cases e3 : x3 = y3
                                · subst e3
                                  have b3 : (x3 == x3) = true := beq_self_eq_true _
                                  have HS := hidE (take_eq_step HTE.out HXY.out.1 HXY.out.2 rfl)
                                  go_upto_region 16 with fail
                                  clear f4 g4
                                  refine wp_up (by kernel_rfl) (by kernel_rfl) ?_
                                  repeat (go_big_quiet_step (fail))
                                  refine wpQuiet_nil ?_
                                  rintro w4 ⟨⟨W4, hb4⟩, rfl⟩
                                  have HB4 := hidE (Below.on HBR.out hb4)
                                  clear fx0 fy0 fx1 fy1 fx2 fy2 fx3 fy3 fa fb up_ne hb4
                                  go_wp2_with fail
                                  go_roundw
                                  case rel => exact ⟨j + 1, by omega, by go_num, HS.out, HB4.out⟩
                                  case measure => simp [intOf]; omega
                                · have b3 : (x3 == y3) = false := beq_eq_false_iff_ne.2 e3
                                  have hne : a.ends ≠ b.ends := ne_at HXY.out.1 HXY.out.2 fun e => e3 (by injections)
                                  have HF : Hid (D = false) := by
                                    show _ = _
                                    rw [← HD.out]
                                    unfold sameB
                                    rw [decide_eq_false hne]; simp
                                  clear e3 hne
                                  go_upto_region 16 with fail
                                  clear f4 g4
                                  refine wp_up (by kernel_rfl) (by kernel_rfl) ?_
                                  repeat (go_big_quiet_step (fail))
                                  refine wpQuiet_nil ?_
                                  rintro w4 ⟨⟨W4, hb4⟩, rfl⟩
                                  have HB4 := hidE (Below.on HBR.out hb4)
                                  clear fx0 fy0 fx1 fy1 fx2 fy2 fx3 fy3 fa fb up_ne hb4
                                  go_wp2_with fail
                                  go_ret
                                  exact ⟨by rw [HF.out]; rfl, Below.on HB2.out HB4.out⟩
                              · have b2 : (x2 == y2) = false := beq_eq_false_iff_ne.2 e2
                                have hne : a.ends ≠ b.ends := ne_at HXY.out.1 HXY.out.2 fun e => e2 (by injections)
                                have HF : Hid (D = false) := by
                                  show _ = _
                                  rw [← HD.out]
                                  unfold sameB
                                  rw [decide_eq_false hne]; simp
                                clear e2 hne
                                go_upto_region 16 with fail
                                clear f4 g4
                                refine wp_up (by kernel_rfl) (by kernel_rfl) ?_
                                repeat (go_big_quiet_step (fail))
                                refine wpQuiet_nil ?_
                                rintro w4 ⟨⟨W4, hb4⟩, rfl⟩
                                have HB4 := hidE (Below.on HBR.out hb4)
                                clear fx0 fy0 fx1 fy1 fx2 fy2 fx3 fy3 fa fb up_ne hb4
                                go_wp2_with fail
                                go_ret
                                exact ⟨by rw [HF.out]; rfl, Below.on HB2.out HB4.out⟩
                            · have b1 := str_no e1
                              have hne : a.ends ≠ b.ends := ne_at HXY.out.1 HXY.out.2 fun e => e1 (by injections)
                              have HF : Hid (D = false) := by
                                show _ = _
                                rw [← HD.out]
                                unfold sameB
                                rw [decide_eq_false hne]; simp
                              clear e1 hne
                              go_upto_region 16 with fail
                              clear f4 g4
                              refine wp_up (by kernel_rfl) (by kernel_rfl) ?_
                              repeat (go_big_quiet_step (fail))
                              refine wpQuiet_nil ?_
                              rintro w4 ⟨⟨W4, hb4⟩, rfl⟩
                              have HB4 := hidE (Below.on HBR.out hb4)
                              clear fx0 fy0 fx1 fy1 fx2 fy2 fx3 fy3 fa fb up_ne hb4
                              go_wp2_with fail
                              go_ret
                              exact ⟨by rw [HF.out]; rfl, Below.on HB2.out HB4.out⟩
                          · have b0 := str_no e0
                            have hne : a.ends ≠ b.ends := ne_at HXY.out.1 HXY.out.2 fun e => e0 (by injections)
                            have HF : Hid (D = false) := by
                              show _ = _
                              rw [← HD.out]
                              unfold sameB
                              rw [decide_eq_false hne]; simp
                            clear e0 hne
                            go_upto_region 16 with fail
                            clear f4 g4
                            refine wp_up (by kernel_rfl) (by kernel_rfl) ?_
                            repeat (go_big_quiet_step (fail))
                            refine wpQuiet_nil ?_
                            rintro w4 ⟨⟨W4, hb4⟩, rfl⟩
                            have HB4 := hidE (Below.on HBR.out hb4)
                            clear fx0 fy0 fx1 fy1 fx2 fy2 fx3 fy3 fa fb up_ne hb4
                            go_wp2_with fail
                            go_ret
                            exact ⟨by rw [HF.out]; rfl, Below.on HB2.out HB4.out⟩
                        · have hlt' : ¬ (j : Int) < pem := by omega
                          have HEQe : Hid (a.ends = b.ends) := take_all_eq HTE.out (by have := HLEN.out.2.2.1; omega) (by have := HLEN.out.2.2.2.2.2.2.1; omega)
                          have HBXe := hidE HBR.out
                          have HBYe := hidE HB3.out
                          clear HTE HBR HB3 g4
                          have f5 := (HP2.out.keep HBXe.out).c5
                          go_wp2_with fail
                          clear f5
                          go_loopw [8] (fun i wr => ∃ (j : Nat), j ≤ pkm ∧ i = .int .i64 j ∧ a.keys.take j = b.keys.take j ∧ Below W2.heap.size W2 wr) (fun i _ => pkm - (intOf i).toNat)
                          case atStart => exact ⟨0, Nat.zero_le _, rfl, rfl, HBXe.out⟩
                          case round =>
                            obtain ⟨j, hj, rfl, hte, hbr⟩ := hrel
                            have HTE := hidE hte
                            have HBR := hidE hbr
                            have HB3 := hidE (Below.on HB2.out hbr)
                            have f5 := (HP2.out.keep hbr).c5
                            have g5 := (HQ2.out.keep hbr).c5
                            clear HBXe
                            clear hte hbr
                            by_cases hlt : j < pkm
                            · have hlt' : (j : Int) < pkm := by omega
                              obtain ⟨⟨x0, x1, x2, x3⟩, hx⟩ : ∃ q, a.keys[j]? = some q := ⟨_, List.getElem?_eq_getElem (by have := HLEN.out.2.2.2.1; omega)⟩
                              obtain ⟨⟨y0, y1, y2, y3⟩, hy⟩ : ∃ q, b.keys[j]? = some q := ⟨_, List.getElem?_eq_getElem (by have := HLEN.out.2.2.2.2.2.2.2; omega)⟩
                              obtain ⟨_, _, ea, _, _, hca⟩ := HRA.out.hk
                              obtain ⟨_, _, eb, _, _, hcb⟩ := HRB.out.hk
                              injection ea with ea1 ea2 ea3
                              injection eb with eb1 eb2 eb3
                              subst ea1 ea3 eb1 eb3
                              obtain ⟨bl, off, rfl, hbl, hc⟩ := hca.resolve_left (by intro e; rw [e] at hx; simp at hx)
                              obtain ⟨bl', off', rfl, hbl', hc'⟩ := hcb.resolve_left (by intro e; rw [e] at hy; simp at hy)
                              have c0 := (HB3.out.cell (p := ⟨bl, off + j * 4 + 0, none⟩) (Nat.lt_of_lt_of_le hbl hB)).trans (hc j _ hx 0 _ rfl)
                              have d0 := (HB3.out.cell (p := ⟨bl', off' + j * 4 + 0, none⟩) (Nat.lt_of_lt_of_le hbl' hB)).trans (hc' j _ hy 0 _ rfl)
                              have c1 := (HB3.out.cell (p := ⟨bl, off + j * 4 + 1, none⟩) (Nat.lt_of_lt_of_le hbl hB)).trans (hc j _ hx 1 _ rfl)
                              have d1 := (HB3.out.cell (p := ⟨bl', off' + j * 4 + 1, none⟩) (Nat.lt_of_lt_of_le hbl' hB)).trans (hc' j _ hy 1 _ rfl)
                              have c2 := (HB3.out.cell (p := ⟨bl, off + j * 4 + 2, none⟩) (Nat.lt_of_lt_of_le hbl hB)).trans (hc j _ hx 2 _ rfl)
                              have d2 := (HB3.out.cell (p := ⟨bl', off' + j * 4 + 2, none⟩) (Nat.lt_of_lt_of_le hbl' hB)).trans (hc' j _ hy 2 _ rfl)
                              have c3 := (HB3.out.cell (p := ⟨bl, off + j * 4 + 3, none⟩) (Nat.lt_of_lt_of_le hbl hB)).trans (hc j _ hx 3 _ rfl)
                              have d3 := (HB3.out.cell (p := ⟨bl', off' + j * 4 + 3, none⟩) (Nat.lt_of_lt_of_le hbl' hB)).trans (hc' j _ hy 3 _ rfl)
                              rw [Nat.add_zero] at c0 d0
                              simp only at c0 d0 c1 d1 c2 d2 c3 d3
                              have fx0 : ∀ u : Up wr, u.x.cell? ⟨bl, off + j * 4, none⟩ = some (.string x0) := fun u => u.cell c0
                              have fy0 : ∀ u : Up wr, u.x.cell? ⟨bl', off' + j * 4, none⟩ = some (.string y0) := fun u => u.cell d0
                              have fx1 : ∀ u : Up wr, u.x.cell? ⟨bl, off + j * 4 + 1, none⟩ = some (.string x1) := fun u => u.cell c1
                              have fy1 : ∀ u : Up wr, u.x.cell? ⟨bl', off' + j * 4 + 1, none⟩ = some (.string y1) := fun u => u.cell d1
                              have fx2 : ∀ u : Up wr, u.x.cell? ⟨bl, off + j * 4 + 2, none⟩ = some (.int .i64 x2) := fun u => u.cell c2
                              have fy2 : ∀ u : Up wr, u.x.cell? ⟨bl', off' + j * 4 + 2, none⟩ = some (.int .i64 y2) := fun u => u.cell d2
                              have fx3 : ∀ u : Up wr, u.x.cell? ⟨bl, off + j * 4 + 3, none⟩ = some (.int .i64 x3) := fun u => u.cell c3
                              have fy3 : ∀ u : Up wr, u.x.cell? ⟨bl', off' + j * 4 + 3, none⟩ = some (.int .i64 y3) := fun u => u.cell d3
                              have fa : ∀ u : Up wr, u.x.cell? ⟨w.heap.size, 5, none⟩ = some (.slice (some ⟨bl, off, none⟩) pkm pkc) := fun u => u.cell f5
                              have fb : ∀ u : Up wr, u.x.cell? ⟨w.heap.size + 1, 5, none⟩ = some (.slice (some ⟨bl', off', none⟩) pkm qkc) := fun u => u.cell g5
                              have up_ne : Nonempty (Up wr) := ⟨⟨wr, Below.refl _ _⟩⟩
                              have HXY := hidE (And.intro hx hy)
                              clear hx hy hc hc' hca hcb c0 d0 c1 d1 c2 d2 c3 d3
                              by_cases e0 : x0 = y0
                              · subst e0
                                have b0 := str_yes (rfl : x0 = x0)
                                by_cases e1 : x1 = y1
                                · subst e1
                                  have b1 := str_yes (rfl : x1 = x1)
                                  by_cases e2 : x2 = y2
                                  · subst e2
                                    have b2 : (x2 == x2) = true := beq_self_eq_true _
                                    by_cases e3 : x3 = y3
                                    · subst e3
                                      have b3 : (x3 == x3) = true := beq_self_eq_true _
                                      have HS := hidE (take_eq_step HTE.out HXY.out.1 HXY.out.2 rfl)
                                      go_upto_region 21 with fail
                                      clear f5 g5
                                      refine wp_up (by kernel_rfl) (by kernel_rfl) ?_
                                      repeat (go_big_quiet_step (fail))
                                      refine wpQuiet_nil ?_
                                      rintro w4 ⟨⟨W4, hb4⟩, rfl⟩
                                      have HB4 := hidE (Below.on HBR.out hb4)
                                      clear fx0 fy0 fx1 fy1 fx2 fy2 fx3 fy3 fa fb up_ne hb4
                                      go_wp2_with fail
                                      go_roundw
                                      case rel => exact ⟨j + 1, by omega, by go_num, HS.out, HB4.out⟩
                                      case measure => simp [intOf]; omega
                                    · have b3 : (x3 == y3) = false := beq_eq_false_iff_ne.2 e3
                                      have hne : a.keys ≠ b.keys := ne_at HXY.out.1 HXY.out.2 fun e => e3 (by injections)
                                      have HF : Hid (D = false) := by
                                        show _ = _
                                        rw [← HD.out]
                                        unfold sameB
                                        rw [decide_eq_false hne]; simp
                                      clear e3 hne
                                      go_upto_region 21 with fail
                                      clear f5 g5
                                      refine wp_up (by kernel_rfl) (by kernel_rfl) ?_
                                      repeat (go_big_quiet_step (fail))
                                      refine wpQuiet_nil ?_
                                      rintro w4 ⟨⟨W4, hb4⟩, rfl⟩
                                      have HB4 := hidE (Below.on HBR.out hb4)
                                      clear fx0 fy0 fx1 fy1 fx2 fy2 fx3 fy3 fa fb up_ne hb4
                                      go_wp2_with fail
                                      go_ret
                                      exact ⟨by rw [HF.out]; rfl, Below.on HB2.out HB4.out⟩
                                  · have b2 : (x2 == y2) = false := beq_eq_false_iff_ne.2 e2
                                    have hne : a.keys ≠ b.keys := ne_at HXY.out.1 HXY.out.2 fun e => e2 (by injections)
                                    have HF : Hid (D = false) := by
                                      show _ = _
                                      rw [← HD.out]
                                      unfold sameB
                                      rw [decide_eq_false hne]; simp
                                    clear e2 hne
                                    go_upto_region 21 with fail
                                    clear f5 g5
                                    refine wp_up (by kernel_rfl) (by kernel_rfl) ?_
                                    repeat (go_big_quiet_step (fail))
                                    refine wpQuiet_nil ?_
                                    rintro w4 ⟨⟨W4, hb4⟩, rfl⟩
                                    have HB4 := hidE (Below.on HBR.out hb4)
                                    clear fx0 fy0 fx1 fy1 fx2 fy2 fx3 fy3 fa fb up_ne hb4
                                    go_wp2_with fail
                                    go_ret
                                    exact ⟨by rw [HF.out]; rfl, Below.on HB2.out HB4.out⟩
                                · have b1 := str_no e1
                                  have hne : a.keys ≠ b.keys := ne_at HXY.out.1 HXY.out.2 fun e => e1 (by injections)
                                  have HF : Hid (D = false) := by
                                    show _ = _
                                    rw [← HD.out]
                                    unfold sameB
                                    rw [decide_eq_false hne]; simp
                                  clear e1 hne
                                  go_upto_region 21 with fail
                                  clear f5 g5
                                  refine wp_up (by kernel_rfl) (by kernel_rfl) ?_
                                  repeat (go_big_quiet_step (fail))
                                  refine wpQuiet_nil ?_
                                  rintro w4 ⟨⟨W4, hb4⟩, rfl⟩
                                  have HB4 := hidE (Below.on HBR.out hb4)
                                  clear fx0 fy0 fx1 fy1 fx2 fy2 fx3 fy3 fa fb up_ne hb4
                                  go_wp2_with fail
                                  go_ret
                                  exact ⟨by rw [HF.out]; rfl, Below.on HB2.out HB4.out⟩
                              · have b0 := str_no e0
                                have hne : a.keys ≠ b.keys := ne_at HXY.out.1 HXY.out.2 fun e => e0 (by injections)
                                have HF : Hid (D = false) := by
                                  show _ = _
                                  rw [← HD.out]
                                  unfold sameB
                                  rw [decide_eq_false hne]; simp
                                clear e0 hne
                                go_upto_region 21 with fail
                                clear f5 g5
                                refine wp_up (by kernel_rfl) (by kernel_rfl) ?_
                                repeat (go_big_quiet_step (fail))
                                refine wpQuiet_nil ?_
                                rintro w4 ⟨⟨W4, hb4⟩, rfl⟩
                                have HB4 := hidE (Below.on HBR.out hb4)
                                clear fx0 fy0 fx1 fy1 fx2 fy2 fx3 fy3 fa fb up_ne hb4
                                go_wp2_with fail
                                go_ret
                                exact ⟨by rw [HF.out]; rfl, Below.on HB2.out HB4.out⟩
                            · have hlt' : ¬ (j : Int) < pkm := by omega
                              have HEQk : Hid (a.keys = b.keys) := take_all_eq HTE.out (by have := HLEN.out.2.2.2.1; omega) (by have := HLEN.out.2.2.2.2.2.2.2; omega)
                              have HBXk := hidE HBR.out
                              have HBYk := hidE HB3.out
                              clear HTE HBR HB3 g5
                              have HF : Hid (D = true) := by
                                show _ = _
                                rw [← HD.out]
                                unfold sameB
                                rw [HNR.out.1, HNR.out.2.1, HNR.out.2.2.1, HNR.out.2.2.2, HEQl.out, HEQt.out, HEQe.out, HEQk.out]
                                simp
                              go_wp2_with fail
                              go_ret
                              exact ⟨by rw [HF.out]; rfl, HBYk.out⟩
            · have bk : ((pkm : Int) == qkm) = false := beq_eq_false_iff_ne.2 (by omega)
              have bzk : ((pkm : Int) != qkm) = true := bne_iff_ne.2 (by omega)
              have hne : a.keys ≠ b.keys := fun e => ek (by rw [← HLEN.out.2.2.2.1, ← HLEN.out.2.2.2.2.2.2.2, e])
              have HF : Hid (D = false) := by
                show _ = _
                rw [← HD.out]
                unfold sameB
                rw [decide_eq_false hne]; simp
              clear hne
              have ezk : ¬ (pkm : Int) = qkm := by omega
              go_wp2_with fail
              all_goals first | (go_ret; exact ⟨by rw [HF.out]; rfl, HB2.out⟩) | (exfalso; simp_all; done) | (exfalso; omega)
          · have be : ((pem : Int) == qem) = false := beq_eq_false_iff_ne.2 (by omega)
            have bze : ((pem : Int) != qem) = true := bne_iff_ne.2 (by omega)
            have hne : a.ends ≠ b.ends := fun e => ee (by rw [← HLEN.out.2.2.1, ← HLEN.out.2.2.2.2.2.2.1, e])
            have HF : Hid (D = false) := by
              show _ = _
              rw [← HD.out]
              unfold sameB
              rw [decide_eq_false hne]; simp
            clear hne
            have eze : ¬ (pem : Int) = qem := by omega
            go_wp2_with fail
            all_goals first | (go_ret; exact ⟨by rw [HF.out]; rfl, HB2.out⟩) | (exfalso; simp_all; done) | (exfalso; omega)
        · have bt : ((ptm : Int) == qtm) = false := beq_eq_false_iff_ne.2 (by omega)
          have bzt : ((ptm : Int) != qtm) = true := bne_iff_ne.2 (by omega)
          have hne : a.types ≠ b.types := fun e => et (by rw [← HLEN.out.2.1, ← HLEN.out.2.2.2.2.2.1, e])
          have HF : Hid (D = false) := by
            show _ = _
            rw [← HD.out]
            unfold sameB
            rw [decide_eq_false hne]; simp
          clear hne
          have ezt : ¬ (ptm : Int) = qtm := by omega
          go_wp2_with fail
          all_goals first | (go_ret; exact ⟨by rw [HF.out]; rfl, HB2.out⟩) | (exfalso; simp_all; done) | (exfalso; omega)
      · have bl : ((plm : Int) == qlm) = false := beq_eq_false_iff_ne.2 (by omega)
        have bzl : ((plm : Int) != qlm) = true := bne_iff_ne.2 (by omega)
        have hne : a.labels ≠ b.labels := fun e => el (by rw [← HLEN.out.1, ← HLEN.out.2.2.2.2.1, e])
        have HF : Hid (D = false) := by
          show _ = _
          rw [← HD.out]
          unfold sameB
          rw [decide_eq_false hne]; simp
        clear hne
        have ezl : ¬ (plm : Int) = qlm := by omega
        go_wp2_with fail
        all_goals first | (go_ret; exact ⟨by rw [HF.out]; rfl, HB2.out⟩) | (exfalso; simp_all; done) | (exfalso; omega)
    · have br : (pr == qr) = false := beq_eq_false_iff_ne.2 er
      have bzr : (pr != qr) = true := bne_iff_ne.2 er
      have HF : Hid (D = false) := by
        show _ = _
        rw [← HD.out]
        unfold sameB
        rw [HNR.out.1, HNR.out.2.1, HNR.out.2.2.1, HNR.out.2.2.2, decide_eq_false er]; simp
      go_wp2_with fail
      all_goals first | (go_ret; exact ⟨by rw [HF.out]; rfl, HB2.out⟩) | (exfalso; simp_all; done) | (exfalso; omega)
  · have bn : (pn == qn) = false := beq_eq_false_iff_ne.2 en
    have bzn : (pn != qn) = true := bne_iff_ne.2 en
    have HF : Hid (D = false) := by
      show _ = _
      rw [← HD.out]
      unfold sameB
      rw [HNR.out.1, HNR.out.2.1, HNR.out.2.2.1, HNR.out.2.2.2, decide_eq_false en]; simp
    go_wp2_with fail
    all_goals first | (go_ret; exact ⟨by rw [HF.out]; rfl, HB2.out⟩) | (exfalso; simp_all; done) | (exfalso; omega)
end Go.Proofs.YthfilnflgahcjaaGreatDoor
