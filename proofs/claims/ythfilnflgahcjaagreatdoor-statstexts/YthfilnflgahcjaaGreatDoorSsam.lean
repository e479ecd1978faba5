/- Counts held against each other. -/
import Derived.Test.YthfilnflgahcjaaGreatDoorSequ
import Derived.Test.YthfilnflgahcjaaGreatDoorJoin7
namespace Go.Proofs.YthfilnflgahcjaaGreatDoor
open Go.RowKit Go.Shelf Go.Maps
set_option linter.unusedVariables false
set_option linter.unusedSimpArgs false
attribute [local go_sem] Oper.semAt_some
def sameB (a b : StatP) : Bool := decide (a.nodes = b.nodes) && (decide (a.rels = b.rels) && (decide (a.labels = b.labels) && (decide (a.types = b.types) && (decide (a.ends = b.ends) && decide (a.keys = b.keys)))))
theorem sameB_comm (a b : StatP) : sameB a b = sameB b a := by
  unfold sameB
  simp only [eq_comm]
theorem sameB_self (a : StatP) : sameB a a = true := by simp [sameB]
set_option maxRecDepth 100000 in
set_option maxHeartbeats 16000000 in
theorem same_any38 (a b : StatP) (vl vt ve vk ul ut ue uk : Value) (B : Nat) (w : World) (hB : B ≤ w.heap.size) (ha : StatL B w vl vt ve vk a) (hb : StatL B w ul ut ue uk b) : Calls Tryz.prog 38 #[statV a vl vt ve vk, statV b ul ut ue uk] w fun e w' => e = .returned (.bool (sameB a b)) ∧ Below w.heap.size w w' := by
  obtain ⟨pla, plc, rfl, pl1, pl2, -⟩ := ha.hl
  obtain ⟨pta, ptc, rfl, pt1, pt2, -⟩ := ha.ht
  obtain ⟨pea, pec, rfl, pe1, pe2, -⟩ := ha.he
  obtain ⟨pka, pkc, rfl, pk1, pk2, -⟩ := ha.hk
  obtain ⟨qla, qlc, rfl, ql1, ql2, -⟩ := hb.hl
  obtain ⟨qta, qtc, rfl, qt1, qt2, -⟩ := hb.ht
  obtain ⟨qea, qec, rfl, qe1, qe2, -⟩ := hb.he
  obtain ⟨qka, qkc, rfl, qk1, qk2, -⟩ := hb.hk
  unfold statV
  obtain ⟨pn, hpn⟩ : ∃ n, a.nodes = n := ⟨_, rfl⟩
  obtain ⟨pr, hpr⟩ : ∃ n, a.rels = n := ⟨_, rfl⟩
  obtain ⟨plm, hplm⟩ : ∃ n, a.labels.length = n := ⟨_, rfl⟩
  obtain ⟨ptm, hptm⟩ : ∃ n, a.types.length = n := ⟨_, rfl⟩
  obtain ⟨pem, hpem⟩ : ∃ n, a.ends.length = n := ⟨_, rfl⟩
  obtain ⟨pkm, hpkm⟩ : ∃ n, a.keys.length = n := ⟨_, rfl⟩
  obtain ⟨qn, hqn⟩ : ∃ n, b.nodes = n := ⟨_, rfl⟩
  obtain ⟨qr, hqr⟩ : ∃ n, b.rels = n := ⟨_, rfl⟩
  obtain ⟨qlm, hqlm⟩ : ∃ n, b.labels.length = n := ⟨_, rfl⟩
  obtain ⟨qtm, hqtm⟩ : ∃ n, b.types.length = n := ⟨_, rfl⟩
  obtain ⟨qem, hqem⟩ : ∃ n, b.ends.length = n := ⟨_, rfl⟩
  obtain ⟨qkm, hqkm⟩ : ∃ n, b.keys.length = n := ⟨_, rfl⟩
  have HLEN := hidE (And.intro hplm (And.intro hptm (And.intro hpem (And.intro hpkm (And.intro hqlm (And.intro hqtm (And.intro hqem hqkm)))))))
  have HNR := hidE (And.intro hpn (And.intro hpr (And.intro hqn hqr)))
  obtain ⟨D, hD⟩ : ∃ D, sameB a b = D := ⟨_, rfl⟩
  have HD := hidE hD
  rw [hD]
  have HRA := hidE ha
  have HRB := hidE hb
  rw [hplm] at pl1 HRA
  rw [hptm] at pt1 HRA
  rw [hpem] at pe1 HRA
  rw [hpkm] at pk1 HRA
  rw [hqlm] at ql1 HRB
  rw [hqtm] at qt1 HRB
  rw [hqem] at qe1 HRB
  rw [hqkm] at qk1 HRB
  rw [hpn, hpr, hqn, hqr, hplm, hptm, hpem, hpkm, hqlm, hqtm, hqem, hqkm]
  clear ha hb hD hpn hpr hqn hqr hplm hptm hpem hpkm hqlm hqtm hqem hqkm
  obtain ⟨el, hel⟩ : ∃ z, decide (a.labels = b.labels) = z := ⟨_, rfl⟩
  have H78 : Hid (∀ W, Below w.heap.size w W → Calls Tryz.prog 78 #[.slice pla plm plc, .slice qla qlm qlc] W fun e w' => e = .returned (.bool el) ∧ Below W.heap.size W w') := fun W hb => by rw [← hel]; exact eq78_any a.labels b.labels _ _ B W (Nat.le_trans hB hb.size) (HRA.out.hl.keep (hb.mono hB)) (HRB.out.hl.keep (hb.mono hB))
  obtain ⟨et, het⟩ : ∃ z, decide (a.types = b.types) = z := ⟨_, rfl⟩
  have H79 : Hid (∀ W, Below w.heap.size w W → Calls Tryz.prog 79 #[.slice pta ptm ptc, .slice qta qtm qtc] W fun e w' => e = .returned (.bool et) ∧ Below W.heap.size W w') := fun W hb => by rw [← het]; exact eq79_any a.types b.types _ _ B W (Nat.le_trans hB hb.size) (HRA.out.ht.keep (hb.mono hB)) (HRB.out.ht.keep (hb.mono hB))
  obtain ⟨ee, hee⟩ : ∃ z, decide (a.ends = b.ends) = z := ⟨_, rfl⟩
  have H80 : Hid (∀ W, Below w.heap.size w W → Calls Tryz.prog 80 #[.slice pea pem pec, .slice qea qem qec] W fun e w' => e = .returned (.bool ee) ∧ Below W.heap.size W w') := fun W hb => by rw [← hee]; exact eq80_any a.ends b.ends _ _ B W (Nat.le_trans hB hb.size) (HRA.out.he.keep (hb.mono hB)) (HRB.out.he.keep (hb.mono hB))
  obtain ⟨ek, hek⟩ : ∃ z, decide (a.keys = b.keys) = z := ⟨_, rfl⟩
  have H81 : Hid (∀ W, Below w.heap.size w W → Calls Tryz.prog 81 #[.slice pka pkm pkc, .slice qka qkm qkc] W fun e w' => e = .returned (.bool ek) ∧ Below W.heap.size W w') := fun W hb => by rw [← hek]; exact eq81_any a.keys b.keys _ _ B W (Nat.le_trans hB hb.size) (HRA.out.hk.keep (hb.mono hB)) (HRB.out.hk.keep (hb.mono hB))
  have HDD : Hid (D = (decide (pn = qn) && (decide (pr = qr) && (el && (et && (ee && ek)))))) := by
    show _ = _
    rw [← HD.out]
    unfold sameB
    rw [HNR.out.1, HNR.out.2.1, HNR.out.2.2.1, HNR.out.2.2.2, hel, het, hee, hek]
  clear hel het hee hek HD HNR HLEN HRA HRB
  go_enter Tryz.func38, Tryz.ntmps38
  go_upto_region 1 with fail
  obtain ⟨W1, hW1⟩ : ∃ W, w.alloc (.cells #[.int .i64 pn, .int .i64 pr, .slice pla plm plc, .slice pta ptm ptc, .slice pea pem pec, .slice pka pkm pkc] 33) = W := ⟨_, rfl⟩
  have hz1 : W1.heap.size = w.heap.size + 1 := by rw [← hW1]; simp
  have HP0 := hidE (sbox_new w (.int .i64 pn) (.int .i64 pr) (.slice pla plm plc) (.slice pta ptm ptc) (.slice pea pem pec) (.slice pka pkm pkc) 33)
  have HB1 := hidE (below_new w (.cells #[.int .i64 pn, .int .i64 pr, .slice pla plm plc, .slice pta ptm ptc, .slice pea pem pec, .slice pka pkm pkc] 33))
  rw [hW1] at HP0 HB1
  obtain ⟨W2, hW2⟩ : ∃ W, W1.alloc (.cells #[.int .i64 qn, .int .i64 qr, .slice qla qlm qlc, .slice qta qtm qtc, .slice qea qem qec, .slice qka qkm qkc] 33) = W := ⟨_, rfl⟩
  have HQ2 := hidE (sbox_new W1 (.int .i64 qn) (.int .i64 qr) (.slice qla qlm qlc) (.slice qta qtm qtc) (.slice qea qem qec) (.slice qka qkm qkc) 33)
  have HB12 := hidE (below_new W1 (.cells #[.int .i64 qn, .int .i64 qr, .slice qla qlm qlc, .slice qta qtm qtc, .slice qea qem qec, .slice qka qkm qkc] 33))
  rw [hW2] at HQ2 HB12
  rw [hz1] at HQ2
  have HP2 := hidE (HP0.out.keep HB12.out)
  have HB2 := hidE (Below.on HB1.out HB12.out)
  try rw [hW1]
  try rw [hW2]
  clear hW1 hW2 hz1 HP0 HB1 HB12
  have f0 := HP2.out.c0
  have g0 := HQ2.out.c0
  have f1 := HP2.out.c1
  have g1 := HQ2.out.c1
  have f2 := HP2.out.c2
  have g2 := HQ2.out.c2
  by_cases en : pn = qn
  · subst en
    by_cases er : pr = qr
    · subst er
      cases el
      · have HE0 := hidE HB2.out
        go_wp2_with (first | (go_at_call 78; refine (H78.out _ HE0.out).mono ?_; rintro e u40 ⟨rfl, y⟩; have HC0 := hidE (Below.on (Below.refl W2.heap.size W2) y); have HE1 := hidE (Below.on HE0.out y); have f3 := (HP2.out.keep HC0.out).c3; have g3 := (HQ2.out.keep HC0.out).c3; clear y))
        go_ret
        exact ⟨by rw [HDD.out]; simp, HE1.out⟩
      · cases et
        · have HE0 := hidE HB2.out
          go_wp2_with (first | (go_at_call 78; refine (H78.out _ HE0.out).mono ?_; rintro e u40 ⟨rfl, y⟩; have HC0 := hidE (Below.on (Below.refl W2.heap.size W2) y); have HE1 := hidE (Below.on HE0.out y); have f3 := (HP2.out.keep HC0.out).c3; have g3 := (HQ2.out.keep HC0.out).c3; clear y) | (go_at_call 79; refine (H79.out _ HE1.out).mono ?_; rintro e u41 ⟨rfl, y⟩; have HC1 := hidE (Below.on (HC0.out) y); have HE2 := hidE (Below.on HE1.out y); have f4 := (HP2.out.keep HC1.out).c4; have g4 := (HQ2.out.keep HC1.out).c4; clear y))
          go_ret
          exact ⟨by rw [HDD.out]; simp, HE2.out⟩
        · cases ee
          · have HE0 := hidE HB2.out
            go_wp2_with (first | (go_at_call 78; refine (H78.out _ HE0.out).mono ?_; rintro e u40 ⟨rfl, y⟩; have HC0 := hidE (Below.on (Below.refl W2.heap.size W2) y); have HE1 := hidE (Below.on HE0.out y); have f3 := (HP2.out.keep HC0.out).c3; have g3 := (HQ2.out.keep HC0.out).c3; clear y) | (go_at_call 79; refine (H79.out _ HE1.out).mono ?_; rintro e u41 ⟨rfl, y⟩; have HC1 := hidE (Below.on (HC0.out) y); have HE2 := hidE (Below.on HE1.out y); have f4 := (HP2.out.keep HC1.out).c4; have g4 := (HQ2.out.keep HC1.out).c4; clear y) | (go_at_call 80; refine (H80.out _ HE2.out).mono ?_; rintro e u42 ⟨rfl, y⟩; have HC2 := hidE (Below.on (HC1.out) y); have HE3 := hidE (Below.on HE2.out y); have f5 := (HP2.out.keep HC2.out).c5; have g5 := (HQ2.out.keep HC2.out).c5; clear y))
            go_ret
            exact ⟨by rw [HDD.out]; simp, HE3.out⟩
          · cases ek
            · have HE0 := hidE HB2.out
              go_wp2_with (first | (go_at_call 78; refine (H78.out _ HE0.out).mono ?_; rintro e u40 ⟨rfl, y⟩; have HC0 := hidE (Below.on (Below.refl W2.heap.size W2) y); have HE1 := hidE (Below.on HE0.out y); have f3 := (HP2.out.keep HC0.out).c3; have g3 := (HQ2.out.keep HC0.out).c3; clear y) | (go_at_call 79; refine (H79.out _ HE1.out).mono ?_; rintro e u41 ⟨rfl, y⟩; have HC1 := hidE (Below.on (HC0.out) y); have HE2 := hidE (Below.on HE1.out y); have f4 := (HP2.out.keep HC1.out).c4; have g4 := (HQ2.out.keep HC1.out).c4; clear y) | (go_at_call 80; refine (H80.out _ HE2.out).mono ?_; rintro e u42 ⟨rfl, y⟩; have HC2 := hidE (Below.on (HC1.out) y); have HE3 := hidE (Below.on HE2.out y); have f5 := (HP2.out.keep HC2.out).c5; have g5 := (HQ2.out.keep HC2.out).c5; clear y) | (go_at_call 81; refine (H81.out _ HE3.out).mono ?_; rintro e u43 ⟨rfl, y⟩; have HC3 := hidE (Below.on (HC2.out) y); have HE4 := hidE (Below.on HE3.out y); clear y))
              go_ret
              exact ⟨by rw [HDD.out]; simp, HE4.out⟩
            · have HE0 := hidE HB2.out
              go_wp2_with (first | (go_at_call 78; refine (H78.out _ HE0.out).mono ?_; rintro e u40 ⟨rfl, y⟩; have HC0 := hidE (Below.on (Below.refl W2.heap.size W2) y); have HE1 := hidE (Below.on HE0.out y); have f3 := (HP2.out.keep HC0.out).c3; have g3 := (HQ2.out.keep HC0.out).c3; clear y) | (go_at_call 79; refine (H79.out _ HE1.out).mono ?_; rintro e u41 ⟨rfl, y⟩; have HC1 := hidE (Below.on (HC0.out) y); have HE2 := hidE (Below.on HE1.out y); have f4 := (HP2.out.keep HC1.out).c4; have g4 := (HQ2.out.keep HC1.out).c4; clear y) | (go_at_call 80; refine (H80.out _ HE2.out).mono ?_; rintro e u42 ⟨rfl, y⟩; have HC2 := hidE (Below.on (HC1.out) y); have HE3 := hidE (Below.on HE2.out y); have f5 := (HP2.out.keep HC2.out).c5; have g5 := (HQ2.out.keep HC2.out).c5; clear y) | (go_at_call 81; refine (H81.out _ HE3.out).mono ?_; rintro e u43 ⟨rfl, y⟩; have HC3 := hidE (Below.on (HC2.out) y); have HE4 := hidE (Below.on HE3.out y); clear y))
              go_ret
              exact ⟨by rw [HDD.out]; simp, HE4.out⟩
    · have br : (pr == qr) = false := beq_eq_false_iff_ne.2 er
      have HDF : Hid (D = false) := by
        show _ = _
        rw [HDD.out, decide_eq_false er]; simp
      clear er
      go_wp2_with fail
      go_ret
      exact ⟨by rw [HDF.out]; rfl, HB2.out⟩
  · have bn : (pn == qn) = false := beq_eq_false_iff_ne.2 en
    have HDF : Hid (D = false) := by
      show _ = _
      rw [HDD.out, decide_eq_false en]; simp
    clear en
    go_wp2_with fail
    go_ret
    exact ⟨by rw [HDF.out]; rfl, HB2.out⟩
end Go.Proofs.YthfilnflgahcjaaGreatDoor
