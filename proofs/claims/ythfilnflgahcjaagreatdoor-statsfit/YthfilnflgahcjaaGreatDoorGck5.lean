/- May a graph be: the program's word. -/
import Derived.Test.YthfilnflgahcjaaGreatDoorJoin21
namespace Go.Proofs.YthfilnflgahcjaaGreatDoor
open Go.RowKit Go.Shelf
set_option linter.unusedVariables false
set_option linter.unusedSimpArgs false
attribute [local go_sem] Oper.semAt_some
theorem i64_of {k : Int} (h1 : -9223372036854775808 ≤ k) (h2 : k ≤ 9223372036854775807) : I64 k := by
  have a : IntKind.i64.min = -9223372036854775808 := by kernel_rfl
  have b : IntKind.i64.max = 9223372036854775807 := by kernel_rfl
  unfold I64 Lit.wf
  simp [a, b]
  omega
/-- Numbers that rise lie between. -/
theorem riseI_all {next : Int} : ∀ {ks : List Int} {l : Int}, riseI next l ks = true → (∀ x ∈ ks, l ≤ x ∧ x < next) ∧ ks.Pairwise (· ≠ ·)
  | [], l, h => ⟨fun x hx => by simp at hx, List.Pairwise.nil⟩
  | y :: r, l, h => by
    rw [riseI] at h
    simp only [Bool.and_eq_true, Bool.not_eq_true', decide_eq_false_iff_not] at h
    obtain ⟨h1, h2, h3⟩ := h
    obtain ⟨h4, h5⟩ := riseI_all h3
    refine ⟨fun x hx => ?_, List.pairwise_cons.2 ⟨fun x hx => by have := h4 x hx; omega, h5⟩⟩
    rcases List.mem_cons.1 hx with rfl | hx
    · omega
    · have := h4 x hx; omega
/-- May a graph be: the six rules. -/
def checkPB (g : GraphP) : Bool := decide ((g.nodes.length : Int) + (g.rels.length : Int) ≤ 65536) && ((riseI g.nn 0 (g.nodes.map NodeP.id) && riseI g.nr 0 (g.rels.map RelP.id)) && (labelsB g.nodes && ((nodePropsB g.nodes && relPropsB g.rels) && (typesB g.rels && endsB (idsE g.nodes) g.rels))))
set_option maxRecDepth 100000 in
set_option maxHeartbeats 4000000 in
theorem checkP_any (g : GraphP) (B : Nat) (v : Value) (w : World) (hB : B ≤ w.heap.size) (hE : Env w) (hg : GraphLies B w v g) (hz : Mild g) (hn1 : -9223372036854775808 ≤ g.nn ∧ g.nn ≤ 9223372036854775807) (hn2 : -9223372036854775808 ≤ g.nr ∧ g.nr ≤ 9223372036854775807) (hi2 : ∀ r ∈ g.rels, I64 r.fr ∧ I64 r.tt) : Calls Tryz.prog 13 #[v] w fun e w' => e = .returned (.int .i64 (if checkPB g = true then 0 else 2)) ∧ Below w.heap.size w w' := by
  have HE := hidE hE
  obtain ⟨res, hres⟩ : ∃ r, checkPB g = r := ⟨_, rfl⟩
  rw [hres]
  obtain ⟨code, hcode⟩ : ∃ c : Int, (if res = true then 0 else 2) = c := ⟨_, rfl⟩
  rw [hcode]
  have HCD := hidE hcode
  clear hcode
  unfold checkPB at hres
  have hg0 := hg
  obtain ⟨na, nc, ra, rc, rfl, _, _⟩ := hg0
  have HC0 : Hid (∀ W, Below w.heap.size w W → Calls Tryz.prog 100 #[.agg #[.slice na g.nodes.length nc, .slice ra g.rels.length rc, .int .i64 g.nn, .int .i64 g.nr]] W fun e w' => e = .returned (.bool (decide ((g.nodes.length : Int) + (g.rels.length : Int) ≤ 65536))) ∧ Below W.heap.size W w') := fun W hb => gfew_any g B _ W (by have := hb.size; omega) (HE.out.below hb HE.out.room) (hg.below (hb.mono hB)) hz
  have HC1 : Hid (∀ W, Below w.heap.size w W → Calls Tryz.prog 101 #[.agg #[.slice na g.nodes.length nc, .slice ra g.rels.length rc, .int .i64 g.nn, .int .i64 g.nr]] W fun e w' => e = .returned (.bool ((riseI g.nn 0 (g.nodes.map NodeP.id) && riseI g.nr 0 (g.rels.map RelP.id)))) ∧ Below W.heap.size W w') := fun W hb => numbers_any g B _ W (by have := hb.size; omega) (hg.below (hb.mono hB)) hn1 hn2
  have HC2 : Hid (∀ W, Below w.heap.size w W → Calls Tryz.prog 102 #[.agg #[.slice na g.nodes.length nc, .slice ra g.rels.length rc, .int .i64 g.nn, .int .i64 g.nr]] W fun e w' => e = .returned (.bool (labelsB g.nodes)) ∧ Below W.heap.size W w') := fun W hb => labels_any g B _ W (by have := hb.size; omega) (HE.out.below hb HE.out.room) (hg.below (hb.mono hB)) hz
  have HC3 : Hid (∀ W, Below w.heap.size w W → Calls Tryz.prog 103 #[.agg #[.slice na g.nodes.length nc, .slice ra g.rels.length rc, .int .i64 g.nn, .int .i64 g.nr]] W fun e w' => e = .returned (.bool ((nodePropsB g.nodes && relPropsB g.rels))) ∧ Below W.heap.size W w') := fun W hb => props_any g B _ W (by have := hb.size; omega) (HE.out.below hb HE.out.room) (hg.below (hb.mono hB)) hz
  have HC4 : Hid (∀ W, Below w.heap.size w W → Calls Tryz.prog 104 #[.agg #[.slice na g.nodes.length nc, .slice ra g.rels.length rc, .int .i64 g.nn, .int .i64 g.nr]] W fun e w' => e = .returned (.bool (typesB g.rels)) ∧ Below W.heap.size W w') := fun W hb => types_any g B _ W (by have := hb.size; omega) (HE.out.below hb HE.out.room) (hg.below (hb.mono hB)) hz
  have HC5 : Hid ((riseI g.nn 0 (g.nodes.map NodeP.id) && riseI g.nr 0 (g.rels.map RelP.id)) = true → ∀ W, Below w.heap.size w W → Calls Tryz.prog 105 #[.agg #[.slice na g.nodes.length nc, .slice ra g.rels.length rc, .int .i64 g.nn, .int .i64 g.nr]] W fun e w' => e = .returned (.bool (endsB (idsE g.nodes) g.rels)) ∧ Below W.heap.size W w') := fun hk W hb => by
    have hk1 := riseI_all (Bool.and_eq_true_iff.1 hk).1
    exact gends_any g B _ W (by have := hb.size; omega) (hg.below (hb.mono hB)) hk1.2 (fun n hn => by
      have := hk1.1 n.id (List.mem_map_of_mem hn)
      exact i64_of (by omega) (by omega)) hi2
  obtain ⟨b0, hb0⟩ : ∃ b, decide ((g.nodes.length : Int) + (g.rels.length : Int) ≤ 65536) = b := ⟨_, rfl⟩
  obtain ⟨b1, hb1⟩ : ∃ b, (riseI g.nn 0 (g.nodes.map NodeP.id) && riseI g.nr 0 (g.rels.map RelP.id)) = b := ⟨_, rfl⟩
  obtain ⟨b2, hb2⟩ : ∃ b, labelsB g.nodes = b := ⟨_, rfl⟩
  obtain ⟨b3, hb3⟩ : ∃ b, (nodePropsB g.nodes && relPropsB g.rels) = b := ⟨_, rfl⟩
  obtain ⟨b4, hb4⟩ : ∃ b, typesB g.rels = b := ⟨_, rfl⟩
  obtain ⟨b5, hb5⟩ : ∃ b, endsB (idsE g.nodes) g.rels = b := ⟨_, rfl⟩
  rw [hb0] at HC0
  rw [hb1] at HC1
  rw [hb2] at HC2
  rw [hb3] at HC3
  rw [hb4] at HC4
  rw [hb1, hb5] at HC5
  rw [hb0, hb1, hb2, hb3, hb4, hb5] at hres
  have HR := hidE hres
  clear hb0 hb1 hb2 hb3 hb4 hb5 hres hg hz hn1 hn2 hi2
  obtain ⟨ns, rs, nn, nr⟩ := g
  simp only at HC0 HC1 HC2 HC3 HC4 HC5 ⊢
  generalize ns.length = n at *
  generalize rs.length = m at *
  go_enter Tryz.func13, Tryz.ntmps13
  go_upto_region 1 with fail
  generalize hW1 : World.alloc _ _ = W1
  have hr1 := rec_new w #[.slice na n nc, .slice ra m rc, .int .i64 nn, .int .i64 nr] 25
  rw [hW1] at hr1
  have HB1 : Hid (Below w.heap.size w W1) := by rw [← hW1]; exact (Below.refl _ _).alloc (Nat.le_refl _) _
  have HR1 := hidE hr1
  clear hW1 hr1
  go_wp2_with fail
  refine (rules_any _).mono ?_
  rintro e w2 ⟨rfl, hb2, ht2⟩
  have HC2w := hidE hb2
  have HT := hidE ht2
  obtain ⟨p, hp⟩ : ∃ p, W1.heap.size = p := ⟨_, rfl⟩
  have hpl : p < w2.heap.size := by
    rw [← hp]
    exact lt_of_cell (ht2 0 _ rfl)
  rw [hp] at HT ⊢
  clear hb2 ht2 hp
  go_wp2_with fail
  go_loopw [7] (fun x wr => ∃ q : Nat, q ≤ 6 ∧ x = .int .i64 q ∧ Below w2.heap.size w2 wr ∧ (([b0, b1, b2, b3, b4, b5].drop q).all id) = res ∧ (2 ≤ q → b1 = true)) (fun x _ => 6 - (intOf x).toNat)
  case atStart => exact ⟨0, by omega, rfl, Below.refl _ _, by rw [← HR.out]; simp, fun h => by omega⟩
  case round =>
    obtain ⟨q, hq, rfl, hb, hrs, hq2⟩ := hrel
    have HB := hidE hb
    have HRS := hidE hrs
    have HQ2 := hidE hq2
    have HBW := hidE (below_on HB1.out (below_on HC2w.out hb))
    have hrec := HR1.out.below (below_on HC2w.out hb) HR1.out.lt
    have a0 := hrec.cell 0 rfl
    have a1 := hrec.cell 1 rfl
    have a2 := hrec.cell 2 rfl
    have a3 := hrec.cell 3 rfl
    clear hb hrs hq2 hrec
    have hcs : q = 0 ∨ q = 1 ∨ q = 2 ∨ q = 3 ∨ q = 4 ∨ q = 5 ∨ q = 6 := by omega
    rcases hcs with rfl | rfl | rfl | rfl | rfl | rfl | rfl
    · have k0 := cell_below HB.out (Nat.le_refl _) (HT.out 0 _ rfl)
      have HCX := hidE (HC0.out wr HBW.out)
      go_wp2_with fail
      refine HCX.out.mono ?_
      rintro e w3 ⟨rfl, hb3⟩
      have HB3 := hidE (below_on HB.out hb3)
      have HBW3 := hidE (below_on HBW.out hb3)
      clear hb3 a0 a1 a2 a3 k0 HCX
      cases b0 with
      | false =>
        have HF : Hid (code = 2) := by
          show _ = _
          have e : res = false := by rw [← HRS.out]; rfl
          rw [← HCD.out, e]; rfl
        go_wp2_with fail
        go_ret
        exact ⟨by rw [HF.out]; rfl, HBW3.out⟩
      | true =>
        have HN2 := hidE HRS.out
        go_wp2_with fail
        go_roundw
        case rel => exact ⟨1, by omega, rfl, HB3.out, HN2.out, fun h => by omega⟩
        case measure => simp [intOf]
    · have k0 := cell_below HB.out (Nat.le_refl _) (HT.out 1 _ rfl)
      have HCX := hidE (HC1.out wr HBW.out)
      go_wp2_with fail
      refine HCX.out.mono ?_
      rintro e w3 ⟨rfl, hb3⟩
      have HB3 := hidE (below_on HB.out hb3)
      have HBW3 := hidE (below_on HBW.out hb3)
      clear hb3 a0 a1 a2 a3 k0 HCX
      cases b1 with
      | false =>
        have HF : Hid (code = 2) := by
          show _ = _
          have e : res = false := by rw [← HRS.out]; rfl
          rw [← HCD.out, e]; rfl
        go_wp2_with fail
        go_ret
        exact ⟨by rw [HF.out]; rfl, HBW3.out⟩
      | true =>
        have HN2 := hidE HRS.out
        go_wp2_with fail
        go_roundw
        case rel => exact ⟨2, by omega, rfl, HB3.out, HN2.out, fun h => trivial⟩
        case measure => simp [intOf]
    · have k0 := cell_below HB.out (Nat.le_refl _) (HT.out 2 _ rfl)
      have HCX := hidE (HC2.out wr HBW.out)
      go_wp2_with fail
      refine HCX.out.mono ?_
      rintro e w3 ⟨rfl, hb3⟩
      have HB3 := hidE (below_on HB.out hb3)
      have HBW3 := hidE (below_on HBW.out hb3)
      clear hb3 a0 a1 a2 a3 k0 HCX
      cases b2 with
      | false =>
        have HF : Hid (code = 2) := by
          show _ = _
          have e : res = false := by rw [← HRS.out]; rfl
          rw [← HCD.out, e]; rfl
        go_wp2_with fail
        go_ret
        exact ⟨by rw [HF.out]; rfl, HBW3.out⟩
      | true =>
        have HN2 := hidE HRS.out
        go_wp2_with fail
        go_roundw
        case rel => exact ⟨3, by omega, rfl, HB3.out, HN2.out, fun h => HQ2.out (by omega)⟩
        case measure => simp [intOf]
    · have k0 := cell_below HB.out (Nat.le_refl _) (HT.out 3 _ rfl)
      have HCX := hidE (HC3.out wr HBW.out)
      go_wp2_with fail
      refine HCX.out.mono ?_
      rintro e w3 ⟨rfl, hb3⟩
      have HB3 := hidE (below_on HB.out hb3)
      have HBW3 := hidE (below_on HBW.out hb3)
      clear hb3 a0 a1 a2 a3 k0 HCX
      cases b3 with
      | false =>
        have HF : Hid (code = 2) := by
          show _ = _
          have e : res = false := by rw [← HRS.out]; rfl
          rw [← HCD.out, e]; rfl
        go_wp2_with fail
        go_ret
        exact ⟨by rw [HF.out]; rfl, HBW3.out⟩
      | true =>
        have HN2 := hidE HRS.out
        go_wp2_with fail
        go_roundw
        case rel => exact ⟨4, by omega, rfl, HB3.out, HN2.out, fun h => HQ2.out (by omega)⟩
        case measure => simp [intOf]
    · have k0 := cell_below HB.out (Nat.le_refl _) (HT.out 4 _ rfl)
      have HCX := hidE (HC4.out wr HBW.out)
      go_wp2_with fail
      refine HCX.out.mono ?_
      rintro e w3 ⟨rfl, hb3⟩
      have HB3 := hidE (below_on HB.out hb3)
      have HBW3 := hidE (below_on HBW.out hb3)
      clear hb3 a0 a1 a2 a3 k0 HCX
      cases b4 with
      | false =>
        have HF : Hid (code = 2) := by
          show _ = _
          have e : res = false := by rw [← HRS.out]; rfl
          rw [← HCD.out, e]; rfl
        go_wp2_with fail
        go_ret
        exact ⟨by rw [HF.out]; rfl, HBW3.out⟩
      | true =>
        have HN2 := hidE HRS.out
        go_wp2_with fail
        go_roundw
        case rel => exact ⟨5, by omega, rfl, HB3.out, HN2.out, fun h => HQ2.out (by omega)⟩
        case measure => simp [intOf]
    · have k0 := cell_below HB.out (Nat.le_refl _) (HT.out 5 _ rfl)
      have HCX := hidE (HC5.out (HQ2.out (by omega)) wr HBW.out)
      go_wp2_with fail
      refine HCX.out.mono ?_
      rintro e w3 ⟨rfl, hb3⟩
      have HB3 := hidE (below_on HB.out hb3)
      have HBW3 := hidE (below_on HBW.out hb3)
      clear hb3 a0 a1 a2 a3 k0 HCX
      cases b5 with
      | false =>
        have HF : Hid (code = 2) := by
          show _ = _
          have e : res = false := by rw [← HRS.out]; rfl
          rw [← HCD.out, e]; rfl
        go_wp2_with fail
        go_ret
        exact ⟨by rw [HF.out]; rfl, HBW3.out⟩
      | true =>
        have HN2 := hidE HRS.out
        go_wp2_with fail
        go_roundw
        case rel => exact ⟨6, by omega, rfl, HB3.out, HN2.out, fun h => HQ2.out (by omega)⟩
        case measure => simp [intOf]
    · have HF : Hid (code = 0) := by
        show _ = _
        have e : res = true := by rw [← HRS.out]; rfl
        rw [← HCD.out, e]; rfl
      go_wp2_with fail
      go_ret
      exact ⟨by rw [HF.out]; rfl, HBW.out⟩
end Go.Proofs.YthfilnflgahcjaaGreatDoor
