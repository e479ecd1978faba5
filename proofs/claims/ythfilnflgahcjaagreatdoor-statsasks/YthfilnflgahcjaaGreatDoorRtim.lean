/- The reference's product. -/
import Derived.Test.YthfilnflgahcjaaGreatDoorRcut
import Derived.Test.YthfilnflgahcjaaGreatDoorWd
import Derived.Test.YthfilnflgahcjaaGreatDoorStim
import Derived.Test.YthfilnflgahcjaaGreatDoorJoin1
import Derived.Test.YthfilnflgahcjaaGreatDoorJoin15
namespace Go.Proofs.YthfilnflgahcjaaGreatDoor
open Go.RowKit Go.Shelf
set_option linter.unusedVariables false
set_option linter.unusedSimpArgs false
attribute [local go_sem] Oper.semAt_some
/-- A number of any size, cut. -/
def wideI (n : Int) : Int := if Wd.fitE n = 0 then cutI (Wd.fitN n) else 4611686018427387904
set_option maxRecDepth 100000 in
set_option maxHeartbeats 4000000 in
theorem rwide_any (neg : Bool) (v : Value) (ds : List Int) (w : World) (hd : Wd.Dig w v ds) :
    Calls Tryz.prog 66 #[.agg #[.bool neg, v]] w fun e w' => e = .returned (.int .i64 (wideI (Wd.sg neg (Wd.dv ds)))) ∧ Below w.heap.size w w' := by
  have HT : Hid (∀ W, Below w.heap.size w W → Calls Tryz.prog 112 #[.agg #[.bool neg, v]] W fun e w' => e = .returned (.tuple #[.int .i64 (Wd.fitN (Wd.sg neg (Wd.dv ds))), .int .i64 (Wd.fitE (Wd.sg neg (Wd.dv ds)))]) ∧ Below W.heap.size W w') := fun W hb => Wd.to64_any neg v ds W (hd.later hb)
  unfold wideI
  generalize Wd.sg neg (Wd.dv ds) = n at *
  obtain ⟨ad, cap, rfl⟩ := hd.slice
  clear hd
  generalize Wd.fitN n = x at *
  generalize Wd.fitE n = q at *
  generalize ds.length = k at *
  have HC := hidE (fun W => rcut_any x W)
  obtain ⟨res, hres⟩ : ∃ r, (if q = 0 then cutI x else 4611686018427387904) = r := ⟨_, rfl⟩
  obtain ⟨cx, hcx⟩ : ∃ r, cutI x = r := ⟨_, rfl⟩
  rw [hres]
  rw [hcx] at HC hres
  have HR := hidE hres
  clear hres hcx
  go_enter Tryz.func66, Tryz.ntmps66
  go_upto_region 1 with fail
  have HW0 := hidE ((Below.refl w.heap.size w).alloc (Nat.le_refl _) (.cells #[.bool neg, .slice ad k cap] 112))
  have e0 : (w.alloc (.cells #[.bool neg, .slice ad k cap] 112)).cell? ⟨w.heap.size, 0, none⟩ = some (.bool neg) := cell_new _ _ _ _ _ rfl
  have e1 : (w.alloc (.cells #[.bool neg, .slice ad k cap] 112)).cell? ⟨w.heap.size, 1, none⟩ = some (.slice ad k cap) := cell_new _ _ _ _ _ rfl
  generalize w.alloc (.cells #[.bool neg, .slice ad k cap] 112) = W1 at *
  by_cases hq : q = 0
  · have HR2 : Hid (res = cx) := by show _ = _; rw [← HR.out, if_pos hq]
    go_wp2_with (first | (go_at_call 112; refine (HT.out _ HW0.out).mono ?_; rintro e W2 ⟨rfl, y1⟩; have HB := hidE (Below.on HW0.out y1); clear y1) | (go_at_call 53; refine (HC.out _).mono ?_; rintro e _ ⟨rfl, rfl⟩))
    go_ret
    exact ⟨by rw [HR2.out]; rfl, HB.out⟩
  · have HR2 : Hid (res = 4611686018427387904) := by show _ = _; rw [← HR.out, if_neg hq]
    go_wp2_with (first | (go_at_call 112; refine (HT.out _ HW0.out).mono ?_; rintro e W2 ⟨rfl, y1⟩; have HB := hidE (Below.on HW0.out y1); clear y1) | (go_at_call 53; refine (HC.out _).mono ?_; rintro e _ ⟨rfl, rfl⟩))
    go_ret
    exact ⟨by rw [HR2.out]; rfl, HB.out⟩
theorem wide_mul (a b : Int) : wideI (cutI a * cutI b) = timesI a b := by
  have h0 := cutI_nonneg a
  have h1 := cutI_le a
  have k0 := cutI_nonneg b
  have k1 := cutI_le b
  unfold timesI
  generalize cutI a = x at *
  generalize cutI b = y at *
  have hp : 0 ≤ x * y := Int.mul_nonneg h0 k0
  generalize x * y = p at *
  by_cases h : p ≤ 9223372036854775807
  · have e1 : Wd.fitE p = 0 := by unfold Wd.fitE; rw [if_pos ⟨by omega, h⟩]
    have e2 : Wd.fitN p = p := by unfold Wd.fitN; rw [if_pos ⟨by omega, h⟩]
    unfold wideI
    rw [if_pos e1, e2]
    unfold cutI
    split
    · rfl
    · split <;> omega
  · have e1 : Wd.fitE p = 120 := by unfold Wd.fitE; rw [if_neg (fun e => h e.2)]
    unfold wideI
    rw [e1, if_neg (by decide), if_pos (by omega)]
theorem rmul_any (va vb : Value) (ds es : List Int) (W : World) (ha : Wd.Dig W va ds) (hb : Wd.Dig W vb es) (la : ds.length = 4) (lb : es.length = 4) :
    Calls Tryz.prog 67 #[.agg #[.bool false, va], .agg #[.bool false, vb]] W fun e w' => ∃ neg v os, e = .returned (.agg #[.bool neg, v]) ∧ Below W.heap.size W w' ∧ Wd.Dig w' v os ∧ Wd.sg neg (Wd.dv os) = Wd.dv ds * Wd.dv es := by
  refine (Wd.wmul_any false false va vb ds es W ha hb la lb).mono ?_
  intro e w' h
  obtain ⟨neg, v, os, h1, h2, h3, h4, h5⟩ := h
  exact ⟨neg, v, os, h1, h2, h3, h5⟩
set_option maxRecDepth 100000 in
set_option maxHeartbeats 4000000 in
theorem rtimes_any (a b : Int) (w : World) : Calls Tryz.prog 31 #[.int .i64 a, .int .i64 b] w fun e w' => e = .returned (.int .i64 (timesI a b)) ∧ Below w.heap.size w w' := by
  have h0 := cutI_nonneg a
  have h1 := cutI_le a
  have k0 := cutI_nonneg b
  have k1 := cutI_le b
  have HA := hidE (fun W => rcut_any a W)
  have HB := hidE (fun W => rcut_any b W)
  rw [← wide_mul]
  generalize cutI a = x at *
  generalize cutI b = y at *
  have sx : Wd.sz x = x := by unfold Wd.sz; rw [if_neg (by omega)]
  have sy : Wd.sz y = y := by unfold Wd.sz; rw [if_neg (by omega)]
  have HX : Hid (∀ W : World, Calls Tryz.prog 68 #[.int .i64 x] W fun e w' => ∃ v ds, e = .returned (.agg #[.bool false, v]) ∧ Below W.heap.size W w' ∧ Wd.Dig w' v ds ∧ ds.length = 4 ∧ Wd.dv ds = x) := fun W => by
    have := Wd.of64_any x W (by omega) (by omega)
    rwa [decide_eq_false (by omega), sx] at this
  have HY : Hid (∀ W : World, Calls Tryz.prog 68 #[.int .i64 y] W fun e w' => ∃ v ds, e = .returned (.agg #[.bool false, v]) ∧ Below W.heap.size W w' ∧ Wd.Dig w' v ds ∧ ds.length = 4 ∧ Wd.dv ds = y) := fun W => by
    have := Wd.of64_any y W (by omega) (by omega)
    rwa [decide_eq_false (by omega), sy] at this
  have HW := hidE (fun neg v ds (W : World) hd => rwide_any neg v ds W hd)
  have HM := hidE (fun (va vb : Value) ds es (W : World) ha hb la lb => rmul_any va vb ds es W ha hb la lb)
  go_enter Tryz.func31, Tryz.ntmps31
  go_wp2_with fail
  refine (HA.out _).mono ?_
  rintro e _ ⟨rfl, rfl⟩
  go_wp2_with fail
  refine (HX.out _).mono ?_
  rintro e W1 ⟨v1, ds, rfl, hb1, hd1, hl1, hv1⟩
  have HD1 := hidE hd1
  have HB1 := hidE hb1
  obtain ⟨a1, c1, rfl⟩ := hd1.slice
  rw [hl1] at HD1
  clear hd1 hb1
  go_wp2_with fail
  refine (HB.out _).mono ?_
  rintro e _ ⟨rfl, rfl⟩
  go_wp2_with fail
  refine (HY.out _).mono ?_
  rintro e W2 ⟨v2, es, rfl, hb2, hd2, hl2, hv2⟩
  have HD2 := hidE hd2
  have HB2 := hidE (Below.on HB1.out hb2)
  have HD1' := hidE (HD1.out.later hb2)
  obtain ⟨a2, c2, rfl⟩ := hd2.slice
  rw [hl2] at HD2
  clear hd2 hb2
  go_wp2_with fail
  refine (HM.out _ _ ds es _ HD1'.out HD2.out hl1 hl2).mono ?_
  rintro e W3 ⟨neg, v3, os, rfl, hb3, hd3, hv3⟩
  have HD3 := hidE hd3
  have HB3 := hidE (Below.on HB2.out hb3)
  have HV : Hid (Wd.sg neg (Wd.dv os) = x * y) := by
    show _ = _
    rw [hv3, hv1, hv2]
  obtain ⟨a3, c3, rfl⟩ := hd3.slice
  clear hd3 hb3 hv3
  go_wp2_with fail
  refine (HW.out _ _ os _ HD3.out).mono ?_
  rintro e W4 ⟨rfl, hb4⟩
  have HB4 := hidE (Below.on HB3.out hb4)
  clear hb4
  go_wp2_with fail
  go_ret
  exact ⟨by rw [HV.out]; rfl, HB4.out⟩
end Go.Proofs.YthfilnflgahcjaaGreatDoor
