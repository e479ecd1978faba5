/- Contract of To64: the number of the digits, or that it is too wide. -/
import Derived.Test.YtfpjggoonekooaaWide
namespace Go.Proofs.Ytfpjggoonekooaa
open Go.RowKit Go.WideShapes
set_option linter.unusedVariables false

theorem isDig_drop {ds : List Int} (h : IsDig ds) (k : Nat) : IsDig (ds.drop k) := fun d hd => h d (List.mem_of_mem_drop hd)
theorem dv_drop {ds : List Int} {m : Nat} (h : m < ds.length) : dv (ds.drop m) = ds.getD m 0 + 65536 * dv (ds.drop (m + 1)) := by
  have e : ds.getD m 0 = ds[m] := by simp [List.getD, h]
  rw [List.drop_eq_getElem_cons h, e]
  simp [dv]
theorem dv_big {ds : List Int} (h : IsDig ds) (k : Nat) (hb : 281474976710655 < dv (ds.drop (k + 1))) : 18446744073709551615 < dv ds := by
  induction k with
  | zero =>
    cases ds with
    | nil => simp [dv] at hb
    | cons a r =>
      have := h a (by simp)
      simp only [List.drop_succ_cons, List.drop_zero] at hb
      simp only [dv]; omega
  | succ k ih =>
    apply ih
    by_cases hl : k + 1 < ds.length
    · rw [dv_drop hl]
      have := isDig_getD h (k + 1)
      omega
    · rw [List.drop_eq_nil_of_le (by omega)] at hb
      simp [dv] at hb

theorem neg_back {U : Int} (h1 : 0 ≤ U) (h2 : U ≤ 9223372036854775808) : wrap64 (IntKind.u64.wrap (-U)) = -U := by rw [IntKind.wrap_u64]; unfold wrap64; omega

def sg (neg : Bool) (n : Int) : Int := if neg then -n else n

set_option maxHeartbeats 1600000 in
theorem to64_any (neg : Bool) (v : Value) (ds : List Int) (w : World) (hd : Dig w v ds) :
    Calls Try.prog 38 #[.agg #[.bool neg, v]] w fun e w' => e = .returned (.tuple #[.int .i64 (fitN (sg neg (dv ds))), .int .i64 (fitE (sg neg (dv ds)))]) ∧ Below w.heap.size w w' := by
  have hnn := dv_nn hd.2
  have hdig := hd.2
  rcases hd.cases with ⟨rfl, rfl⟩ | ⟨g, cap, rfl, hg, hc1, hc2, hc⟩
  · have e : sg neg (dv []) = 0 := by cases neg <;> simp [sg, dv]
    rw [e, fit_zero.1, fit_zero.2]
    clear hd hdig hnn e
    cases neg
    all_goals
      go_enter Try.func38, Try.ntmps38
      go_wp2
      refine wp_loop_rounds 1 ?_
      rw [rounds_succ]
      go_wp2
      go_ret2
      exact ⟨rfl, (Below.refl _ _).alloc (Nat.le_refl _) _⟩
  · unfold maxLen at hc2
    have HC : Hid (∀ j, j < ds.length → w.cell? ⟨g, j, none⟩ = some (.int .i64 (ds.getD j 0))) := hc
    have HD : Hid (IsDig ds) := hdig
    clear hc hdig hd
    go_enter Try.func38, Try.ntmps38
    go_wp2
    go_loop [4, 5] (fun u i => ∃ k : Nat, ∃ U : Int, k ≤ ds.length ∧ i = .int .i64 ((k : Int) - 1) ∧ u = .int .u64 U ∧ 0 ≤ U ∧ U ≤ 18446744073709551615 ∧ U = dv (ds.drop k)) (fun _ i => (intOf i + 1).toNat)
    case atStart => exact ⟨ds.length, 0, Nat.le_refl _, rfl, rfl, by omega, by omega, by rw [List.drop_length]; rfl⟩
    case round =>
      obtain ⟨k, U, hk, rfl, rfl, hu1, hu2, hU⟩ := hrel
      have HU : Hid (U = dv (ds.drop k)) := hU
      clear hU
      cases k with
      | zero =>
        have e0 : ((0 : Nat) : Int) - 1 = -1 := by omega
        rw [e0]
        clear e0
        have HX : Hid (dv ds = U) := by have := HU.out; rw [List.drop_zero] at this; exact this.symm
        by_cases hw : 9223372036854775808 < U
        · have HO : Hid (fitN (sg neg (dv ds)) = 0 ∧ fitE (sg neg (dv ds)) = 120) := by
            unfold Hid; rw [HX.out]; apply fit_out; unfold sg; split <;> omega
          go_wp2
          go_ret2
          exact ⟨ret_ii HO.out.1.symm HO.out.2.symm, (Below.refl _ _).alloc (Nat.le_refl _) _⟩
        · cases neg with
          | true =>
            have HO : Hid (fitN (sg true (dv ds)) = -U ∧ fitE (sg true (dv ds)) = 0) := by
              unfold Hid; rw [HX.out, show sg true U = -U from rfl]; apply fit_in <;> omega
            by_cases he : U = 9223372036854775808
            · have he2 : (U == 9223372036854775808) = true := beq_iff_eq.2 he
              clear he
              go_wp2
              go_ret2
              exact ⟨ret_ii ((neg_back hu1 (by omega)).trans HO.out.1.symm) HO.out.2.symm, (Below.refl _ _).alloc (Nat.le_refl _) _⟩
            · have he2 : (U == 9223372036854775808) = false := beq_eq_false_iff_ne.2 he
              clear he
              go_wp2
              go_ret2
              exact ⟨ret_ii ((neg_back hu1 (by omega)).trans HO.out.1.symm) HO.out.2.symm, (Below.refl _ _).alloc (Nat.le_refl _) _⟩
          | false =>
            by_cases he : U = 9223372036854775808
            · have he2 : (U == 9223372036854775808) = true := beq_iff_eq.2 he
              have HO : Hid (fitN (sg false (dv ds)) = 0 ∧ fitE (sg false (dv ds)) = 120) := by
                unfold Hid; rw [HX.out, show sg false U = U from rfl]; apply fit_out; omega
              clear he
              go_wp2
              go_ret2
              exact ⟨ret_ii HO.out.1.symm HO.out.2.symm, (Below.refl _ _).alloc (Nat.le_refl _) _⟩
            · have he2 : (U == 9223372036854775808) = false := beq_eq_false_iff_ne.2 he
              have he3 : U ≤ 9223372036854775807 := by omega
              have HO : Hid (fitN (sg false (dv ds)) = U ∧ fitE (sg false (dv ds)) = 0) := by
                unfold Hid; rw [HX.out, show sg false U = U from rfl]; apply fit_in <;> omega
              clear he hw
              go_wp2
              go_ret2
              exact ⟨ret_ii HO.out.1.symm HO.out.2.symm, (Below.refl _ _).alloc (Nat.le_refl _) _⟩
      | succ m =>
        have e0 : ((m + 1 : Nat) : Int) - 1 = (m : Int) := by omega
        rw [e0]
        clear e0
        by_cases hbig : 281474976710655 < U
        · have HO : Hid (fitN (sg neg (dv ds)) = 0 ∧ fitE (sg neg (dv ds)) = 120) := by
            have := dv_big HD.out m (by rw [← HU.out]; exact hbig)
            unfold Hid; apply fit_out; unfold sg; split <;> omega
          go_wp2
          go_ret2
          exact ⟨ret_ii HO.out.1.symm HO.out.2.symm, (Below.refl _ _).alloc (Nat.le_refl _) _⟩
        · have hcx : w.cell? ⟨g, m, none⟩ = some (.int .i64 (ds.getD m 0)) := HC.out m (by omega)
          have hdx := isDig_getD HD.out m
          have HV : Hid (dv (ds.drop m) = ds.getD m 0 + 65536 * dv (ds.drop (m + 1))) := dv_drop (by omega)
          generalize ds.getD m 0 = z at hcx hdx HV
          obtain ⟨z1, z2⟩ := hdx
          go_wp2
          go_round
          case rel => exact ⟨m, U * 65536 + z, by omega, by go_num, rfl, by omega, by omega, by rw [HV.out, ← HU.out]; omega⟩
          case measure => simp [intOf]
end Go.Proofs.Ytfpjggoonekooaa
