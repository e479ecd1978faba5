/- Numbers multiplied. -/
import Derived.Shelf.Bits.Mul64
import Derived.Test.YthfilnflgahcjaaGreatDoorJoin4
namespace Go.Proofs
open Go.Shelf
def Tryz.lays264_ren : Go.Shelf.Ren := ⟨fun | 264 => 65 | n => n, fun | 46 => 171 | 53 => 106 | n => n, fun | n => n⟩
theorem Tryz.lays264 : Go.Proofs.Lays.n264 Tryz.prog Tryz.lays264_ren := {
  mixed := by kernel_rfl
  f264 := Tryz.func65.trans (congrArg some (by kernel_rfl))
  t46 := Tryz.underlying171
  a46 := Tryz.isAgg171
  z46 := Tryz.sizeOf171
  v46 := Tryz.zeroValue171
  t53 := Tryz.underlying106
  a53 := Tryz.isAgg106
  z53 := Tryz.sizeOf106
  v53 := Tryz.zeroValue106 }
end Go.Proofs
namespace Go.Proofs.YthfilnflgahcjaaGreatDoor
open Go.RowKit Go.Shelf
set_option linter.unusedVariables false
set_option linter.unusedSimpArgs false
attribute [local go_sem] Oper.semAt_some
theorem mul64_any (x y : Nat) (hx : x < 18446744073709551616) (hy : y < 18446744073709551616) (w : World) :
    Calls Tryz.prog 65 #[.int .u64 x, .int .u64 y] w fun e w' => e = .returned (.tuple #[.int .u64 ((x * y / 18446744073709551616 : Nat) : Int), .int .u64 ((x * y % 18446744073709551616 : Nat) : Int)]) ∧ w' = w := Any.bits_Mul64 Tryz.lays264 x y hx hy w
def timesI (a b : Int) : Int := if 4611686018427387904 < cutI a * cutI b then 4611686018427387904 else cutI a * cutI b
set_option maxRecDepth 100000 in
set_option maxHeartbeats 4000000 in
theorem times_any (a b : Int) (w : World) : Calls Tryz.prog 30 #[.int .i64 a, .int .i64 b] w fun e w' => e = .returned (.int .i64 (timesI a b)) ∧ w' = w := by
  have h0 := cutI_nonneg a
  have h1 := cutI_le a
  have k0 := cutI_nonneg b
  have k1 := cutI_le b
  have HA := hidE (fun W => cut_any a W)
  have HB := hidE (fun W => cut_any b W)
  unfold timesI
  generalize cutI a = x at *
  generalize cutI b = y at *
  obtain ⟨m, rfl⟩ := Int.eq_ofNat_of_zero_le h0
  obtain ⟨n, rfl⟩ := Int.eq_ofNat_of_zero_le k0
  have HM := hidE (fun W => mul64_any m n (by omega) (by omega) W)
  rw [show ((m : Int) * (n : Int)) = ((m * n : Nat) : Int) from (Int.natCast_mul m n).symm]
  have w1 : IntKind.u64.wrap (m : Int) = m := by rw [IntKind.wrap_u64]; omega
  have w2 : IntKind.u64.wrap (n : Int) = n := by rw [IntKind.wrap_u64]; omega
  obtain ⟨p, hp⟩ : ∃ p, m * n = p := ⟨_, rfl⟩
  rw [hp] at HM ⊢
  obtain ⟨hi, hhi⟩ : ∃ q, p / 18446744073709551616 = q := ⟨_, rfl⟩
  obtain ⟨lo, hlo⟩ : ∃ q, p % 18446744073709551616 = q := ⟨_, rfl⟩
  have HP : Hid (p = hi * 18446744073709551616 + lo ∧ lo < 18446744073709551616) := by
    rw [← hhi, ← hlo]
    exact ⟨by omega, Nat.mod_lt _ (by decide)⟩
  rw [hhi, hlo] at HM
  clear hp hhi hlo
  obtain ⟨res, hres⟩ : ∃ q, (if 4611686018427387904 < (p : Int) then (4611686018427387904 : Int) else p) = q := ⟨_, rfl⟩
  rw [hres]
  have HR := hidE hres
  clear hres
  by_cases e1 : hi = 0
  · subst e1
    by_cases e2 : 4611686018427387904 < lo
    · have e2' : (4611686018427387904 : Int) < lo := by omega
      have HF : Hid (res = 4611686018427387904) := by
        have := HP.out
        show _ = _
        rw [← HR.out, if_pos (by omega)]
      go_enter Tryz.func30, Tryz.ntmps30
      go_wp2_with (first | (go_at_call_of 52 a; refine (HA.out _).mono ?_; rintro e _ ⟨rfl, rfl⟩) | (go_at_call_of 52 b; refine (HB.out _).mono ?_; rintro e _ ⟨rfl, rfl⟩) | (go_at_call 65; refine (HM.out _).mono ?_; rintro e _ ⟨rfl, rfl⟩))
      go_ret
      exact ⟨by rw [HF.out]; rfl, rfl⟩
    · have e2' : ¬ (4611686018427387904 : Int) < lo := by omega
      have w3 : IntKind.i64.wrap (lo : Int) = lo := by rw [IntKind.wrap_i64]; omega
      have HF : Hid (res = lo) := by
        have := HP.out
        show _ = _
        rw [← HR.out, if_neg (by omega)]
        omega
      go_enter Tryz.func30, Tryz.ntmps30
      go_wp2_with (first | (go_at_call_of 52 a; refine (HA.out _).mono ?_; rintro e _ ⟨rfl, rfl⟩) | (go_at_call_of 52 b; refine (HB.out _).mono ?_; rintro e _ ⟨rfl, rfl⟩) | (go_at_call 65; refine (HM.out _).mono ?_; rintro e _ ⟨rfl, rfl⟩))
      go_ret
      exact ⟨by rw [HF.out]; rfl, rfl⟩
  · have e2' : (0 : Int) < hi := by omega
    have HF : Hid (res = 4611686018427387904) := by
      have := HP.out
      show _ = _
      rw [← HR.out, if_pos (by omega)]
    go_enter Tryz.func30, Tryz.ntmps30
    go_wp2_with (first | (go_at_call_of 52 a; refine (HA.out _).mono ?_; rintro e _ ⟨rfl, rfl⟩) | (go_at_call_of 52 b; refine (HB.out _).mono ?_; rintro e _ ⟨rfl, rfl⟩) | (go_at_call 65; refine (HM.out _).mono ?_; rintro e _ ⟨rfl, rfl⟩))
    go_ret
    exact ⟨by rw [HF.out]; rfl, rfl⟩
end Go.Proofs.YthfilnflgahcjaaGreatDoor
