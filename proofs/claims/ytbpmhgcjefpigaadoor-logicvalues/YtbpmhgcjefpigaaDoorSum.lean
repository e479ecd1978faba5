/- Contracts of Sum and of the closure that grows it: for every list of at most 65536 numbers of 64 bits. -/
import Derived.Test.YtbpmhgcjefpigaaDoorTruth
import Derived.Laws.Bits128
namespace Go.Proofs.YtbpmhgcjefpigaaDoor
open Go.RowKit
set_option linter.unusedVariables false

theorem i64_low32 (n : Int) : bits .and .i64 n 4294967295 = n % 4294967296 := by
  have hm : (BitVec.ofInt 64 4294967295).toNat = 2 ^ 32 - 1 := by decide
  have key : (BitVec.ofInt 64 n &&& BitVec.ofInt 64 4294967295).toNat = (n % ((2 ^ 64 : Nat) : Int)).toNat % 2 ^ 32 := by
    rw [BitVec.toNat_and, BitVec.toNat_ofInt, hm, Nat.and_two_pow_sub_one_eq_mod]
  show IntKind.i64.wrap ((BitVec.ofInt 64 n &&& BitVec.ofInt 64 4294967295).toNat : Nat) = n % 4294967296
  rw [key, IntKind.wrap_i64]
  omega

theorem three_sets {w : World} {B : Nat} {v0 v1 : Value} (x y z : Value) (g0 : w.cell? ⟨B, 0, none⟩ = some v0) (g1 : w.cell? ⟨B, 1, none⟩ = some v1) (f0 : w.frozen? ⟨B, 0, none⟩ = false) (f1 : w.frozen? ⟨B, 1, none⟩ = false) :
    Below B w (((w.setCell ⟨B, 1, none⟩ x).setCell ⟨B, 0, none⟩ y).setCell ⟨B, 1, none⟩ z) ∧ (((w.setCell ⟨B, 1, none⟩ x).setCell ⟨B, 0, none⟩ y).setCell ⟨B, 1, none⟩ z).cell? ⟨B, 0, none⟩ = some y ∧
    (((w.setCell ⟨B, 1, none⟩ x).setCell ⟨B, 0, none⟩ y).setCell ⟨B, 1, none⟩ z).cell? ⟨B, 1, none⟩ = some z ∧
    (((w.setCell ⟨B, 1, none⟩ x).setCell ⟨B, 0, none⟩ y).setCell ⟨B, 1, none⟩ z).frozen? ⟨B, 0, none⟩ = false ∧ (((w.setCell ⟨B, 1, none⟩ x).setCell ⟨B, 0, none⟩ y).setCell ⟨B, 1, none⟩ z).frozen? ⟨B, 1, none⟩ = false := by
  have s1 : (w.setCell ⟨B, 1, none⟩ x).cell? ⟨B, 0, none⟩ = some v0 := (World.cell?_setCell_other _ _ _ _ (by simp)).trans g0
  have s2 : (w.setCell ⟨B, 1, none⟩ x).cell? ⟨B, 1, none⟩ = some x := World.cell?_setCell_same _ _ _ g1
  have s3 : ((w.setCell ⟨B, 1, none⟩ x).setCell ⟨B, 0, none⟩ y).cell? ⟨B, 0, none⟩ = some y := World.cell?_setCell_same _ _ _ s1
  have s4 : ((w.setCell ⟨B, 1, none⟩ x).setCell ⟨B, 0, none⟩ y).cell? ⟨B, 1, none⟩ = some x := (World.cell?_setCell_other _ _ _ _ (by simp)).trans s2
  refine ⟨(((Below.refl B w).setCell (p := ⟨B, 1, none⟩) (Nat.le_refl B) x).setCell (p := ⟨B, 0, none⟩) (Nat.le_refl B) y).setCell (p := ⟨B, 1, none⟩) (Nat.le_refl B) z, ?_, World.cell?_setCell_same _ _ _ s4, ?_, ?_⟩
  · exact (World.cell?_setCell_other _ _ _ _ (by simp)).trans s3
  · rw [World.frozen?_setCell, World.frozen?_setCell, World.frozen?_setCell]; exact f0
  · rw [World.frozen?_setCell, World.frozen?_setCell, World.frozen?_setCell]; exact f1

/-- One number more: the two halves turn, and nothing else. -/
theorem grow_any (n h0 h1 : Int) (B : Nat) (w : World) (hn1 : -9223372036854775808 ≤ n) (hn2 : n ≤ 9223372036854775807) (a1 : 0 ≤ h1) (a2 : h1 ≤ 4294967295) (a3 : -4611686018427387904 ≤ h0) (a4 : h0 ≤ 4611686018427387904)
    (g0 : w.cell? ⟨B, 0, none⟩ = some (.int .i64 h0)) (g1 : w.cell? ⟨B, 1, none⟩ = some (.int .i64 h1)) (f0 : w.frozen? ⟨B, 0, none⟩ = false) (f1 : w.frozen? ⟨B, 1, none⟩ = false) :
    Calls Tryd.prog 44 #[.int .i64 n, .pointer (some ⟨B, 0, none⟩)] w fun e w' => e = .returned (.tuple #[]) ∧ Below B w w' ∧
      w'.cell? ⟨B, 0, none⟩ = some (.int .i64 (h0 + (n / 4294967296 + (h1 + n % 4294967296) / 4294967296))) ∧ w'.cell? ⟨B, 1, none⟩ = some (.int .i64 ((h1 + n % 4294967296) % 4294967296)) ∧
      w'.frozen? ⟨B, 0, none⟩ = false ∧ w'.frozen? ⟨B, 1, none⟩ = false := by
  obtain ⟨q, hq⟩ : ∃ q, n % 4294967296 = q := ⟨_, rfl⟩
  have q1 : 0 ≤ q := by omega
  have q2 : q ≤ 4294967295 := by omega
  obtain ⟨d, hd⟩ : ∃ d, n / 4294967296 = d := ⟨_, rfl⟩
  have d1 : -2147483648 ≤ d := by omega
  have d2 : d ≤ 2147483647 := by omega
  obtain ⟨r, hr⟩ : ∃ r, (h1 + q) % 4294967296 = r := ⟨_, rfl⟩
  have e1 : bits .and .i64 n 4294967295 = q := by rw [i64_low32, hq]
  have e2 : bits .and .i64 (h1 + q) 4294967295 = r := by rw [i64_low32, hr]
  rw [hq, hr, hd]
  have HQ : Hid (n % 4294967296 = q) := hq
  have HR : Hid ((h1 + q) % 4294967296 = r) := hr
  clear hq hr
  go_enter Tryd.func44, Tryd.ntmps44
  go_wp2
  go_end0
  exact ⟨rfl, three_sets _ _ _ g0 g1 f0 f1⟩

theorem i64_join (h l : Int) (h1 : -2147483648 ≤ h) (h2 : h ≤ 2147483647) (l1 : 0 ≤ l) (l2 : l ≤ 4294967295) : bits .or .i64 (h * 4294967296) l = h * 4294967296 + l := by
  have e1 : (BitVec.ofInt 64 (h * 4294967296)).toNat = (h % 4294967296).toNat <<< 32 := by
    rw [BitVec.toNat_ofInt, Nat.shiftLeft_eq]; omega
  have e2 : (BitVec.ofInt 64 l).toNat = l.toNat := by
    rw [BitVec.toNat_ofInt]; omega
  have key : (BitVec.ofInt 64 (h * 4294967296) ||| BitVec.ofInt 64 l).toNat = (h % 4294967296).toNat * 4294967296 + l.toNat := by
    rw [BitVec.toNat_or, e1, e2, ← Nat.shiftLeft_add_eq_or_of_lt (by omega), Nat.shiftLeft_eq]
  show IntKind.i64.wrap ((BitVec.ofInt 64 (h * 4294967296) ||| BitVec.ofInt 64 l).toNat : Nat) = _
  rw [key, IntKind.wrap_i64]
  omega

def sumL (zs : List Int) : Int := zs.sum
theorem sumL_take {zs : List Int} {k : Nat} {z : Int} (hlt : k < zs.length) (HZ : zs.getD k 0 = z) : sumL (zs.take (k + 1)) = sumL (zs.take k) + z := by
  have h3 : zs[k] = z := by rw [← HZ, List.getD_eq_getElem?_getD, List.getElem?_eq_getElem hlt]; rfl
  unfold sumL
  rw [List.take_succ_eq_append_getElem hlt, List.sum_append, h3]; simp
theorem sumL_bd {zs : List Int} (hr : ∀ j, j < zs.length → -9223372036854775808 ≤ zs.getD j 0 ∧ zs.getD j 0 ≤ 9223372036854775807) (k : Nat) (hk : k ≤ zs.length) :
    -(9223372036854775808 * (k : Int)) ≤ sumL (zs.take k) ∧ sumL (zs.take k) ≤ 9223372036854775808 * (k : Int) := by
  induction k with
  | zero => simp [sumL]
  | succ k ih =>
    have := ih (by omega)
    have h := hr k (by omega)
    rw [sumL_take (by omega) rfl]
    omega

set_option maxHeartbeats 800000 in
theorem sum_any (b off len cap : Nat) (zs : List Int) (w : World) (hl : len = zs.length) (hm : len ≤ 65536) (hb : b < w.heap.size)
    (hc : ∀ j, j < len → w.cell? ⟨b, off + j, none⟩ = some (.int .i64 (zs.getD j 0)))
    (hr : ∀ j, j < zs.length → -9223372036854775808 ≤ zs.getD j 0 ∧ zs.getD j 0 ≤ 9223372036854775807) :
    Calls Tryd.prog 30 #[.slice (some ⟨b, off, none⟩) len cap] w fun e w' => e = .returned (.tuple #[.int .i64 (fitN (sumL zs)), .int .i64 (fitE (sumL zs))]) ∧ Below w.heap.size w w' := by
  subst hl
  have HC : Hid (∀ j, j < zs.length → w.cell? ⟨b, off + j, none⟩ = some (.int .i64 (zs.getD j 0))) := hc
  have HR : Hid (∀ j, j < zs.length → -9223372036854775808 ≤ zs.getD j 0 ∧ zs.getD j 0 ≤ 9223372036854775807) := hr
  clear hc hr
  go_enter Tryd.func30, Tryd.ntmps30
  go_wp2
  go_loopw [11] (fun i wr => ∃ k : Nat, ∃ h0 h1 : Int, k ≤ zs.length ∧ i = .int .i64 k ∧ 0 ≤ h1 ∧ h1 ≤ 4294967295 ∧ h0 * 4294967296 + h1 = sumL (zs.take k) ∧
      Below w.heap.size w wr ∧ wr.cell? ⟨w.heap.size, 0, none⟩ = some (.int .i64 h0) ∧ wr.cell? ⟨w.heap.size, 1, none⟩ = some (.int .i64 h1) ∧ wr.frozen? ⟨w.heap.size, 0, none⟩ = false ∧ wr.frozen? ⟨w.heap.size, 1, none⟩ = false)
    (fun i _ => zs.length - (intOf i).toNat)
  case atStart => exact ⟨0, 0, 0, Nat.zero_le _, rfl, by omega, by omega, by simp [sumL], (Below.refl _ _).alloc (Nat.le_refl _) _, by simp, by simp, by simp, by simp⟩
  case round =>
    obtain ⟨k, h0, h1, hk, rfl, p1, p2, hsum, hbel, g0, g1, f0, f1⟩ := hrel
    have hbd := sumL_bd HR.out k hk
    have q1 : -4611686018427387904 ≤ h0 := by omega
    have q2 : h0 ≤ 4611686018427387904 := by omega
    have HS : Hid (h0 * 4294967296 + h1 = sumL (zs.take k)) := hsum
    clear hsum hbd
    by_cases hlt : k < zs.length
    · have hcx : wr.cell? ⟨b, off + k, none⟩ = some (.int .i64 (zs.getD k 0)) := (hbel.cell (by exact hb)).trans (HC.out k hlt)
      have hrx := HR.out k hlt
      obtain ⟨z, hz⟩ : ∃ z, zs.getD k 0 = z := ⟨_, rfl⟩
      rw [hz] at hcx hrx
      obtain ⟨r1, r2⟩ := hrx
      have HZ : Hid (zs.getD k 0 = z) := hz
      clear hz
      go_wp2_with fail
      refine (grow_any z h0 h1 w.heap.size wr r1 r2 p1 p2 q1 q2 g0 g1 f0 f1).mono ?_
      rintro e w1 ⟨rfl, hbel1, g0', g1', f0', f1'⟩
      have hbel2 := hbel.trans hbel1
      clear g0 g1 f0 f1 hcx hbel hbel1
      go_wp2
      go_roundw
      case rel => exact ⟨k + 1, _, _, by omega, by go_num, by omega, by omega, by rw [sumL_take hlt HZ.out, ← HS.out]; omega, hbel2, g0', g1', f0', f1'⟩
      case measure => simp [intOf]; omega
    · have hke : k = zs.length := by omega
      have hfin := HS.out
      rw [hke, List.take_length] at hfin
      have HG : Hid (h0 * 4294967296 + h1 = sumL zs) := hfin
      clear hfin hke HS
      by_cases hlo : h0 < -2147483648
      · have hout := fit_out (n := sumL zs) (by have := HG.out; omega)
        have HO : Hid (fitN (sumL zs) = 0 ∧ fitE (sumL zs) = 120) := hout
        clear hout
        go_wp2
        go_ret2
        exact ⟨ret_ii HO.out.1.symm HO.out.2.symm, hbel⟩
      · by_cases hhi : 2147483647 < h0
        · have hout := fit_out (n := sumL zs) (by have := HG.out; omega)
          have HO : Hid (fitN (sumL zs) = 0 ∧ fitE (sumL zs) = 120) := hout
          clear hout
          go_wp2
          go_ret2
          exact ⟨ret_ii HO.out.1.symm HO.out.2.symm, hbel⟩
        · have hin := fit_in (n := sumL zs) (by have := HG.out; omega) (by have := HG.out; omega)
          have HO : Hid (fitN (sumL zs) = sumL zs ∧ fitE (sumL zs) = 0) := hin
          clear hin
          have hj := i64_join h0 h1 (by omega) (by omega) p1 p2
          go_wp2
          go_ret2
          exact ⟨ret_ii (HG.out.trans HO.out.1.symm) HO.out.2.symm, hbel⟩
end Go.Proofs.YtbpmhgcjefpigaaDoor
