/- The reference's numbers: cut, added, shared. The reference's rows: a label's nodes. -/
import Derived.Test.YthfilnflgahcjaaGreatDoorJoin4
import Derived.Test.YthfilnflgahcjaaGreatDoorJoin9
import Derived.Test.YthfilnflgahcjaaGreatDoorJoin3
namespace Go.Proofs.YthfilnflgahcjaaGreatDoor
open Go.RowKit Go.Shelf
set_option linter.unusedVariables false
set_option linter.unusedSimpArgs false
attribute [local go_sem] Oper.semAt_some
theorem cutI_in {n : Int} (h0 : 0 ≤ n) (h1 : n ≤ 4611686018427387904) : cutI n = n := by unfold cutI; split <;> (try split) <;> omega
theorem rcut_any (n : Int) (w : World) : Calls Tryz.prog 53 #[.int .i64 n] w fun e w' => e = .returned (.int .i64 (cutI n)) ∧ w' = w := by
  unfold cutI
  go_enter Tryz.func53, Tryz.ntmps53
  by_cases h1 : 4611686018427387904 < n
  · have h2 : 0 < n := by omega
    go_wp2
    go_ret
    exact ⟨by simp [h1], rfl⟩
  · by_cases h2 : 0 < n
    · go_wp2
      go_ret
      exact ⟨by simp [h1, h2], rfl⟩
    · go_wp2
      go_ret
      exact ⟨by simp [h1, h2], rfl⟩
theorem share_up {x m : Int} (h0 : 0 ≤ x) (h1 : 1 ≤ m) : (x + (m - 1)) / m = if 0 < x % m then x / m + 1 else x / m := by
  have e := Int.mul_ediv_add_emod x m
  have r0 := Int.emod_nonneg x (b := m) (by omega)
  have r1 := Int.emod_lt_of_pos x (b := m) (by omega)
  generalize x / m = q at *
  generalize x % m = r at *
  split
  · rw [show x + (m - 1) = (r - 1) + m * (q + 1) by rw [Int.mul_add]; omega, Int.add_mul_ediv_left _ _ (by omega), Int.ediv_eq_zero_of_lt (by omega) (by omega)]; omega
  · rw [show x + (m - 1) = (m - 1) + m * q by omega, Int.add_mul_ediv_left _ _ (by omega), Int.ediv_eq_zero_of_lt (by omega) (by omega)]; omega
set_option maxRecDepth 100000 in
set_option maxHeartbeats 4000000 in
theorem rshare_any (a b : Int) (w : World) : Calls Tryz.prog 33 #[.int .i64 a, .int .i64 b] w fun e w' => e = .returned (.int .i64 (shareI a b)) ∧ w' = w := by
  have h0 := cutI_nonneg a
  have h1 := cutI_le a
  have k0 := cutI_nonneg b
  have k1 := cutI_le b
  have HA := hidE (fun W => rcut_any a W)
  have HB := hidE (fun W => rcut_any b W)
  unfold shareI
  generalize cutI a = x at *
  generalize cutI b = y at *
  obtain ⟨m, hm⟩ : ∃ m, (if y < 1 then 1 else y) = m := ⟨_, rfl⟩
  have hm1 : 1 ≤ m := by rw [← hm]; split <;> omega
  have hm2 : m ≤ 4611686018427387904 := by rw [← hm]; split <;> omega
  rw [hm, share_up h0 hm1]
  have q0 : 0 ≤ x / m := Int.ediv_nonneg h0 (by omega)
  have q1 : x / m ≤ x := Int.ediv_le_self _ h0
  by_cases hy : 1 < y
  · have : m = y := by rw [← hm]; split <;> omega
    subst this
    clear hm
    by_cases hr : 0 < x % m
    · rw [if_pos hr]
      go_enter Tryz.func33, Tryz.ntmps33
      go_wp2_with (first | (go_at_call_of 53 a; refine (HA.out _).mono ?_; rintro e _ ⟨rfl, rfl⟩) | (go_at_call_of 53 b; refine (HB.out _).mono ?_; rintro e _ ⟨rfl, rfl⟩))
      go_ret
      exact ⟨rfl, rfl⟩
    · rw [if_neg hr]
      go_enter Tryz.func33, Tryz.ntmps33
      go_wp2_with (first | (go_at_call_of 53 a; refine (HA.out _).mono ?_; rintro e _ ⟨rfl, rfl⟩) | (go_at_call_of 53 b; refine (HB.out _).mono ?_; rintro e _ ⟨rfl, rfl⟩))
      go_ret
      exact ⟨rfl, rfl⟩
  · have : m = 1 := by rw [← hm]; split <;> omega
    subst this
    clear hm
    have hr : ¬ 0 < x % 1 := by omega
    rw [if_neg hr]
    go_enter Tryz.func33, Tryz.ntmps33
    go_wp2_with (first | (go_at_call_of 53 a; refine (HA.out _).mono ?_; rintro e _ ⟨rfl, rfl⟩) | (go_at_call_of 53 b; refine (HB.out _).mono ?_; rintro e _ ⟨rfl, rfl⟩))
    go_ret
    exact ⟨by rw [Int.ediv_one]; rfl, rfl⟩
set_option maxRecDepth 100000 in
set_option maxHeartbeats 4000000 in
theorem rplus_any (l : List Int) (v : Value) (B : Nat) (w : World) (hB : B ≤ w.heap.size) (hv : SRow 1 intE B w v l) :
    Calls Tryz.prog 35 #[v] w fun e w' => e = .returned (.int .i64 (plusI l)) ∧ w' = w := by
  obtain ⟨a, c, rfl, h1, h2, h3⟩ := hv
  have H3 := hidE h3
  obtain ⟨n, hn⟩ : ∃ n, l.length = n := ⟨_, rfl⟩
  have HN := hidE hn
  rw [hn] at h1 ⊢
  obtain ⟨res, hres⟩ : ∃ r, plusI l = r := ⟨_, rfl⟩
  have HR := hidE hres
  rw [hres]
  clear h3 hn hres
  go_enter Tryz.func35, Tryz.ntmps35
  go_wp2_with fail
  go_loopw [3, 4] (fun s i wr => ∃ (t : Int) (j : Nat), j ≤ n ∧ s = .int .i64 t ∧ i = .int .i64 j ∧ 0 ≤ t ∧ t ≤ 4611686018427387904 ∧ plusF t (l.drop j) = res ∧ wr = w) (fun _ i _ => n - (intOf i).toNat)
  case atStart => exact ⟨0, 0, Nat.zero_le _, rfl, rfl, by omega, by omega, HR.out, rfl⟩
  case round =>
    obtain ⟨t, j, hj, rfl, rfl, ht0, ht1, hrs, rfl⟩ := hrel
    have HRS := hidE hrs
    clear hrs
    by_cases hlt : j < n
    · have hlt' : (j : Int) < n := by omega
      obtain ⟨x, hx⟩ : ∃ q, l[j]? = some q := ⟨_, List.getElem?_eq_getElem (by have := HN.out; omega)⟩
      obtain ⟨bl, off, rfl, hbl, hc⟩ := H3.out.resolve_left (by intro e; rw [e] at hx; simp at hx)
      have cx := hc j x hx 0 _ rfl
      rw [Nat.mul_one, Nat.add_zero] at cx
      have HE := plusF_at (t := t) hx
      rw [HRS.out] at HE
      have HE := hidE HE
      clear hx hc
      have hc0 := cutI_nonneg x
      have hc1 := cutI_le x
      have HC := hidE (fun W => rcut_any x W)
      obtain ⟨cx1, hcx⟩ : ∃ q, cutI x = q := ⟨_, rfl⟩
      rw [hcx] at HE hc0 hc1
      rw [hcx] at HC
      clear hcx
      by_cases hm : 4611686018427387904 - t < cx1
      · have HE2 : Hid (res = plusF 4611686018427387904 (l.drop (j + 1))) := by
          have := HE.out
          rw [if_pos hm, show t + (4611686018427387904 - t) = 4611686018427387904 by omega] at this
          exact this
        have HD : Hid (∀ W, Calls Tryz.prog 53 #[.int .i64 (t + (4611686018427387904 - t))] W fun e w' => e = .returned (.int .i64 4611686018427387904) ∧ w' = W) := fun W => by
          have := rcut_any (t + (4611686018427387904 - t)) W
          rwa [show cutI (t + (4611686018427387904 - t)) = 4611686018427387904 by rw [cutI_in (by omega) (by omega)]; omega] at this
        go_wp2_with (first | (go_at_call_of 53 x; refine (HC.out _).mono ?_; rintro e _ ⟨rfl, rfl⟩) | (go_at_call 53; refine (HD.out _).mono ?_; rintro e _ ⟨rfl, rfl⟩))
        go_roundw
        case rel => exact ⟨_, j + 1, by omega, rfl, by go_num, by omega, by omega, HE2.out.symm, trivial⟩
        case measure => simp [intOf]; omega
      · have HE2 : Hid (res = plusF (t + cx1) (l.drop (j + 1))) := by
          have := HE.out
          rw [if_neg hm] at this
          exact this
        have HD : Hid (∀ W, Calls Tryz.prog 53 #[.int .i64 (t + cx1)] W fun e w' => e = .returned (.int .i64 (t + cx1)) ∧ w' = W) := fun W => by
          have := rcut_any (t + cx1) W
          rwa [cutI_in (by omega) (by omega)] at this
        go_wp2_with (first | (go_at_call_of 53 x; refine (HC.out _).mono ?_; rintro e _ ⟨rfl, rfl⟩) | (go_at_call 53; refine (HD.out _).mono ?_; rintro e _ ⟨rfl, rfl⟩))
        go_roundw
        case rel => exact ⟨_, j + 1, by omega, rfl, by go_num, by omega, by omega, HE2.out.symm, trivial⟩
        case measure => simp [intOf]; omega
    · have HF : Hid (res = t) := by
        show _ = _
        rw [← HRS.out, List.drop_of_length_le (by have := HN.out; omega)]
        rfl
      have hlt' : ¬ (j : Int) < n := by omega
      go_wp2_with fail
      go_ret
      exact ⟨by rw [HF.out]; rfl, rfl⟩
end Go.Proofs.YthfilnflgahcjaaGreatDoor

namespace Go.Proofs.YthfilnflgahcjaaGreatDoor
open Go.RowKit Go.Shelf
set_option linter.unusedVariables false
set_option linter.unusedSimpArgs false
attribute [local go_sem] Oper.semAt_some
theorem str_no {x y : ByteArray} (h : ¬ x = y) : (x.toList == y.toList) = false := beq_eq_false_iff_ne.2 fun e => h (by
  rw [ByteArray.toList_eq, ByteArray.toList_eq] at e
  exact Go.WideShapes.bytes_inj e)
theorem str_yes {x y : ByteArray} (h : x = y) : (x.toList == y.toList) = true := by rw [h]; exact beq_self_eq_true _
/-- What is told of the first row of some. -/
def findF {R : Type} (p : R → Prop) [DecidablePred p] (f : R → Int) : List R → Int
  | [] => 0
  | r :: l => if p r then f r else findF p f l
theorem findF_at {R : Type} {p : R → Prop} [DecidablePred p] {f : R → Int} {l : List R} {j : Nat} {x : R} (h : l[j]? = some x) : findF p f (l.drop j) = if p x then f x else findF p f (l.drop (j + 1)) := by
  obtain ⟨hj, hx⟩ := List.getElem?_eq_some_iff.1 h
  rw [List.drop_eq_getElem_cons hj, hx]; rfl
def rlabI (s : StatP) (lab : ByteArray) : Int := findF (fun r => r.1 = lab) (fun r => cutI r.2) s.labels
set_option maxRecDepth 100000 in
set_option maxHeartbeats 4000000 in
theorem rlab_any (s : StatP) (vl vt ve vk : Value) (lab : ByteArray) (B : Nat) (w : World) (hB : B ≤ w.heap.size) (h : StatL B w vl vt ve vk s) (hlab : okS lab) : Calls Tryz.prog 54 #[statV s vl vt ve vk, .string lab] w fun e w' => e = .returned (.int .i64 (rlabI s lab)) ∧ Below w.heap.size w w' := by
  have HL := hidE h.hl
  have HO := hidE h.ol
  obtain ⟨la, lc, rfl, l1, l2, l3⟩ := h.hl
  obtain ⟨ta, tc, rfl, _⟩ := h.ht
  obtain ⟨ea, ec, rfl, _⟩ := h.he
  obtain ⟨ka, kc, rfl, _⟩ := h.hk
  have H3 := hidE l3
  unfold statV
  obtain ⟨m, hm⟩ : ∃ m, s.labels.length = m := ⟨_, rfl⟩
  have HM := hidE hm
  rw [hm] at l1 ⊢
  obtain ⟨res, hres⟩ : ∃ r, rlabI s lab = r := ⟨_, rfl⟩
  have HR := hidE hres
  rw [hres]
  generalize s.nodes = n at *
  generalize s.rels = r at *
  generalize s.types.length = q2 at *
  generalize s.ends.length = q3 at *
  generalize s.keys.length = q4 at *
  clear h l3 hm hres HL
  go_enter Tryz.func54, Tryz.ntmps54
  go_upto_region 1 with fail
  have HW0 := hidE (below_new w (.cells #[.int .i64 n, .int .i64 r, .slice la m lc, .slice ta q2 tc, .slice ea q3 ec, .slice ka q4 kc] 33))
  have e2 : (w.alloc (.cells #[.int .i64 n, .int .i64 r, .slice la m lc, .slice ta q2 tc, .slice ea q3 ec, .slice ka q4 kc] 33)).cell? ⟨w.heap.size, 2, none⟩ = some (.slice la m lc) := cell_new _ _ _ _ _ rfl
  generalize w.alloc (.cells #[.int .i64 n, .int .i64 r, .slice la m lc, .slice ta q2 tc, .slice ea q3 ec, .slice ka q4 kc] 33) = W1 at *
  go_wp2_with fail
  go_loopw [5] (fun i wr => ∃ (j : Nat), j ≤ m ∧ i = .int .i64 j ∧ findF (fun r : ByteArray × Int => r.1 = lab) (fun r => cutI r.2) (s.labels.drop j) = res ∧ wr = W1) (fun i _ => m - (intOf i).toNat)
  case atStart => exact ⟨0, Nat.zero_le _, rfl, HR.out, rfl⟩
  case round =>
    obtain ⟨j, hj, rfl, hrs, rfl⟩ := hrel
    have HRS := hidE hrs
    clear hrs
    by_cases hlt : j < m
    · have hlt' : (j : Int) < m := by omega
      obtain ⟨⟨x, q⟩, hx⟩ : ∃ q, s.labels[j]? = some q := ⟨_, List.getElem?_eq_getElem (by have := HM.out; omega)⟩
      obtain ⟨bl, off, rfl, hbl, hc⟩ := H3.out.resolve_left (by intro e; rw [e] at hx; simp at hx)
      have c0 := (HW0.out.cell (p := ⟨bl, off + j * 2 + 0, none⟩) (Nat.lt_of_lt_of_le hbl hB)).trans (hc j _ hx 0 _ rfl)
      have c1 := (HW0.out.cell (p := ⟨bl, off + j * 2 + 1, none⟩) (Nat.lt_of_lt_of_le hbl hB)).trans (hc j _ hx 1 _ rfl)
      rw [Nat.add_zero] at c0
      have HE := findF_at (p := fun r : ByteArray × Int => r.1 = lab) (f := fun r => cutI r.2) hx
      rw [HRS.out] at HE
      have HE := hidE HE
      have HC := hidE (fun W => rcut_any q W)
      have hxo := HO.out _ (List.mem_of_getElem? hx)
      simp only at hxo c0 c1
      clear hx hc
      by_cases he : x = lab
      · have HF : Hid (res = cutI q) := by show _ = _; rw [HE.out, if_pos he]
        have hb := str_yes he
        go_wp2_with (go_at_call 53; refine (HC.out _).mono ?_; rintro e _ ⟨rfl, rfl⟩)
        go_ret
        exact ⟨by rw [HF.out]; rfl, HW0.out⟩
      · have HF : Hid (res = findF (fun r : ByteArray × Int => r.1 = lab) (fun r => cutI r.2) (s.labels.drop (j + 1))) := by show _ = _; rw [HE.out, if_neg he]
        have hb := str_no he
        clear he
        go_wp2_with fail
        go_roundw
        case rel => exact ⟨j + 1, by omega, by go_num, HF.out.symm, trivial⟩
        case measure => simp [intOf]; omega
    · have HF : Hid (res = 0) := by
        show _ = _
        rw [← HRS.out, List.drop_of_length_le (by have := HM.out; omega)]
        rfl
      have hlt' : ¬ (j : Int) < m := by omega
      go_wp2_with fail
      go_ret
      exact ⟨by rw [HF.out]; rfl, HW0.out⟩
end Go.Proofs.YthfilnflgahcjaaGreatDoor

