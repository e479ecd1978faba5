/- Contracts of the document's own And, Or, Xor and Not. -/
import Derived.Test.YtbpmhgcjefpigaaDoorWorks
namespace Go.Proofs.YtbpmhgcjefpigaaDoor
open Go.RowKit
set_option linter.unusedVariables false

theorem rknown_any (t : Int) (w : World) : Calls Tryd.prog 36 #[.int .i64 t] w fun e w' => e = .returned (.int .i64 (kn t)) ∧ w' = w := by
  by_cases h0 : t = 0
  · subst h0
    rw [show kn 0 = 0 by decide]
    go_enter Tryd.func36, Tryd.ntmps36
    go_wp2
    go_ret
    exact ⟨rfl, rfl⟩
  · by_cases h2 : t = 2
    · subst h2
      rw [show kn 2 = 2 by decide]
      go_enter Tryd.func36, Tryd.ntmps36
      go_wp2
      go_ret
      exact ⟨rfl, rfl⟩
    · have hk : kn t = 1 := by unfold kn; split <;> omega
      have x0 : (t == 0) = false := beq_eq_false_iff_ne.2 h0
      have x2 : (t == 2) = false := beq_eq_false_iff_ne.2 h2
      rw [hk]
      clear hk h0 h2
      go_enter Tryd.func36, Tryd.ntmps36
      go_wp2
      go_ret
      exact ⟨rfl, rfl⟩

theorem rnot_any (t : Int) (w : World) : Calls Tryd.prog 16 #[.int .i64 t] w fun e w' => e = .returned (.int .i64 (notI t)) ∧ w' = w := by
  rcases kn_three t with h | h | h
  all_goals
    have HN : Hid (notI t = 2 - kn t) := rfl
    go_enter Tryd.func16, Tryd.ntmps16
    go_wp2_with (go_at_call 36; refine (rknown_any _ _).mono ?_; rintro e w' ⟨rfl, rfl⟩)
    go_ret
    exact ⟨ret_int (by rw [HN.out, h]; rfl), rfl⟩

theorem rxor_any (x y : Int) (w : World) : Calls Tryd.prog 14 #[.int .i64 x, .int .i64 y] w fun e w' => e = .returned (.int .i64 (xorL [x, y])) ∧ w' = w := by
  rcases kn_three x with h | h | h
  all_goals
    rcases kn_three y with h2 | h2 | h2
    all_goals
      have HN : Hid (xorL [x, y] = tb 0 1 2 1 1 1 2 1 0 (tb 0 1 2 1 1 1 2 1 0 0 (kn x)) (kn y)) := rfl
      go_enter Tryd.func14, Tryd.ntmps14
      go_wp2_with (go_at_call 36; refine (rknown_any _ _).mono ?_; rintro e w' ⟨rfl, rfl⟩)
      go_ret
      exact ⟨ret_int (by rw [HN.out, h, h2]; rfl), rfl⟩

theorem andL_stays (l : List Int) : l.foldl (fun a z => tb 0 0 0 0 1 1 0 1 2 a (kn z)) 0 = 0 := by
  induction l with
  | nil => rfl
  | cons z r ih =>
    simp only [List.foldl_cons]
    have e : tb 0 0 0 0 1 1 0 1 2 0 (kn z) = 0 := by rcases kn_three z with h | h | h <;> rw [h] <;> rfl
    rw [e]; exact ih
theorem andL_ends {zs : List Int} {k : Nat} (h : andL (zs.take k) = 0) : andL zs = 0 := by
  unfold andL at *
  rw [← List.take_append_drop k zs, List.foldl_append, h]
  exact andL_stays _
theorem andL_next {zs : List Int} {k : Nat} {z v : Int} (hlt : k < zs.length) (HZ : zs.getD k 0 = z) (h : andL (zs.take k) = v) : andL (zs.take (k + 1)) = tb 0 0 0 0 1 1 0 1 2 v (kn z) := by
  have h3 : zs[k] = z := by rw [← HZ, List.getD_eq_getElem?_getD, List.getElem?_eq_getElem hlt]; rfl
  unfold andL at *
  rw [List.take_succ_eq_append_getElem hlt, List.foldl_append, h, h3]
  rfl

set_option maxHeartbeats 1600000 in
theorem rand_any (b off cap : Nat) (zs : List Int) (w : World) (hm : zs.length ≤ 17592186044416)
    (hc : ∀ j, j < zs.length → w.cell? ⟨b, off + j, none⟩ = some (.int .i64 (zs.getD j 0))) :
    Calls Tryd.prog 11 #[.slice (some ⟨b, off, none⟩) zs.length cap] w fun e w' => e = .returned (.int .i64 (andL zs)) ∧ w' = w := by
  have HC : Hid (∀ j, j < zs.length → w.cell? ⟨b, off + j, none⟩ = some (.int .i64 (zs.getD j 0))) := hc
  clear hc
  go_enter Tryd.func11, Tryd.ntmps11
  go_wp2
  go_loop [3, 4] (fun nv i => ∃ k : Nat, ∃ nb : Bool, k ≤ zs.length ∧ i = .int .i64 k ∧ nv = .bool nb ∧ andL (zs.take k) = (if nb then 1 else 2)) (fun _ i => zs.length - (intOf i).toNat)
  case atStart => exact ⟨0, false, by omega, rfl, rfl, rfl⟩
  case round =>
    obtain ⟨k, nb, hk, rfl, rfl, hr⟩ := hrel
    have HR : Hid (andL (zs.take k) = (if nb then 1 else 2)) := hr
    clear hr
    by_cases hlt : k < zs.length
    · have hcx := HC.out k hlt
      obtain ⟨z, hz⟩ : ∃ z, zs.getD k 0 = z := ⟨_, rfl⟩
      rw [hz] at hcx
      have HN : Hid (andL (zs.take (k + 1)) = tb 0 0 0 0 1 1 0 1 2 (if nb then 1 else 2) (kn z)) := andL_next hlt hz HR.out
      clear hz
      rcases kn_three z with h | h | h
      all_goals
        cases nb
        all_goals
          have HT := HN.out
          rw [h] at HT
          have HT2 : Hid (andL (zs.take (k + 1)) = _) := HT
          clear HT HN
          go_wp2_with (go_at_call 36; refine (rknown_any _ _).mono ?_; rintro e w' ⟨rfl, rfl⟩)
          first
            | (go_ret; exact ⟨ret_int (andL_ends HT2.out).symm, rfl⟩)
            | (go_round
               case rel => first | exact ⟨k + 1, false, by omega, by go_num, rfl, HT2.out⟩ | exact ⟨k + 1, true, by omega, by go_num, rfl, HT2.out⟩
               case measure => simp [intOf]; omega)
    · have HF : Hid (andL zs = (if nb then 1 else 2)) := by have := HR.out; rw [List.take_of_length_le (by omega)] at this; exact this
      clear HR
      cases nb
      all_goals
        go_wp2
        go_ret
        exact ⟨ret_int HF.out.symm, rfl⟩

theorem orL_stays (l : List Int) : l.foldl (fun a z => tb 0 1 2 1 1 2 2 2 2 a (kn z)) 2 = 2 := by
  induction l with
  | nil => rfl
  | cons z r ih =>
    simp only [List.foldl_cons]
    have e : tb 0 1 2 1 1 2 2 2 2 2 (kn z) = 2 := by rcases kn_three z with h | h | h <;> rw [h] <;> rfl
    rw [e]; exact ih
theorem orL_ends {zs : List Int} {k : Nat} (h : orL (zs.take k) = 2) : orL zs = 2 := by
  unfold orL at *
  rw [← List.take_append_drop k zs, List.foldl_append, h]
  exact orL_stays _
theorem orL_next {zs : List Int} {k : Nat} {z v : Int} (hlt : k < zs.length) (HZ : zs.getD k 0 = z) (h : orL (zs.take k) = v) : orL (zs.take (k + 1)) = tb 0 1 2 1 1 2 2 2 2 v (kn z) := by
  have h3 : zs[k] = z := by rw [← HZ, List.getD_eq_getElem?_getD, List.getElem?_eq_getElem hlt]; rfl
  unfold orL at *
  rw [List.take_succ_eq_append_getElem hlt, List.foldl_append, h, h3]
  rfl

set_option maxHeartbeats 1600000 in
theorem ror_any (b off cap : Nat) (zs : List Int) (w : World) (hm : zs.length ≤ 17592186044416)
    (hc : ∀ j, j < zs.length → w.cell? ⟨b, off + j, none⟩ = some (.int .i64 (zs.getD j 0))) :
    Calls Tryd.prog 12 #[.slice (some ⟨b, off, none⟩) zs.length cap] w fun e w' => e = .returned (.int .i64 (orL zs)) ∧ w' = w := by
  have HC : Hid (∀ j, j < zs.length → w.cell? ⟨b, off + j, none⟩ = some (.int .i64 (zs.getD j 0))) := hc
  clear hc
  go_enter Tryd.func12, Tryd.ntmps12
  go_wp2
  go_loop [3, 4] (fun nv i => ∃ k : Nat, ∃ nb : Bool, k ≤ zs.length ∧ i = .int .i64 k ∧ nv = .bool nb ∧ orL (zs.take k) = (if nb then 1 else 0)) (fun _ i => zs.length - (intOf i).toNat)
  case atStart => exact ⟨0, false, by omega, rfl, rfl, rfl⟩
  case round =>
    obtain ⟨k, nb, hk, rfl, rfl, hr⟩ := hrel
    have HR : Hid (orL (zs.take k) = (if nb then 1 else 0)) := hr
    clear hr
    by_cases hlt : k < zs.length
    · have hcx := HC.out k hlt
      obtain ⟨z, hz⟩ : ∃ z, zs.getD k 0 = z := ⟨_, rfl⟩
      rw [hz] at hcx
      have HN : Hid (orL (zs.take (k + 1)) = tb 0 1 2 1 1 2 2 2 2 (if nb then 1 else 0) (kn z)) := orL_next hlt hz HR.out
      clear hz
      rcases kn_three z with h | h | h
      all_goals
        cases nb
        all_goals
          have HT := HN.out
          rw [h] at HT
          have HT2 : Hid (orL (zs.take (k + 1)) = _) := HT
          clear HT HN
          go_wp2_with (go_at_call 36; refine (rknown_any _ _).mono ?_; rintro e w' ⟨rfl, rfl⟩)
          first
            | (go_ret; exact ⟨ret_int (orL_ends HT2.out).symm, rfl⟩)
            | (go_round
               case rel => first | exact ⟨k + 1, false, by omega, by go_num, rfl, HT2.out⟩ | exact ⟨k + 1, true, by omega, by go_num, rfl, HT2.out⟩
               case measure => simp [intOf]; omega)
    · have HF : Hid (orL zs = (if nb then 1 else 0)) := by have := HR.out; rw [List.take_of_length_le (by omega)] at this; exact this
      clear HR
      cases nb
      all_goals
        go_wp2
        go_ret
        exact ⟨ret_int HF.out.symm, rfl⟩
end Go.Proofs.YtbpmhgcjefpigaaDoor
