/- The reader goes over comments. -/
import Derived.Test.YtbjcdpenfijfoaaGreatDoorJoin6
namespace Go.Proofs.YtbjcdpenfijfoaaGreatDoor
open Go.RowKit Go.Shelf Go.Lexed
set_option linter.unusedVariables false
set_option linter.unusedSimpArgs false
theorem ext_end (s : ByteArray) (q : Nat) : (s.extract q s.size).data.toList = suf s q := by
  rw [ext_list, List.take_of_length_le]
  rw [suf_len]; exact Nat.le_refl _
theorem ext_end_size (s : ByteArray) (q : Nat) : (s.extract q s.size).size = s.size - q := by
  have h := congrArg List.length (ext_end s q)
  rw [suf_len] at h
  exact h
theorem prefix_in (t : ByteArray) (x : ByteArray) (ht : t.size ≤ 10000000000) (hx : x.size ≤ 1000) (w : World) : Calls Tryz.prog 119 #[.string t, .string x] w fun e w' => e = .returned (.bool (startsB t 0 x.data.toList)) ∧ w' = w := by
  have HP : Hid (x.size ≤ t.size → ((t.extract 0 x.size).toList == x.toList) = startsB t 0 x.data.toList) := fun h => by
    have := piece_eq t 0 x (by omega)
    rwa [Nat.zero_add] at this
  have HN : Hid (¬ x.size ≤ t.size → startsB t 0 x.data.toList = false) := fun h => by
    unfold startsB
    rw [Bool.eq_false_iff]
    intro e
    have := (List.isPrefixOf_iff_prefix.1 e).length_le
    simp only [List.length_drop, Array.length_toList] at this
    have e1 : x.data.size = x.size := rfl
    have e2 : t.data.size = t.size := rfl
    omega
  generalize startsB t 0 x.data.toList = v at HP HN ⊢
  go_enter Tryz.func119, Tryz.ntmps119
  by_cases h : x.size ≤ t.size
  · have h' : (x.size : Int) ≤ (t.size : Int) := by omega
    go_wp2_with fail
    go_ret
    refine ⟨?_, rfl⟩
    rw [← HP.out h]
    rfl
  · have h' : ¬ (x.size : Int) ≤ (t.size : Int) := by omega
    go_wp2_with fail
    go_ret
    rw [HN.out h]
    exact ⟨rfl, rfl⟩
theorem prefix_any (t : ByteArray) (x : ByteArray) (ht : t.size ≤ 10000000000) (hx : x.size ≤ 1000) (w : World) : Calls Tryz.prog 103 #[.string t, .string x] w fun e w' => e = .returned (.bool (startsB t 0 x.data.toList)) ∧ w' = w := by
  have HP := hidE (fun w => prefix_in t x ht hx w)
  go_enter Tryz.func103, Tryz.ntmps103
  go_wp2_with fail
  refine (HP.out _).mono ?_
  rintro e w1 ⟨rfl, rfl⟩
  go_wp2_with fail
  go_ret
  exact ⟨rfl, rfl⟩
theorem starts_suf (s : ByteArray) (q : Nat) (x : List UInt8) : startsB (s.extract q s.size) 0 x = startsB s q x := by
  unfold startsB
  rw [List.drop_zero, ext_end]
  rfl
theorem over_stop {s : ByteArray} {q : Nat} (h : startsB s q [10] = true) : q < s.size ∧ overB (suf s q) = suf s (q + 1) := by
  unfold startsB at h
  obtain ⟨t, ht⟩ := List.isPrefixOf_iff_prefix.1 h
  have e : suf s q = 10 :: t := ht.symm
  have hl := congrArg List.length e
  rw [suf_len] at hl
  simp only [List.length_cons] at hl
  have hq : q < s.size := by omega
  have e2 := suf_cons hq
  rw [e] at e2
  rw [e, overB, if_pos rfl]
  simp only [List.cons.injEq] at e2
  exact ⟨hq, e2.2⟩
theorem over_at {s : ByteArray} {q : Nat} (hq : q < s.size) (h : startsB s q [10] = false) : overB (suf s q) = overB (suf s (q + 1)) := by
  rw [suf_cons hq, overB, if_neg]
  intro e
  unfold startsB at h
  change List.isPrefixOf [10] (suf s q) = false at h
  rw [suf_cons hq, e] at h
  simp [List.isPrefixOf] at h
set_option maxHeartbeats 2000000 in
theorem note_line (a : Nat) (s : ByteArray) (k b : Nat) (w : World) (h : Rd w a s k b) (hk : k + 2 ≤ s.size) (hs : s.size ≤ 10000000000) :
    Calls Tryz.prog 86 #[.pointer (some ⟨a, 0, none⟩), .string ⟨#[10]⟩] w fun e w' => e = .returned (.tuple #[]) ∧ ∃ j : Nat, k < j ∧ j ≤ s.size ∧ suf s j = overB (suf s (k + 2)) ∧ Rd w' a s j b ∧ Fr a w.heap.size w w' := by
  have c1 := h.c1
  have z1 := h.z1
  have H := hidE h
  have HT := hidE need_true
  generalize hD : overB (suf s (k + 2)) = D
  have HD := hidE hD
  clear hD
  go_enter Tryz.func86, Tryz.ntmps86
  go_wp2_with fail
  go_step3
  go_wp2_with fail
  go_step3
  go_wp2_with fail
  clear c1 z1 h
  go_loopw [] (fun wr => ∃ q : Nat, k + 2 ≤ q ∧ q ≤ s.size ∧ Rd wr a s q b ∧ Fr a w.heap.size w wr ∧ overB (suf s q) = D) (fun wr => s.size - atOf wr a)
  case atStart => exact ⟨k + 2, Nat.le_refl _, hk, H.out.at (k + 2) _ (by go_num), (Fr.refl _ _ _).put _ _, HD.out⟩
  case round =>
    obtain ⟨q, hkq, hq, hr, hf, hall⟩ := hrel
    have HR := hidE hr
    have HF := hidE hf
    have HA := hidE hall
    have c0 := hr.c0
    have c1 := hr.c1
    have z1 := hr.z1
    clear hr hf hall
    have h0 : (0 : Int) ≤ q := by omega
    have h1 : (q : Int) ≤ s.size := by omega
    have HP := hidE (fun w => prefix_any (s.extract q s.size) ⟨#[10]⟩ (by rw [ext_end_size]; omega) (by decide) w)
    have HQ : Hid (startsB (s.extract q s.size) 0 (⟨#[10]⟩ : ByteArray).data.toList = startsB s q [10]) := starts_suf s q [10]
    rw [HQ.out] at HP
    cases hst : startsB s q [10] with
    | true =>
      rw [hst] at HP
      have HE := hidE (over_stop hst)
      clear hst
      have hlq := HE.out.1
      go_wp2_with fail
      go_quiet ((go_at_call 103; exact Calls.quiet_of_same (HP.out _)))
      go_wp2_with fail
      rw [Exit.noGoto_normal]
      go_end0
      exact ⟨rfl, q + 1, by omega, by omega, by rw [← HE.out.2]; exact HA.out, (HR.out.drewN _).at (q + 1) _ (by go_num), (HF.out.drewN _).put _ _⟩
    | false =>
      rw [hst] at HP
      by_cases hlt : q < s.size
      · have HE := hidE (over_at hlt hst)
        clear hst
        have hne : ((q : Int) == s.size) = false := ne_bool (by omega)
        go_wp2_with fail
        go_quiet ((go_at_call 103; exact Calls.quiet_of_same (HP.out _)))
        go_wp2_with fail
        go_quiet (fail)
        go_wp2_with fail
        go_roundw
        case rel => exact ⟨q + 1, by omega, by omega, (HR.out.drewN _).at (q + 1) _ (by go_num), (HF.out.drewN _).put _ _, by rw [← HE.out]; exact HA.out⟩
        case measure => rw [Rd.upTo ((HR.out.drewN _).at (q + 1) _ (by go_num)), HR.out.upTo]; omega
      · clear hst
        have hne : ((q : Int) == s.size) = true := eq_bool (by omega)
        have HE : Hid (suf s q = D) := by
          show _ = _
          have := HA.out
          rw [suf_end (i := q) (by omega)] at this ⊢
          exact this
        go_wp2_with fail
        go_quiet ((go_at_call 103; exact Calls.quiet_of_same (HP.out _)))
        go_wp2_with fail
        go_quiet (fail)
        go_wp2_with fail
        refine (HT.out _).mono ?_
        rintro e w1 ⟨rfl, rfl⟩
        go_wp2_with fail
        rw [Exit.noGoto_normal]
        go_end0
        exact ⟨rfl, q, by omega, hq, HE.out, HR.out.drewN _, HF.out.drewN _⟩
set_option maxHeartbeats 2000000 in
theorem note_star (a : Nat) (s : ByteArray) (k b : Nat) (w : World) (h : Rd w a s k b) (hk : k + 2 ≤ s.size) (hs : s.size ≤ 10000000000) :
    Calls Tryz.prog 86 #[.pointer (some ⟨a, 0, none⟩), .string ⟨#[42, 47]⟩] w fun e w' => ∃ j : Nat, k < j ∧ j ≤ s.size ∧ Rd w' a s j b ∧ Fr a w.heap.size w w' ∧ ((e = .returned (.tuple #[]) ∧ starB (suf s (k + 2)) = some (suf s j)) ∨ (e = gaveUp ∧ starB (suf s (k + 2)) = none)) := by
  have c1 := h.c1
  have z1 := h.z1
  have H := hidE h
  have HT := hidE need_false
  generalize hD : starB (suf s (k + 2)) = D
  have HD := hidE hD
  clear hD
  go_enter Tryz.func86, Tryz.ntmps86
  go_wp2_with fail
  go_step3
  go_wp2_with fail
  go_step3
  go_wp2_with fail
  clear c1 z1 h
  go_loopw [] (fun wr => ∃ q : Nat, k + 2 ≤ q ∧ q ≤ s.size ∧ Rd wr a s q b ∧ Fr a w.heap.size w wr ∧ starB (suf s q) = D) (fun wr => s.size - atOf wr a)
  case atStart => exact ⟨k + 2, Nat.le_refl _, hk, H.out.at (k + 2) _ (by go_num), (Fr.refl _ _ _).put _ _, HD.out⟩
  case round =>
    obtain ⟨q, hkq, hq, hr, hf, hall⟩ := hrel
    have HR := hidE hr
    have HF := hidE hf
    have HA := hidE hall
    have c0 := hr.c0
    have c1 := hr.c1
    have z1 := hr.z1
    clear hr hf hall
    have h0 : (0 : Int) ≤ q := by omega
    have h1 : (q : Int) ≤ s.size := by omega
    have HP := hidE (fun w => prefix_any (s.extract q s.size) ⟨#[42, 47]⟩ (by rw [ext_end_size]; omega) (by decide) w)
    have HQ : Hid (startsB (s.extract q s.size) 0 (⟨#[42, 47]⟩ : ByteArray).data.toList = startsB s q [42, 47]) := starts_suf s q [42, 47]
    rw [HQ.out] at HP
    cases hst : startsB s q [42, 47] with
    | true =>
      rw [hst] at HP
      have HE := hidE (starts_two hst)
      clear hst
      have hlq := HE.out.2
      have HE2 : Hid (D = some (suf s (q + 2))) := by
        show _ = _
        rw [← HA.out, HE.out.1, starB]; rfl
      go_wp2_with fail
      go_quiet ((go_at_call 103; exact Calls.quiet_of_same (HP.out _)))
      go_wp2_with fail
      rw [Exit.noGoto_normal]
      go_end0
      exact ⟨q + 2, by omega, by omega, (HR.out.drewN _).at (q + 2) _ (by go_num), (HF.out.drewN _).put _ _, .inl ⟨rfl, HE2.out⟩⟩
    | false =>
      rw [hst] at HP
      by_cases hlt : q < s.size
      · have HE := hidE (star_at hlt hst)
        clear hst
        have hne : ((q : Int) == s.size) = false := ne_bool (by omega)
        go_wp2_with fail
        go_quiet ((go_at_call 103; exact Calls.quiet_of_same (HP.out _)))
        go_wp2_with fail
        go_quiet (fail)
        go_wp2_with fail
        go_roundw
        case rel => exact ⟨q + 1, by omega, by omega, (HR.out.drewN _).at (q + 1) _ (by go_num), (HF.out.drewN _).put _ _, by rw [← HE.out]; exact HA.out⟩
        case measure => rw [Rd.upTo ((HR.out.drewN _).at (q + 1) _ (by go_num)), HR.out.upTo]; omega
      · clear hst
        have hne : ((q : Int) == s.size) = true := eq_bool (by omega)
        have HE : Hid (D = none) := by
          show _ = _
          rw [← HA.out, suf_end (i := q) (by omega)]; rfl
        go_wp2_with fail
        go_quiet ((go_at_call 103; exact Calls.quiet_of_same (HP.out _)))
        go_wp2_with fail
        go_quiet (fail)
        go_wp2_with fail
        refine (HT.out _).mono ?_
        rintro e w1 ⟨rfl, rfl⟩
        exact ⟨rfl, q, by omega, hq, HR.out.drewN _, HF.out.drewN _, .inr ⟨rfl, HE.out⟩⟩
end Go.Proofs.YtbjcdpenfijfoaaGreatDoor
