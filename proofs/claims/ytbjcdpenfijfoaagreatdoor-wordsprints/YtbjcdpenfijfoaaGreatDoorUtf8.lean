/- The document's UTF-8 is the program's. -/
import Derived.Test.YtbjcdpenfijfoaaGreatDoorUtf
namespace Go.Proofs.YtbjcdpenfijfoaaGreatDoor
open Go.RowKit Go.Shelf
set_option linter.unusedVariables false

theorem byteN_getD (s : ByteArray) (i j : Nat) : ((s.data.toList.drop i).getD j 0).toNat = byteN s (i + j) := by
  unfold byteN; simp [List.getD]
theorem byteN_lt (s : ByteArray) (i : Nat) : byteN s i < 256 := (s.data.toList.getD i 0).toNat_lt
theorem moreB_iff {s : ByteArray} {i : Nat} : moreB s i = true ↔ i < s.size ∧ 128 ≤ byteN s i ∧ byteN s i ≤ 191 := by
  unfold moreB; simp

/-- A text is valid from a place on as its first rune says. -/
theorem valid_step (s : ByteArray) (i : Nat) (hi : i < s.size) :
    Lib.validD (s.data.toList.drop i) = if runeN s i = 0 then false else Lib.validD (s.data.toList.drop (i + runeN s i)) := by
  have hlen : (s.data.toList.drop i).length = s.size - i := by simp
  have hne : s.data.toList.drop i ≠ [] := by intro e; rw [e] at hlen; simp at hlen; omega
  have e0 := byteN_getD s i 0
  have e1 := byteN_getD s i 1
  have e2 := byteN_getD s i 2
  have e3 := byteN_getD s i 3
  rw [Nat.add_zero] at e0
  by_cases c1 : byteN s i < 128
  · have hr : runeN s i = 1 := by unfold runeN; rw [if_pos c1]
    rw [hr, if_neg (by omega)]
    have hd : s.data.toList.drop i = (s.data.toList.drop i).getD 0 0 :: s.data.toList.drop (i + 1) := by
      have h' : i < s.data.toList.length := by simpa using hi
      rw [List.drop_eq_getElem_cons h']; simp
    rw [hd, Lib.validD_cons _ _ (by rw [e0]; exact c1)]
  · rw [Lib.validD_lead _ hne (by rw [e0]; omega), e0, e1, e2, e3, hlen]
    have h1 := byteN_lt s i
    have hm1 := @moreB_iff s (i + 1)
    have hm2 := @moreB_iff s (i + 2)
    have hm3 := @moreB_iff s (i + 3)
    have key : Lib.checkN (s.size - i) (byteN s (i + 1)) (byteN s (i + 2)) (byteN s (i + 3)) (Lib.firstT (byteN s i) % 8) (Lib.accLo (Lib.firstT (byteN s i) / 16)) (Lib.accHi (Lib.firstT (byteN s i) / 16)) = if runeN s i = 0 then none else some (runeN s i) := by
      have HR0 : runeN s i = if byteN s i < 128 then 1
        else if (194 ≤ byteN s i ∧ byteN s i ≤ 223) ∧ moreB s (i + 1) = true then 2
        else if (224 ≤ byteN s i ∧ byteN s i ≤ 239) ∧ moreB s (i + 1) = true ∧ moreB s (i + 2) = true then
          (if (byteN s i = 224 ∧ byteN s (i + 1) < 160) ∨ (byteN s i = 237 ∧ 159 < byteN s (i + 1)) then 0 else 3)
        else if (240 ≤ byteN s i ∧ byteN s i ≤ 244) ∧ moreB s (i + 1) = true ∧ moreB s (i + 2) = true ∧ moreB s (i + 3) = true then
          (if (byteN s i = 240 ∧ byteN s (i + 1) < 144) ∨ (byteN s i = 244 ∧ 143 < byteN s (i + 1)) then 0 else 4)
        else 0 := rfl
      rw [if_neg c1] at HR0
      simp only [hm1, hm2, hm3] at HR0
      generalize runeN s i = rn at *
      generalize byteN s (i + 1) = b1 at *
      generalize byteN s (i + 2) = b2 at *
      generalize byteN s (i + 3) = b3 at *
      generalize byteN s i = c at *
      clear hm1 hm2 hm3 e0 e1 e2 e3 hne hlen
      by_cases c2 : c < 194
      · have hf : Lib.firstT c = 241 := by unfold Lib.firstT; rw [if_neg c1, if_pos c2]
        have hr : rn = 0 := HR0.trans (by rw [if_neg (by omega), if_neg (by omega), if_neg (by omega)])
        rw [hf, hr]; rfl
      by_cases c3 : c ≤ 223
      · have hf : Lib.firstT c = 2 := by unfold Lib.firstT; rw [if_neg c1, if_neg c2, if_pos (by omega)]
        rw [hf]
        show (if s.size - i < 2 ∨ b1 < 128 ∨ 191 < b1 then none else some 2) = _
        by_cases hm : i + 1 < s.size ∧ 128 ≤ b1 ∧ b1 ≤ 191
        · have hr : rn = 2 := HR0.trans (by rw [if_pos ⟨⟨by omega, c3⟩, hm⟩])
          rw [if_neg (by omega), hr]; rfl
        · have hr : rn = 0 := HR0.trans (by rw [if_neg (fun h => hm h.2), if_neg (by omega), if_neg (by omega)])
          rw [if_pos (by omega), hr]; rfl
      by_cases c4 : c ≤ 239
      · have fin : ∀ lo hi, (lo = (if c = 224 then 160 else 128)) → (hi = (if c = 237 then 159 else 191)) → (if s.size - i < 3 ∨ b1 < lo ∨ hi < b1 ∨ b2 < 128 ∨ 191 < b2 then none else some 3) = (if rn = 0 then none else some rn) := by
          intro lo hi hlo hhi
          by_cases hm : (i + 1 < s.size ∧ 128 ≤ b1 ∧ b1 ≤ 191) ∧ (i + 2 < s.size ∧ 128 ≤ b2 ∧ b2 ≤ 191)
          · have h1 := HR0.trans (by rw [if_neg (by omega), if_pos ⟨⟨by omega, c4⟩, hm⟩])
            by_cases hx : (c = 224 ∧ b1 < 160) ∨ (c = 237 ∧ 159 < b1)
            · rw [if_pos hx] at h1
              rw [if_pos (by subst hlo hhi; rcases hx with ⟨e, h⟩ | ⟨e, h⟩; (rw [if_pos e]; omega); (rw [if_pos e]; omega)), h1]; rfl
            · rw [if_neg hx] at h1
              rw [if_neg (by subst hlo hhi; intro hh; split at hh <;> split at hh <;> omega), h1]; rfl
          · have h1 : rn = 0 := HR0.trans (by rw [if_neg (by omega), if_neg (fun h => hm h.2), if_neg (by omega)])
            rw [if_pos (by subst hlo hhi; split <;> split <;> omega), h1]; rfl
        by_cases d0 : c = 224
        · have hf : Lib.firstT c = 19 := by subst d0; rfl
          rw [hf]; exact fin 160 191 (by rw [if_pos d0]) (by rw [if_neg (by omega)])
        by_cases d1 : c = 237
        · have hf : Lib.firstT c = 35 := by subst d1; rfl
          rw [hf]; exact fin 128 159 (by rw [if_neg (by omega)]) (by rw [if_pos d1])
        · have hf : Lib.firstT c = 3 := by unfold Lib.firstT; split <;> (try omega) <;> (repeat (first | rfl | omega | split))
          rw [hf]; exact fin 128 191 (by rw [if_neg d0]) (by rw [if_neg d1])
      by_cases c5 : c ≤ 244
      · have fin : ∀ lo hi, (lo = (if c = 240 then 144 else 128)) → (hi = (if c = 244 then 143 else 191)) → (if s.size - i < 4 ∨ b1 < lo ∨ hi < b1 ∨ b2 < 128 ∨ 191 < b2 ∨ b3 < 128 ∨ 191 < b3 then none else some 4) = (if rn = 0 then none else some rn) := by
          intro lo hi hlo hhi
          by_cases hm : (i + 1 < s.size ∧ 128 ≤ b1 ∧ b1 ≤ 191) ∧ (i + 2 < s.size ∧ 128 ≤ b2 ∧ b2 ≤ 191) ∧ (i + 3 < s.size ∧ 128 ≤ b3 ∧ b3 ≤ 191)
          · have h1 := HR0.trans (by rw [if_neg (by omega), if_neg (by omega), if_pos ⟨⟨by omega, c5⟩, hm⟩])
            by_cases hx : (c = 240 ∧ b1 < 144) ∨ (c = 244 ∧ 143 < b1)
            · rw [if_pos hx] at h1
              rw [if_pos (by subst hlo hhi; rcases hx with ⟨e, h⟩ | ⟨e, h⟩; (rw [if_pos e]; omega); (rw [if_pos e]; omega)), h1]; rfl
            · rw [if_neg hx] at h1
              rw [if_neg (by subst hlo hhi; intro hh; split at hh <;> split at hh <;> omega), h1]; rfl
          · have h1 : rn = 0 := HR0.trans (by rw [if_neg (by omega), if_neg (by omega), if_neg (fun h => hm h.2)])
            rw [if_pos (by subst hlo hhi; split <;> split <;> omega), h1]; rfl
        by_cases d0 : c = 240
        · have hf : Lib.firstT c = 52 := by subst d0; rfl
          rw [hf]; exact fin 144 191 (by rw [if_pos d0]) (by rw [if_neg (by omega)])
        by_cases d1 : c = 244
        · have hf : Lib.firstT c = 68 := by subst d1; rfl
          rw [hf]; exact fin 128 143 (by rw [if_neg (by omega)]) (by rw [if_pos d1])
        · have hf : Lib.firstT c = 4 := by unfold Lib.firstT; split <;> (try omega) <;> (repeat (first | rfl | omega | split))
          rw [hf]; exact fin 128 191 (by rw [if_neg d0]) (by rw [if_neg d1])
      · have hf : Lib.firstT c = 241 := by unfold Lib.firstT; split <;> (try omega) <;> (repeat (first | rfl | omega | split))
        have hr : rn = 0 := HR0.trans (by rw [if_neg (by omega), if_neg (by omega), if_neg (by omega)])
        rw [hf, hr]; rfl
    rw [key]
    by_cases hz : runeN s i = 0
    · rw [if_pos hz, if_pos hz]
    · rw [if_neg hz, if_neg hz]
      show Lib.validD (List.drop (runeN s i) (List.drop i s.data.toList)) = _
      rw [List.drop_drop]

theorem runeN_le {s : ByteArray} {i : Nat} (hi : i < s.size) : i + runeN s i ≤ s.size := by
  unfold runeN
  have hm1 := @moreB_iff s (i + 1)
  have hm2 := @moreB_iff s (i + 2)
  have hm3 := @moreB_iff s (i + 3)
  split
  · omega
  · split
    · rename_i h; have := hm1.1 h.2; omega
    · split
      · rename_i h; have := hm2.1 h.2.2; split <;> omega
      · split
        · rename_i h; have := hm3.1 h.2.2.2; split <;> omega
        · omega

set_option maxHeartbeats 1000000 in
theorem utf_any (s : ByteArray) (w : World) (hs : s.size ≤ 140737488355328) :
    Calls Tryz.prog 44 #[.string s] w fun e w' => e = .returned (.bool (Lib.validD s.data.toList)) ∧ w' = w := by
  go_enter Tryz.func44, Tryz.ntmps44
  go_wp2_with fail
  go_loop [3] (fun i => ∃ j : Nat, j ≤ s.size ∧ i = .int .i64 j ∧ Lib.validD (s.data.toList.drop j) = Lib.validD s.data.toList) (fun i => s.size - (intOf i).toNat)
  case atStart => exact ⟨0, Nat.zero_le _, rfl, rfl⟩
  case round =>
    obtain ⟨j, hj, rfl, hv⟩ := hrel
    have HV := hidE hv
    clear hv
    by_cases hlt : j < s.size
    · have HST := hidE (valid_step s j hlt)
      have HC := hidE (rune_any s j w hs hlt)
      have hle := runeN_le hlt
      generalize runeN s j = rn at *
      go_wp2_with fail
      refine HC.out.mono ?_
      rintro e w1 ⟨rfl, rfl⟩
      by_cases h0 : rn = 0
      · have h0' : ((rn : Int) == 0) = true := beq_iff_eq.2 (by omega)
        have HF : Hid (Lib.validD s.data.toList = false) := by
          have := HST.out
          rw [if_pos h0, HV.out] at this
          exact this
        clear h0
        go_wp2_with fail
        go_ret
        exact ⟨by rw [HF.out]; rfl, rfl⟩
      · have h0' : ((rn : Int) == 0) = false := beq_eq_false_iff_ne.2 (by omega)
        have HF : Hid (Lib.validD (s.data.toList.drop (j + rn)) = Lib.validD s.data.toList) := by
          have := HST.out
          rw [if_neg h0, HV.out] at this
          exact this.symm
        go_wp2_with fail
        go_round
        case rel => exact ⟨j + rn, hle, by go_num, HF.out⟩
        case measure => simp [intOf]; omega
    · have HF : Hid (Lib.validD s.data.toList = true) := by
        have := HV.out
        rw [List.drop_of_length_le (by simp; omega)] at this
        exact this.symm
      go_wp2_with fail
      go_ret
      exact ⟨by rw [HF.out]; rfl, rfl⟩
end Go.Proofs.YtbjcdpenfijfoaaGreatDoor
