/- The document's numbers. -/
import Derived.Test.YtbjcdpenfijfoaaGreatDoorJoin5
namespace Go.Proofs.YtbjcdpenfijfoaaGreatDoor
open Go.RowKit Go.Shelf Go.Lexed
set_option linter.unusedVariables false
set_option linter.unusedSimpArgs false
theorem val_more : ∀ (l : List UInt8) (a : Nat), a ≤ l.foldl (fun a c => 10 * a + (c.toNat - 48)) a
  | [], a => Nat.le_refl _
  | c :: l, a => by
    rw [List.foldl_cons]
    exact Nat.le_trans (by omega) (val_more l _)
theorem valD_app (l m : List UInt8) : valD l ≤ valD (l ++ m) := by
  unfold valD
  rw [List.foldl_append]
  exact val_more _ _
theorem num_end {s : ByteArray} {i q n : Nat} {pre : List UInt8} (hi : i < s.size) (h1 : (suf s i).takeWhile isD = pre) (h2 : (suf s i).dropWhile isD = suf s q) (hn : valD pre = n) (hM : n ≤ 9223372036854775808) (hl : pre.length = q - i) :
    numB (suf s i) = if (s[i] ≠ 48 ∨ q - i = 1) ∧ (∀ c ∈ (suf s q).head?, isL c = false) then some (⟨4, [], n⟩, suf s q) else none := by
  unfold numB
  simp only [h1, h2, hn, hl]
  have hh : (suf s i).head? = some s[i] := by rw [suf_cons hi]; rfl
  rw [hh]
  simp only [ne_eq, Option.some.injEq, hM, true_and]
theorem num_great {s : ByteArray} {i : Nat} {pre : List UInt8} {r : List UInt8} (h1 : (suf s i).takeWhile isD = pre ++ r) (hn : 9223372036854775808 < valD pre) : numB (suf s i) = none := by
  unfold numB
  simp only
  rw [if_neg]
  rintro ⟨h, _⟩
  rw [h1] at h
  have := valD_app pre r
  omega
theorem run_on {s : ByteArray} {q : Nat} (hq : q < s.size) (h : isD s[q] = true) : (suf s q).takeWhile isD = s[q] :: (suf s (q + 1)).takeWhile isD ∧ (suf s q).dropWhile isD = (suf s (q + 1)).dropWhile isD := by
  rw [suf_cons hq]
  simp [List.takeWhile, List.dropWhile, h]
theorem run_off {s : ByteArray} {q : Nat} (h : ∀ hq : q < s.size, isD s[q] = false) : (suf s q).takeWhile isD = [] ∧ (suf s q).dropWhile isD = suf s q := by
  by_cases hq : q < s.size
  · rw [suf_cons hq]
    simp [List.takeWhile, List.dropWhile, h hq]
  · rw [suf_end (by omega)]
    simp
/-- What reading a number answers. -/
def NumTo (s : ByteArray) (i : Nat) (e : Ending) : Prop :=
  (∃ n j : Nat, n ≤ 9223372036854775808 ∧ i < j ∧ j ≤ s.size ∧ numB (suf s i) = some (⟨4, [], n⟩, suf s j) ∧ e = .returned (.tuple #[.int .u64 (n : Int), .int .i64 (j : Int), .bool true])) ∨
  (numB (suf s i) = none ∧ ∃ n j : Nat, e = .returned (.tuple #[.int .u64 (n : Int), .int .i64 (j : Int), .bool false]))
/-- What is read so far. -/
def NumAt (s : ByteArray) (i q n : Nat) : Prop := ∃ pre : List UInt8, (suf s i).takeWhile isD = pre ++ (suf s q).takeWhile isD ∧ (suf s i).dropWhile isD = (suf s q).dropWhile isD ∧ valD pre = n ∧ pre.length = q - i
theorem NumAt.next {s : ByteArray} {i q n m : Nat} (h : NumAt s i q n) (hiq : i ≤ q) (hq : q < s.size) (hd : isD s[q] = true) (hm : s[q].toNat = m) : NumAt s i (q + 1) (10 * n + (m - 48)) := by
  obtain ⟨pre, h1, h2, h3, h4⟩ := h
  obtain ⟨e1, e2⟩ := run_on hq hd
  refine ⟨pre ++ [s[q]], by rw [h1, e1]; simp, by rw [h2, e2], by rw [valD_snoc, h3, hm], by simp; omega⟩
theorem NumAt.great {s : ByteArray} {i q n m : Nat} (h : NumAt s i q n) (hiq : i ≤ q) (hq : q < s.size) (hd : isD s[q] = true) (hm : s[q].toNat = m) (hM : 9223372036854775808 < 10 * n + (m - 48)) : numB (suf s i) = none := by
  obtain ⟨pre, h1, h2, h3, h4⟩ := h
  obtain ⟨e1, e2⟩ := run_on hq hd
  refine num_great (pre := pre ++ [s[q]]) (r := (suf s (q + 1)).takeWhile isD) (by rw [h1, e1]; simp) (by rw [valD_snoc, h3, hm]; exact hM)
theorem NumAt.stop {s : ByteArray} {i q n : Nat} (h : NumAt s i q n) (hi : i < s.size) (hM : n ≤ 9223372036854775808) (hq : ∀ hq : q < s.size, isD s[q] = false) :
    numB (suf s i) = if (s[i] ≠ 48 ∨ q - i = 1) ∧ (∀ c ∈ (suf s q).head?, isL c = false) then some (⟨4, [], n⟩, suf s q) else none := by
  obtain ⟨pre, h1, h2, h3, h4⟩ := h
  obtain ⟨e1, e2⟩ := run_off hq
  exact num_end hi (by rw [h1, e1]; simp) (by rw [h2, e2]) h3 hM h4
set_option maxRecDepth 100000 in
set_option maxHeartbeats 4000000 in
theorem rnumber_any (s : ByteArray) (i : Nat) (hi : i < s.size) (hd0 : isD s[i] = true) (hs : s.size ≤ 10000000000) (w : World) : Calls Tryz.prog 57 #[.string s, .int .i64 (i : Int)] w fun e w' => NumTo s i e ∧ w' = w := by
  have HD0 := hidE hd0
  clear hd0
  have HD := hidE (fun n hn w => rdigit_any n hn w)
  have HL := hidE (fun n hn w => rletter_any n hn w)
  go_enter Tryz.func57, Tryz.ntmps57
  go_wp2_with fail
  go_loopw [7, 8] (fun x v wr => ∃ q n : Nat, i ≤ q ∧ q ≤ s.size ∧ n ≤ 9223372036854775808 ∧ x = .int .u64 n ∧ v = .int .i64 q ∧ wr = w ∧ NumAt s i q n) (fun _ v _ => s.size - (intOf v).toNat)
  case atStart => exact ⟨i, 0, Nat.le_refl _, by omega, by omega, rfl, rfl, rfl, [], rfl, rfl, rfl, by simp⟩
  case round =>
    obtain ⟨q, n, hiq, hq, hnM, rfl, rfl, rfl, hat⟩ := hrel
    have HAT := hidE hat
    clear hat
    by_cases hlt : q < s.size
    · have hlt' : (q : Int) < s.size := by omega
      obtain ⟨m, hm⟩ : ∃ m, s[q].toNat = m := ⟨_, rfl⟩
      have hm2 : m < 256 := by rw [← hm]; exact s[q].toNat_lt
      have hm' : (s[q].toNat : Int) = m := by rw [hm]
      have HM := hidE hm
      clear hm
      go_wp2_with fail
      refine (HD.out m hm2 _).mono ?_
      rintro e w1 ⟨rfl, rfl⟩
      cases hdg : digN m with
      | true =>
        have hds : 48 ≤ m ∧ m ≤ 57 := by simpa [digN] using hdg
        have HIS : Hid (isD s[q] = true) := by show _ = _; rw [isD_dig, HM.out, hdg]
        clear hdg
        have a48 : (48 : Int) ≤ m := by omega
        have a57 : (m : Int) ≤ 57 := by omega
        by_cases hg : 9223372036854775808 < 10 * n + (m - 48)
        · have HNO := hidE (HAT.out.great hiq hlt HIS.out HM.out hg)
          have hg' : (9223372036854775808 - ((m : Int) - 48)) / 10 < n := by omega
          go_wp2_with fail
          refine bodyPost_ret (v := .tuple #[.int .u64 ((0 : Nat) : Int), .int .i64 (i : Int), .bool false]) ?_ rfl ?_
          · simp [results, Tryz.results57, go_sem]
          · exact ⟨.inr ⟨HNO.out, 0, i, rfl⟩, rfl⟩
        · have HNX := hidE (HAT.out.next hiq hlt HIS.out HM.out)
          have hg' : ¬ (9223372036854775808 - ((m : Int) - 48)) / 10 < n := by omega
          go_wp2_with fail
          go_roundw
          case rel => exact ⟨q + 1, 10 * n + (m - 48), by omega, by omega, by omega, by go_num, by go_num, trivial, HNX.out⟩
          case measure => simp [intOf]; omega
      | false =>
        have HNS : Hid (∀ hq : q < s.size, isD s[q] = false) := by
          intro hq
          rw [isD_dig, HM.out, hdg]
        clear hdg
        have hiq2 : i < q := by
          rcases Nat.lt_or_ge i q with h | h
          · exact h
          · have e : q = i := by omega
            subst e
            have := HNS.out hlt
            rw [HD0.out] at this
            cases this
        have HST := hidE (HAT.out.stop hi hnM HNS.out)
        obtain ⟨c0, hc0⟩ : ∃ c, s[i].toNat = c := ⟨_, rfl⟩
        have hc0' : (s[i].toNat : Int) = c0 := by rw [hc0]
        have HC0 := hidE hc0
        clear hc0
        have hi' : (i : Int) < s.size := by omega
        have hqs : ((q : Int) == (s.size : Int)) = false := ne_bool (by omega)
        have HHD : Hid ((suf s q).head? = some s[q]) := by show _ = _; rw [suf_cons hlt]; rfl
        have HNE : Hid (¬ c0 = 48 → s[i] ≠ 48) := fun h e => h (by rw [← HC0.out, e]; rfl)
        have HEQ : Hid (c0 = 48 → s[i] = 48) := fun h => (show s[i] = UInt8.ofNat s[i].toNat by simp).trans (by rw [HC0.out, h]; rfl)
        by_cases k0 : c0 = 48
        · have k48 : ((c0 : Int) != 48) = false := by rw [k0]; rfl
          by_cases kq : q = i + 1
          · have kq' : ((q : Int) == (i : Int) + 1) = true := eq_bool (by omega)
            have HKQ : Hid (q - i = 1) := by show _ = _; omega
            have HK0 := hidE k0
            clear kq k0
            cases hlt2 : letN m with
            | true =>
              have HNO : Hid (numB (suf s i) = none) := by
                show _ = _
                rw [HST.out, if_neg]
                rintro ⟨_, h⟩
                have := h s[q] (by rw [HHD.out]; rfl)
                rw [isL_let, HM.out, hlt2] at this
                cases this
              go_wp2_with fail
              refine (HL.out m hm2 _).mono ?_
              rw [hlt2]
              rintro e w1 ⟨rfl, rfl⟩
              go_wp2_with fail
              go_ret3
              exact ⟨.inr ⟨HNO.out, n, q, rfl⟩, rfl⟩
            | false =>
              have HYE : Hid (numB (suf s i) = some (⟨4, [], n⟩, suf s q)) := by
                show _ = _
                rw [HST.out, if_pos]
                refine ⟨.inr HKQ.out, fun c hc => ?_⟩
                rw [HHD.out] at hc
                simp only [Option.mem_some_iff] at hc
                rw [← hc, isL_let, HM.out, hlt2]
              go_wp2_with fail
              refine (HL.out m hm2 _).mono ?_
              rw [hlt2]
              rintro e w1 ⟨rfl, rfl⟩
              go_wp2_with fail
              go_ret3
              exact ⟨.inl ⟨n, q, hnM, hiq2, hq, HYE.out, rfl⟩, rfl⟩
          · have kq' : ((q : Int) == (i : Int) + 1) = false := ne_bool (by omega)
            have HNO : Hid (numB (suf s i) = none) := by
              show _ = _
              rw [HST.out, if_neg]
              rintro ⟨h | h, _⟩
              · exact h (HEQ.out k0)
              · omega
            clear k0
            go_wp2_with fail
            go_ret3
            exact ⟨.inr ⟨HNO.out, n, q, rfl⟩, rfl⟩
        · have k48 : ((c0 : Int) != 48) = true := by rw [bne_iff_ne]; omega
          cases hlt2 : letN m with
          | true =>
            have HNO : Hid (numB (suf s i) = none) := by
              show _ = _
              rw [HST.out, if_neg]
              rintro ⟨_, h⟩
              have := h s[q] (by rw [HHD.out]; rfl)
              rw [isL_let, HM.out, hlt2] at this
              cases this
            go_wp2_with fail
            refine (HL.out m hm2 _).mono ?_
            rw [hlt2]
            rintro e w1 ⟨rfl, rfl⟩
            go_wp2_with fail
            go_ret3
            exact ⟨.inr ⟨HNO.out, n, q, rfl⟩, rfl⟩
          | false =>
            have HYE : Hid (numB (suf s i) = some (⟨4, [], n⟩, suf s q)) := by
              show _ = _
              rw [HST.out, if_pos]
              refine ⟨.inl (HNE.out k0), fun c hc => ?_⟩
              rw [HHD.out] at hc
              simp only [Option.mem_some_iff] at hc
              rw [← hc, isL_let, HM.out, hlt2]
            go_wp2_with fail
            refine (HL.out m hm2 _).mono ?_
            rw [hlt2]
            rintro e w1 ⟨rfl, rfl⟩
            go_wp2_with fail
            go_ret3
            exact ⟨.inl ⟨n, q, hnM, hiq2, hq, HYE.out, rfl⟩, rfl⟩
    · have hlt' : ¬ (q : Int) < s.size := by omega
      have hiq2 : i < q := by omega
      have HNS : Hid (∀ hq : q < s.size, isD s[q] = false) := fun h => absurd h hlt
      have HST := hidE (HAT.out.stop hi hnM HNS.out)
      obtain ⟨c0, hc0⟩ : ∃ c, s[i].toNat = c := ⟨_, rfl⟩
      have hc0' : (s[i].toNat : Int) = c0 := by rw [hc0]
      have HC0 := hidE hc0
      clear hc0
      have hi' : (i : Int) < s.size := by omega
      have hqs : ((q : Int) == (s.size : Int)) = true := eq_bool (by omega)
      have HHD : Hid ((suf s q).head? = none) := by show _ = _; rw [suf_end (by omega)]; rfl
      have HNE : Hid (¬ c0 = 48 → s[i] ≠ 48) := fun h e => h (by rw [← HC0.out, e]; rfl)
      have HEQ : Hid (c0 = 48 → s[i] = 48) := fun h => (show s[i] = UInt8.ofNat s[i].toNat by simp).trans (by rw [HC0.out, h]; rfl)
      by_cases k0 : c0 = 48
      · have k48 : ((c0 : Int) != 48) = false := by rw [k0]; rfl
        by_cases kq : q = i + 1
        · have kq' : ((q : Int) == (i : Int) + 1) = true := eq_bool (by omega)
          have HKQ : Hid (q - i = 1) := by show _ = _; omega
          have HK0 := hidE k0
          clear kq k0
          have HYE : Hid (numB (suf s i) = some (⟨4, [], n⟩, suf s q)) := by
            show _ = _
            rw [HST.out, if_pos]
            refine ⟨.inr HKQ.out, fun c hc => ?_⟩
            rw [HHD.out] at hc
            cases hc
          go_wp2_with fail
          go_ret3
          exact ⟨.inl ⟨n, q, hnM, hiq2, hq, HYE.out, rfl⟩, rfl⟩
        · have kq' : ((q : Int) == (i : Int) + 1) = false := ne_bool (by omega)
          have HNO : Hid (numB (suf s i) = none) := by
            show _ = _
            rw [HST.out, if_neg]
            rintro ⟨h | h, _⟩
            · exact h (HEQ.out k0)
            · omega
          clear k0
          go_wp2_with fail
          go_ret3
          exact ⟨.inr ⟨HNO.out, n, q, rfl⟩, rfl⟩
      · have k48 : ((c0 : Int) != 48) = true := by rw [bne_iff_ne]; omega
        have HYE : Hid (numB (suf s i) = some (⟨4, [], n⟩, suf s q)) := by
          show _ = _
          rw [HST.out, if_pos]
          refine ⟨.inl (HNE.out k0), fun c hc => ?_⟩
          rw [HHD.out] at hc
          cases hc
        go_wp2_with fail
        go_ret3
        exact ⟨.inl ⟨n, q, hnM, hiq2, hq, HYE.out, rfl⟩, rfl⟩
end Go.Proofs.YtbjcdpenfijfoaaGreatDoor
