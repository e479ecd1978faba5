/- The reader takes a number. -/
import Derived.Test.YtbjcdpenfijfoaaGreatDoorPclos
import Derived.Lib.ParseIntBCases
namespace Go.Proofs.YtbjcdpenfijfoaaGreatDoor
open Go.RowKit Go.Shelf Go.Lexed
set_option linter.unusedVariables false
set_option linter.unusedSimpArgs false
def valF (a : Nat) (l : List UInt8) : Nat := l.foldl (fun a c => 10 * a + (c.toNat - 48)) a
theorem valF_ge : ∀ (l : List UInt8) (a : Nat), a ≤ valF a l
  | [], a => Nat.le_refl _
  | c :: l, a => by
    have := valF_ge l (10 * a + (c.toNat - 48))
    show a ≤ valF (10 * a + (c.toNat - 48)) l
    omega
theorem isD_nat (c : UInt8) : isD c = true ↔ 48 ≤ c.toNat ∧ c.toNat ≤ 57 := by
  rw [isD_dig, digN]; simp
theorem parse_ok : ∀ (l : List UInt8) (M a u : Nat), Lib.parseUintM M a l = .ok u → l.all isD = true ∧ valF a l = u
  | [], M, a, u, h => by
    simp only [Lib.parseUintM] at h
    injection h with h
    exact ⟨rfl, h⟩
  | c :: l, M, a, u, h => by
    simp only [Lib.parseUintM] at h
    split at h
    · rename_i hd
      split at h
      · cases h
      · split at h
        · cases h
        · obtain ⟨h1, h2⟩ := parse_ok l M _ u h
          rw [List.all_cons, h1, (isD_nat c).2 hd]
          refine ⟨rfl, ?_⟩
          rw [← h2]
          show valF (10 * a + (c.toNat - 48)) l = _
          rw [Nat.mul_comm]
    · cases h
theorem parse_fits : ∀ (l : List UInt8) (a : Nat), l.all isD = true → valF a l ≤ 9223372036854775808 → Lib.parseUintM 18446744073709551615 a l = .ok (valF a l)
  | [], a, _, _ => rfl
  | c :: l, a, h, hv => by
    rw [List.all_cons, Bool.and_eq_true] at h
    have hd := (isD_nat c).1 h.1
    have hv' : valF (10 * a + (c.toNat - 48)) l ≤ 9223372036854775808 := hv
    have hge := valF_ge l (10 * a + (c.toNat - 48))
    simp only [Lib.parseUintM]
    rw [if_pos hd, if_neg (by omega), if_neg (by omega), show a * 10 + (c.toNat - 48) = 10 * a + (c.toNat - 48) by omega, parse_fits l _ h.2 hv']
    rfl
/-- The number that a run is; none. -/
def numK (l : List UInt8) : Option Nat := if l.all isD = true ∧ valD l ≤ 9223372036854775808 ∧ (l.head? ≠ some 48 ∨ l.length = 1) then some (valD l) else none
theorem numK_ok {l : List UInt8} {u : Nat} (h : Lib.parseUintB 64 l = .ok u) : l.all isD = true ∧ u = valD l := by
  unfold Lib.parseUintB at h
  split at h
  · cases h
  · obtain ⟨h1, h2⟩ := parse_ok l _ 0 u h
    exact ⟨h1, h2.symm⟩
theorem numK_no {l : List UInt8} (hl : l ≠ []) (h : ∀ u, Lib.parseUintB 64 l ≠ .ok u) : numK l = none := by
  unfold numK
  rw [if_neg]
  rintro ⟨h1, h2, _⟩
  refine h (valF 0 l) ?_
  unfold Lib.parseUintB
  rw [if_neg hl, show (2 : Nat) ^ 64 - 1 = 18446744073709551615 by decide]
  exact parse_fits l 0 h1 h2
set_option maxRecDepth 100000 in
set_option maxHeartbeats 2000000 in
theorem number_any (s : ByteArray) (hs : s.size ≤ 10000000000) (h0 : 0 < s.size) (w : World) (hE : Env w) :
    Calls Tryz.prog 76 #[.string s] w fun e w' => Below w.heap.size w w' ∧ ((∃ u : Nat, e = .returned (.int .u64 (u : Int)) ∧ numK s.data.toList = some u) ∨ (e = gaveUp ∧ numK s.data.toList = none)) := by
  have hne : s.data.toList ≠ [] := fun e => absurd (congrArg List.length e) (by show s.size ≠ 0; omega)
  have HT := hidE need_true
  have HNF := hidE need_false
  have HH : Hid (s.data.toList.head? = some s[0]) := by
    show _ = _
    have := suf_cons (s := s) (i := 0) h0
    rw [suf_zero] at this
    rw [this]; rfl
  have HLn : Hid (s.data.toList.length = s.size) := rfl
  cases hp : Lib.parseUintB 64 s.data.toList with
  | ok u =>
    have HP := hidE (Tryz.strconv_ParseUint_10_at64_ok s (by omega) u hp w)
    obtain ⟨h1, h2⟩ := numK_ok hp
    have HK : Hid (numK s.data.toList = if u ≤ 9223372036854775808 ∧ (s[0].toNat ≠ 48 ∨ s.size = 1) then some u else none) := by
      show _ = _
      unfold numK
      rw [← h2, HH.out, HLn.out]
      have e : (some s[0] ≠ some (48 : UInt8)) ↔ s[0].toNat ≠ 48 := by
        simp only [ne_eq, Option.some.injEq]
        exact ⟨fun h e => h (UInt8.toNat_inj.1 (by rw [e]; rfl)), fun h e => h (by rw [e]; rfl)⟩
      by_cases hc : u ≤ 9223372036854775808 ∧ (s[0].toNat ≠ 48 ∨ s.size = 1)
      · rw [if_pos hc, if_pos ⟨h1, hc.1, hc.2.imp e.2 id⟩]
      · rw [if_neg hc, if_neg (fun h => hc ⟨h.2.1, h.2.2.imp e.1 id⟩)]
    have hu64 := Lib.parseUintB_le hp
    clear hp h1 h2 HH
    obtain ⟨c, hc⟩ : ∃ c, s[0].toNat = c := ⟨_, rfl⟩
    rw [hc] at HK
    have hc' : (s[0].toNat : Int) = c := by rw [hc]
    have h0' : (0 : Int) < s.size := by omega
    clear hc
    go_enter Tryz.func76, Tryz.ntmps76
    go_wp2_with fail
    refine HP.out.mono ?_
    rintro e w1 ⟨rfl, hw⟩
    have HB : Hid (Below w.heap.size w w1) := by
      rcases hw with rfl | rfl
      · exact Below.refl _ _
      · exact Lib.bytesWorld_below _ _ _
    clear hw HP
    by_cases hu : u ≤ 9223372036854775808
    · have hu' : (u : Int) ≤ 9223372036854775808 := by omega
      by_cases h48 : c = 48
      · have h48' : ((c : Int) != 48) = false := by rw [bne_eq_false_iff_eq]; omega
        by_cases hz : s.size = 1
        · have hz' : ((s.size : Int) == 1) = true := eq_bool (by omega)
          have HE : Hid (numK s.data.toList = some u) := by show _ = _; rw [HK.out, if_pos ⟨hu, .inr hz⟩]
          clear hz h48 HK
          go_wp2_with fail
          refine (HT.out _).mono ?_
          rintro e w2 ⟨rfl, rfl⟩
          go_wp2_with fail
          go_ret
          exact ⟨HB.out, .inl ⟨u, rfl, HE.out⟩⟩
        · have hz' : ((s.size : Int) == 1) = false := ne_bool (by omega)
          have HE : Hid (numK s.data.toList = none) := by show _ = _; rw [HK.out, if_neg (fun h => h.2.elim (fun h => h h48) hz)]
          clear hz h48 HK
          go_wp2_with fail
          refine (HNF.out _).mono ?_
          rintro e w2 ⟨rfl, rfl⟩
          exact ⟨rfl, HB.out, .inr ⟨rfl, HE.out⟩⟩
      · have h48' : ((c : Int) != 48) = true := by rw [bne_iff_ne]; omega
        have HE : Hid (numK s.data.toList = some u) := by show _ = _; rw [HK.out, if_pos ⟨hu, .inl h48⟩]
        clear h48 HK
        go_wp2_with fail
        refine (HT.out _).mono ?_
        rintro e w2 ⟨rfl, rfl⟩
        go_wp2_with fail
        go_ret
        exact ⟨HB.out, .inl ⟨u, rfl, HE.out⟩⟩
    · have hu' : ¬ (u : Int) ≤ 9223372036854775808 := by omega
      have HE : Hid (numK s.data.toList = none) := by show _ = _; rw [HK.out, if_neg (fun h => hu h.1)]
      clear HK
      go_wp2_with fail
      refine (HNF.out _).mono ?_
      rintro e w2 ⟨rfl, rfl⟩
      exact ⟨rfl, HB.out, .inr ⟨rfl, HE.out⟩⟩
  | «syntax» =>
    obtain ⟨ev, hv, hev⟩ := hE.syn
    have HP := hidE (Tryz.strconv_ParseUint_10_at64_syntax s (by omega) hp ev w hv hev)
    have HE : Hid (numK s.data.toList = none) := numK_no hne (fun u e => by rw [hp] at e; cases e)
    clear hp hv hev hE HH HLn
    go_enter Tryz.func76, Tryz.ntmps76
    go_wp2_with fail
    refine HP.out.mono ?_
    rintro e w1 ⟨N, rfl, _, _, hb⟩
    have HB := hidE hb
    clear hb HP
    go_wp2_with fail
    refine (HNF.out _).mono ?_
    rintro e w2 ⟨rfl, rfl⟩
    exact ⟨rfl, HB.out, .inr ⟨rfl, HE.out⟩⟩
  | range =>
    obtain ⟨ev, hv, hev⟩ := hE.rng
    have HP := hidE (Tryz.strconv_ParseUint_10_at64_range s (by omega) hp ev w hv hev)
    have HE : Hid (numK s.data.toList = none) := numK_no hne (fun u e => by rw [hp] at e; cases e)
    clear hp hv hev hE HH HLn
    go_enter Tryz.func76, Tryz.ntmps76
    go_wp2_with fail
    refine HP.out.mono ?_
    rintro e w1 ⟨N, rfl, _, _, hb⟩
    have HB := hidE hb
    clear hb HP
    go_wp2_with fail
    refine (HNF.out _).mono ?_
    rintro e w2 ⟨rfl, rfl⟩
    exact ⟨rfl, HB.out, .inr ⟨rfl, HE.out⟩⟩
end Go.Proofs.YtbjcdpenfijfoaaGreatDoor
