/- The document's names. The document's digits to the base 16. Pieces of a text, by its bytes. -/
import Derived.Test.YtbjcdpenfijfoaaGreatDoorRskip
namespace Go.Proofs.YtbjcdpenfijfoaaGreatDoor
open Go.RowKit Go.Shelf Go.Lexed
set_option linter.unusedVariables false
set_option linter.unusedSimpArgs false
theorem zero_at {s : ByteArray} {q : Nat} (hq : q < s.size) (h : s[q].toNat = 0) : (suf s q).contains 0 = true := by
  rw [suf_cons hq]
  have e : s[q] = UInt8.ofNat 0 := by rw [← h]; simp
  simp [e]
theorem zero_not {s : ByteArray} {q : Nat} (hq : q < s.size) (h : s[q].toNat ≠ 0) : (suf s q).contains 0 = (suf s (q + 1)).contains 0 := by
  rw [suf_cons hq, List.contains_cons]
  have e : (0 == s[q]) = false := by
    rw [beq_eq_false_iff_ne]
    intro e; rw [← e] at h; exact h rfl
  rw [e, Bool.false_or]
set_option maxHeartbeats 2000000 in
theorem rname_any (s : ByteArray) (w : World) (hs : s.size ≤ 10000000000) : Calls Tryz.prog 24 #[.string s] w fun e w' => e = .returned (.bool (nameOk Lib.validD s.data.toList)) ∧ w' = w := by
  have hv : nameOk Lib.validD s.data.toList = (decide (s.size ≥ 1) && decide (s.size ≤ 64) && Lib.validD s.data.toList && !(suf s 0).contains 0) := by
    unfold nameOk suf
    simp
  have HV := hidE hv
  clear hv
  generalize nameOk Lib.validD s.data.toList = v at HV ⊢
  have HU := hidE (fun w => utf_any s w (by omega))
  generalize Lib.validD s.data.toList = u at HV HU
  go_enter Tryz.func24, Tryz.ntmps24
  go_wp2_with fail
  go_loopw [3] (fun x wr => ∃ q : Nat, q ≤ s.size ∧ x = .int .i64 q ∧ wr = w ∧ (suf s 0).contains 0 = (suf s q).contains 0) (fun x _ => s.size - (intOf x).toNat)
  case atStart => exact ⟨0, Nat.zero_le _, rfl, rfl, rfl⟩
  case round =>
    obtain ⟨q, hq, rfl, rfl, hln⟩ := hrel
    have HLN := hidE hln
    clear hln
    by_cases hlq : q < s.size
    · have hlq' : (q : Int) < s.size := by omega
      obtain ⟨m2, hm2⟩ : ∃ m2, s[q].toNat = m2 := ⟨_, rfl⟩
      have hm2' : (s[q].toNat : Int) = m2 := by rw [hm2]
      have HM2 := hidE hm2
      clear hm2
      by_cases hz : m2 = 0
      · subst hz
        have HE : Hid (v = false) := by
          show _ = _
          rw [HV.out, HLN.out, zero_at hlq HM2.out]; simp
        go_wp2_with fail
        go_ret
        rw [HE.out]
        exact ⟨rfl, rfl⟩
      · have hz' : ((m2 : Int) == 0) = false := ne_bool (by omega)
        have HE : Hid ((suf s 0).contains 0 = (suf s (q + 1)).contains 0) := by
          show _ = _
          rw [HLN.out]
          exact zero_not hlq (by rw [HM2.out]; exact hz)
        go_wp2_with fail
        go_roundw
        case rel => exact ⟨q + 1, by omega, by go_num, trivial, HE.out⟩
        case measure => simp [intOf]; omega
    · have hlq' : ¬ (q : Int) < s.size := by omega
      have HE : Hid (v = (decide (s.size ≥ 1) && decide (s.size ≤ 64) && u)) := by
        show _ = _
        rw [HV.out, HLN.out, suf_end (by omega)]; simp
      by_cases h1 : 1 ≤ s.size
      · have h1' : (1 : Int) ≤ s.size := by omega
        by_cases h2 : s.size ≤ 64
        · have h2' : (s.size : Int) ≤ 64 := by omega
          have HE2 : Hid (v = u) := by show _ = _; rw [HE.out]; simp [h1, h2]
          go_wp2_with fail
          refine (HU.out _).mono ?_
          rintro e w1 ⟨rfl, rfl⟩
          go_wp2_with fail
          go_ret
          rw [HE2.out]
          exact ⟨rfl, rfl⟩
        · have h2' : ¬ (s.size : Int) ≤ 64 := by omega
          have HE2 : Hid (v = false) := by show _ = _; rw [HE.out]; simp [h2]
          go_wp2_with fail
          go_ret
          rw [HE2.out]
          exact ⟨rfl, rfl⟩
      · have h1' : ¬ (1 : Int) ≤ s.size := by omega
        have HE2 : Hid (v = false) := by show _ = _; rw [HE.out]; simp; omega
        go_wp2_with fail
        go_ret
        rw [HE2.out]
        exact ⟨rfl, rfl⟩
end Go.Proofs.YtbjcdpenfijfoaaGreatDoor

namespace Go.Proofs.YtbjcdpenfijfoaaGreatDoor
open Go.RowKit Go.Shelf Go.Lexed
set_option linter.unusedVariables false
set_option linter.unusedSimpArgs false
def hexI (n : Nat) : Int := if 48 ≤ n ∧ n ≤ 57 then (n : Int) - 48 else if 97 ≤ n ∧ n ≤ 102 then (n : Int) - 87 else if 65 ≤ n ∧ n ≤ 70 then (n : Int) - 55 else -1
theorem rhex_any (n : Nat) (hn : n < 256) (w : World) : Calls Tryz.prog 90 #[.int .u8 (n : Int)] w fun e w' => e = .returned (.int .i64 (hexI n)) ∧ w' = w := by
  have HV := hidE (rfl : hexI n = hexI n)
  have HD := hidE (fun w => rdigit_any n hn w)
  obtain ⟨v, hv⟩ : ∃ v, hexI n = v := ⟨_, rfl⟩
  rw [hv]
  have HX := hidE hv
  clear hv HV
  go_enter Tryz.func90, Tryz.ntmps90
  go_wp2_with fail
  refine (HD.out _).mono ?_
  rintro e w1 ⟨rfl, rfl⟩
  by_cases h1 : 48 ≤ n ∧ n ≤ 57
  · have hd : digN n = true := by simp [digN, h1.1, h1.2]
    rw [hd]
    have h48 : (48 : Int) ≤ n := by omega
    have h57 : (n : Int) ≤ 57 := by omega
    go_wp2_with fail
    go_ret
    refine ⟨?_, rfl⟩
    rw [← HX.out, hexI, if_pos h1]
    congr 2
  · have hd : digN n = false := by
      rw [digN, Bool.eq_false_iff]; simp only [ne_eq, Bool.and_eq_true, decide_eq_true_eq]; exact h1
    rw [hd]
    by_cases h2 : 97 ≤ n
    · have h2' : (97 : Int) ≤ n := by omega
      by_cases h3 : n ≤ 102
      · have h3' : (n : Int) ≤ 102 := by omega
        go_wp2_with fail
        go_ret
        refine ⟨?_, rfl⟩
        rw [← HX.out, hexI, if_neg h1, if_pos ⟨h2, h3⟩]
        congr 2
        go_num
      · have h3' : ¬ (n : Int) ≤ 102 := by omega
        have h4' : (65 : Int) ≤ n := by omega
        have h5' : ¬ (n : Int) ≤ 70 := by omega
        go_wp2_with fail
        go_ret
        refine ⟨?_, rfl⟩
        rw [← HX.out, hexI, if_neg h1, if_neg (by omega), if_neg (by omega)]
        rfl
    · have h2' : ¬ (97 : Int) ≤ n := by omega
      by_cases h4 : 65 ≤ n
      · have h4' : (65 : Int) ≤ n := by omega
        by_cases h5 : n ≤ 70
        · have h5' : (n : Int) ≤ 70 := by omega
          go_wp2_with fail
          go_ret
          refine ⟨?_, rfl⟩
          rw [← HX.out, hexI, if_neg h1, if_neg (by omega), if_pos ⟨h4, h5⟩]
          congr 2
          go_num
        · have h5' : ¬ (n : Int) ≤ 70 := by omega
          go_wp2_with fail
          go_ret
          refine ⟨?_, rfl⟩
          rw [← HX.out, hexI, if_neg h1, if_neg (by omega), if_neg (by omega)]
          rfl
      · have h4' : ¬ (65 : Int) ≤ n := by omega
        go_wp2_with fail
        go_ret
        refine ⟨?_, rfl⟩
        rw [← HX.out, hexI, if_neg h1, if_neg (by omega), if_neg (by omega)]
        rfl
end Go.Proofs.YtbjcdpenfijfoaaGreatDoor

namespace Go.Proofs.YtbjcdpenfijfoaaGreatDoor
open Go.RowKit Go.Shelf Go.Lexed
set_option linter.unusedVariables false
set_option linter.unusedSimpArgs false
/-- A text of some bytes. -/
def bsOf (l : List UInt8) : ByteArray := ⟨l.toArray⟩
theorem bsOf_list (l : List UInt8) : (bsOf l).data.toList = l := by simp [bsOf]
theorem bsOf_size (l : List UInt8) : (bsOf l).size = l.length := by simp [bsOf, ByteArray.size]
theorem of_bs (s : ByteArray) : bsOf s.data.toList = s := by cases s; simp [bsOf]
theorem suf_zero (s : ByteArray) : suf s 0 = s.data.toList := rfl
theorem suf_len (s : ByteArray) (k : Nat) : (suf s k).length = s.size - k := by
  simp only [suf, List.length_drop, Array.length_toList]; rfl
theorem suf_drop (s : ByteArray) (k m : Nat) : (suf s k).drop m = suf s (k + m) := by
  simp [suf, List.drop_drop]
theorem ext_list (s : ByteArray) (k q : Nat) : (s.extract k q).data.toList = (suf s k).take (q - k) := by
  simp only [suf, ByteArray.data_extract, Array.toList_extract, List.extract]
theorem ext_bs (s : ByteArray) (k q : Nat) : s.extract k q = bsOf ((suf s k).take (q - k)) := by
  rw [← ext_list, of_bs]
theorem suf_split (s : ByteArray) {k q : Nat} (h : k ≤ q) : suf s k = (s.extract k q).data.toList ++ suf s q := by
  rw [ext_list]
  have e : suf s q = (suf s k).drop (q - k) := by rw [suf_drop]; congr 1; omega
  rw [e, List.take_append_drop]
theorem ext_one {s : ByteArray} {k : Nat} (h : k < s.size) : s.extract k (k + 1) = ⟨#[s[k]]⟩ := by
  rw [ext_bs, suf_cons h]
  simp [bsOf]
theorem ext_two {s : ByteArray} {k : Nat} (h : k + 1 < s.size) : s.extract k (k + 2) = ⟨#[s[k], s[k + 1]]⟩ := by
  rw [ext_bs, suf_cons (by omega), suf_cons h]
  simp [bsOf]
theorem ext_snoc {s : ByteArray} {k q : Nat} (hk : k ≤ q) (h : q < s.size) : (s.extract k (q + 1)).data.toList = (s.extract k q).data.toList ++ [s[q]] := by
  have h1 := suf_split s (k := k) (q := q) hk
  have h2 := suf_split s (k := k) (q := q + 1) (by omega)
  rw [h1, suf_cons h] at h2
  have e : (s.extract k q).data.toList ++ s[q] :: suf s (q + 1) = ((s.extract k q).data.toList ++ [s[q]]) ++ suf s (q + 1) := by simp
  rw [e] at h2
  exact (List.append_cancel_right h2).symm
/-- Letters and digits as far as they go. -/
theorem run_to {s : ByteArray} {k q : Nat} (hk : k ≤ q) (ha : (s.extract k q).data.toList.all isLD = true) (he : ∀ c ∈ (suf s q).head?, isLD c = false) :
    (suf s k).takeWhile isLD = (s.extract k q).data.toList ∧ (suf s k).dropWhile isLD = suf s q := by
  rw [suf_split s hk]
  exact take_run ha he
theorem head_suf {s : ByteArray} {q : Nat} (h : q < s.size) : ∀ c ∈ (suf s q).head?, c = s[q] := by
  intro c hc; rw [suf_cons h] at hc; simpa using hc.symm
theorem head_end {s : ByteArray} {q : Nat} (h : s.size ≤ q) : ∀ c ∈ (suf s q).head?, isLD c = false := by
  intro c hc; rw [suf_end h] at hc; simp at hc
theorem isLD_let (c : UInt8) : isLD c = (letN c.toNat || digN c.toNat) := by rw [isLD, isL_let, isD_dig]
end Go.Proofs.YtbjcdpenfijfoaaGreatDoor

