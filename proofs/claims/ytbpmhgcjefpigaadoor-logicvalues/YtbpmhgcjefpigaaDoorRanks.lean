/- The document's ints, truth, rank and order of texts. -/
import Derived.Test.YtbpmhgcjefpigaaDoorBare
namespace Go.Proofs.YtbpmhgcjefpigaaDoor
open Go.RowKit Go.Shelf
set_option linter.unusedVariables false

theorem ints_any (a b : Int) (w : World) : Calls Tryd.prog 53 #[.int .i64 a, .int .i64 b] w fun e w' => e = .returned (.int .i64 (cmpI a b)) ∧ w' = w := by
  unfold cmpI
  by_cases h1 : a < b
  · rw [if_pos h1]
    go_enter Tryd.func53, Tryd.ntmps53
    go_wp2
    go_ret
    exact ⟨rfl, rfl⟩
  · rw [if_neg h1]
    by_cases h2 : b < a
    · rw [if_pos h2]
      go_enter Tryd.func53, Tryd.ntmps53
      go_wp2
      go_ret
      exact ⟨rfl, rfl⟩
    · rw [if_neg h2]
      go_enter Tryd.func53, Tryd.ntmps53
      go_wp2
      go_ret
      exact ⟨rfl, rfl⟩
theorem reftruth_any (b : Bool) (w : World) : Calls Tryd.prog 40 #[.bool b] w fun e w' => e = .returned (.int .i64 (truthI b)) ∧ w' = w := by
  cases b
  all_goals
    go_enter Tryd.func40, Tryd.ntmps40
    go_wp2
    go_ret
    exact ⟨rfl, rfl⟩

theorem byteN_drop {s : ByteArray} {i : Nat} (h : i < s.size) : s.data.toList.drop i = s[i] :: s.data.toList.drop (i + 1) := by
  have h' : i < s.data.toList.length := by simpa using h
  rw [List.drop_eq_getElem_cons h']
  rfl
theorem texts_end {s t : ByteArray} {i : Nat} (h : i = s.size ∨ i = t.size) (h1 : i ≤ s.size) (h2 : i ≤ t.size) :
    Lib.compareBytes (s.data.toList.drop i) (t.data.toList.drop i) = cmpI s.size t.size := by
  unfold cmpI
  have l1 : s.data.toList.length = s.size := by simp
  have l2 : t.data.toList.length = t.size := by simp
  by_cases a1 : s.size < t.size
  · rw [if_pos (by omega), List.drop_of_length_le (by omega), List.drop_eq_getElem_cons (by omega : i < t.data.toList.length)]; rfl
  · rw [if_neg (by omega)]
    by_cases a2 : t.size < s.size
    · rw [if_pos (by omega), List.drop_of_length_le (l := t.data.toList) (by omega), List.drop_eq_getElem_cons (by omega : i < s.data.toList.length)]; rfl
    · rw [if_neg (by omega), List.drop_of_length_le (by omega), List.drop_of_length_le (by omega)]; rfl
theorem texts_eq {s t : ByteArray} {i : Nat} (h1 : i < s.size) (h2 : i < t.size) (h : s[i].toNat = t[i].toNat) :
    Lib.compareBytes (s.data.toList.drop i) (t.data.toList.drop i) = Lib.compareBytes (s.data.toList.drop (i + 1)) (t.data.toList.drop (i + 1)) := by
  have e : s[i] = t[i] := UInt8.toNat_inj.mp h
  rw [byteN_drop h1, byteN_drop h2, Lib.compareBytes, e, if_neg (by simp), if_neg (by simp)]
theorem texts_ne {s t : ByteArray} {i : Nat} (h1 : i < s.size) (h2 : i < t.size) (h : s[i].toNat ≠ t[i].toNat) :
    Lib.compareBytes (s.data.toList.drop i) (t.data.toList.drop i) = cmpI s[i].toNat t[i].toNat := by
  rw [byteN_drop h1, byteN_drop h2, Lib.compareBytes]
  unfold cmpI
  by_cases a : s[i].toNat < t[i].toNat
  · rw [if_pos (UInt8.lt_iff_toNat_lt.mpr a), if_pos (by omega)]
  · have a' : t[i].toNat < s[i].toNat := by omega
    rw [if_neg (fun c => a (UInt8.lt_iff_toNat_lt.mp c)), if_pos (UInt8.lt_iff_toNat_lt.mpr a'), if_neg (by omega), if_pos (by omega)]

theorem wrap_byte (b : UInt8) : IntKind.i64.wrap (b.toNat : Int) = b.toNat := by
  have := b.toNat_lt
  rw [IntKind.wrap_i64]
  omega

set_option maxHeartbeats 1000000 in
theorem texts_any (s t : ByteArray) (w : World) (hs : s.size ≤ 9223372036854775807) (ht : t.size ≤ 9223372036854775807) :
    Calls Tryd.prog 55 #[.string s, .string t] w fun e w' => e = .returned (.int .i64 (Lib.compareBytes s.data.toList t.data.toList)) ∧ ∃ q, w' = w.drewN q := by
  go_enter Tryd.func55, Tryd.ntmps55
  go_wp2_with fail
  go_loopw [5] (fun i wr => ∃ j : Nat, j ≤ s.size ∧ j ≤ t.size ∧ i = .int .i64 j ∧ (∃ q, wr = w.drewN q) ∧ Lib.compareBytes (s.data.toList.drop j) (t.data.toList.drop j) = Lib.compareBytes s.data.toList t.data.toList) (fun i _ => s.size - (intOf i).toNat)
  case atStart => exact ⟨0, Nat.zero_le _, Nat.zero_le _, rfl, ⟨0, rfl⟩, rfl⟩
  case round =>
    obtain ⟨j, hj, hj2, rfl, ⟨q, hwr⟩, hag⟩ := hrel
    subst hwr
    have HAG : Hid (Lib.compareBytes (s.data.toList.drop j) (t.data.toList.drop j) = Lib.compareBytes s.data.toList t.data.toList) := hag
    clear hag
    by_cases h1 : j < s.size
    · by_cases h2 : j < t.size
      · by_cases h3 : s[j].toNat = t[j].toNat
        · have HN : Hid (Lib.compareBytes (s.data.toList.drop (j + 1)) (t.data.toList.drop (j + 1)) = Lib.compareBytes s.data.toList t.data.toList) := (texts_eq h1 h2 h3).symm.trans HAG.out
          have e3 : ((s[j].toNat : Int) == (t[j].toNat : Int)) = true := eq_bool (by omega)
          clear h3 HAG
          go_wp2_with fail
          go_quiet (fail)
          go_wp2_with fail
          go_roundw
          case rel => exact ⟨j + 1, by omega, by omega, by go_num, ⟨_, rfl⟩, HN.out⟩
          case measure => simp [intOf]; omega
        · have HN : Hid (cmpI s[j].toNat t[j].toNat = Lib.compareBytes s.data.toList t.data.toList) := (texts_ne h1 h2 h3).symm.trans HAG.out
          have e3 : ((s[j].toNat : Int) == (t[j].toNat : Int)) = false := ne_bool (by omega)
          clear h3 HAG
          go_wp2_with fail
          go_quiet (fail)
          go_wp2_with fail
          go_region_with (go_at_call 53; refine (ints_any _ _ _).mono ?_; rintro e w' ⟨rfl, rfl⟩)
          all_goals
            go_wp2_with fail
            go_ret
            exact ⟨by rw [wrap_byte, wrap_byte, ← HN.out]; rfl, _, rfl⟩
      · have HN : Hid (cmpI s.size t.size = Lib.compareBytes s.data.toList t.data.toList) := (texts_end (.inr (by omega)) hj hj2).symm.trans HAG.out
        clear HAG
        go_wp2_with fail
        refine (ints_any _ _ _).mono ?_; rintro e w' ⟨rfl, rfl⟩
        go_wp2_with fail
        go_ret
        exact ⟨by rw [← HN.out]; rfl, _, rfl⟩
    · have HN : Hid (cmpI s.size t.size = Lib.compareBytes s.data.toList t.data.toList) := (texts_end (.inl (by omega)) hj hj2).symm.trans HAG.out
      clear HAG
      go_wp2_with fail
      refine (ints_any _ _ _).mono ?_; rintro e w' ⟨rfl, rfl⟩
      go_wp2_with fail
      go_ret
      exact ⟨by rw [← HN.out]; rfl, _, rfl⟩
end Go.Proofs.YtbpmhgcjefpigaaDoor
