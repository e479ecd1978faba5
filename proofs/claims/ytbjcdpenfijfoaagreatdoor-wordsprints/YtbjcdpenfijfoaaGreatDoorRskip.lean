/- The document's blanks and comments. -/
import Derived.Test.YtbjcdpenfijfoaaGreatDoorJoin4
namespace Go.Proofs.YtbjcdpenfijfoaaGreatDoor
open Go.RowKit Go.Shelf Go.Lexed
set_option linter.unusedVariables false
set_option linter.unusedSimpArgs false
def suf (s : ByteArray) (i : Nat) : List UInt8 := s.data.toList.drop i
theorem suf_cons {s : ByteArray} {i : Nat} (h : i < s.size) : suf s i = s[i] :: suf s (i + 1) := by
  have h' : i < s.data.toList.length := by simpa using h
  unfold suf
  rw [List.drop_eq_getElem_cons h']
  rfl
theorem suf_end {s : ByteArray} {i : Nat} (h : s.size ≤ i) : suf s i = [] := by
  unfold suf
  exact List.drop_eq_nil_of_le (by simpa using h)
theorem isB_of {c : UInt8} {m : Nat} (h : c.toNat = m) (hm : m = 32 ∨ m = 9 ∨ m = 10 ∨ m = 13) : isB c = true := by
  have e : c = UInt8.ofNat m := by rw [← h]; simp
  rcases hm with rfl | rfl | rfl | rfl <;> (rw [e]; decide)
/-- What skipping answers. -/
def SkipTo (s : ByteArray) (i : Nat) (e : Ending) : Prop := ∃ (j : Nat) (ok : Bool), j ≤ s.size ∧ skipB (suf s i) = (suf s j, ok) ∧ e = .returned (.tuple #[.int .i64 (j : Int), .bool ok])
theorem starts_two {s : ByteArray} {k : Nat} {a b : UInt8} (h : startsB s k [a, b] = true) : suf s k = a :: b :: suf s (k + 2) ∧ k + 2 ≤ s.size := by
  unfold startsB at h
  obtain ⟨t, ht⟩ := List.isPrefixOf_iff_prefix.1 h
  have e : suf s k = a :: b :: t := ht.symm
  have hl := congrArg List.length e
  simp only [suf, List.length_drop, List.length_cons, Array.length_toList] at hl
  have e2 : s.data.size = s.size := rfl
  have e3 : suf s (k + 2) = t := by
    have := congrArg (List.drop 2) e
    simpa [suf, List.drop_drop, Nat.add_comm] using this
  exact ⟨by rw [e, e3], by omega⟩
theorem line_two (l : List UInt8) : lineB (47 :: 47 :: l) = lineB l := by
  rw [lineB, if_neg (by decide), lineB, if_neg (by decide)]
theorem star_at {s : ByteArray} {q : Nat} (hq : q < s.size) (h : startsB s q [42, 47] = false) : starB (suf s q) = starB (suf s (q + 1)) := by
  have e := suf_cons hq
  cases hr : suf s (q + 1) with
  | nil => rw [e, hr]; rfl
  | cons b r =>
    rw [e, hr, starB]
    rw [if_neg]
    rintro ⟨e1, rfl⟩
    rw [e1, hr] at e
    unfold startsB at h
    change List.isPrefixOf [42, 47] (suf s q) = false at h
    rw [e] at h
    simp [List.isPrefixOf] at h
theorem line_at {s : ByteArray} {q : Nat} (hq : q < s.size) (h : s[q].toNat ≠ 10) : lineB (suf s q) = lineB (suf s (q + 1)) := by
  rw [suf_cons hq, lineB, if_neg]
  intro e; rw [e] at h; exact h rfl
theorem line_stop {s : ByteArray} {q : Nat} (hq : q < s.size) (h : s[q].toNat = 10) : lineB (suf s q) = suf s q := by
  rw [suf_cons hq, lineB, if_pos]
  have e : s[q] = UInt8.ofNat 10 := by rw [← h]; simp
  exact e
set_option maxRecDepth 100000 in
set_option maxHeartbeats 4000000 in
theorem rskip_any (s : ByteArray) (i : Nat) (hi : i ≤ s.size) (hs : s.size ≤ 10000000000) (w : World) : Calls Tryz.prog 33 #[.string s, .int .i64 (i : Int)] w fun e w' => SkipTo s i e ∧ w' = w := by
  go_enter Tryz.func33, Tryz.ntmps33
  go_wp2_with fail
  go_loopw [1] (fun v wr => ∃ k : Nat, k ≤ s.size ∧ v = .int .i64 k ∧ wr = w ∧ skipB (suf s i) = skipB (suf s k)) (fun v _ => s.size - (intOf v).toNat)
  case atStart => exact ⟨i, hi, rfl, rfl, rfl⟩
  case round =>
    obtain ⟨k, hk, rfl, rfl, hsk⟩ := hrel
    have HSK := hidE hsk
    clear hsk
    by_cases hlt : k < s.size
    · have hlt' : (k : Int) < s.size := by omega
      obtain ⟨m, hm⟩ : ∃ m, s[k].toNat = m := ⟨_, rfl⟩
      have hm' : (s[k].toNat : Int) = m := by rw [hm]
      have HM := hidE hm
      clear hm
      by_cases h32 : m = 32
      · subst h32
        have HN : Hid (skipB (suf s i) = skipB (suf s (k + 1))) := by
          show _ = _
          rw [HSK.out, suf_cons hlt]
          exact skip_blank (isB_of HM.out (by omega)) _
        go_wp2_with fail
        go_roundw
        case rel => exact ⟨k + 1, by omega, by go_num, trivial, HN.out⟩
        case measure => simp [intOf]; omega
      · have h32' : ((m : Int) == 32) = false := ne_bool (by omega)
        by_cases h9 : m = 9
        · subst h9
          have HN : Hid (skipB (suf s i) = skipB (suf s (k + 1))) := by
            show _ = _
            rw [HSK.out, suf_cons hlt]
            exact skip_blank (isB_of HM.out (by omega)) _
          go_wp2_with fail
          go_roundw
          case rel => exact ⟨k + 1, by omega, by go_num, trivial, HN.out⟩
          case measure => simp [intOf]; omega
        · have h9' : ((m : Int) == 9) = false := ne_bool (by omega)
          by_cases h10 : m = 10
          · subst h10
            have HN : Hid (skipB (suf s i) = skipB (suf s (k + 1))) := by
              show _ = _
              rw [HSK.out, suf_cons hlt]
              exact skip_blank (isB_of HM.out (by omega)) _
            go_wp2_with fail
            go_roundw
            case rel => exact ⟨k + 1, by omega, by go_num, trivial, HN.out⟩
            case measure => simp [intOf]; omega
          · have h10' : ((m : Int) == 10) = false := ne_bool (by omega)
            by_cases h13 : m = 13
            · subst h13
              have HN : Hid (skipB (suf s i) = skipB (suf s (k + 1))) := by
                show _ = _
                rw [HSK.out, suf_cons hlt]
                exact skip_blank (isB_of HM.out (by omega)) _
              go_wp2_with fail
              go_roundw
              case rel => exact ⟨k + 1, by omega, by go_num, trivial, HN.out⟩
              case measure => simp [intOf]; omega
            · have h13' : ((m : Int) == 13) = false := ne_bool (by omega)
              have HNB : Hid (isB s[k] = false) := by
                show _ = _
                have hm0 := HM.out
                have hb : ∀ c : UInt8, c.toNat ≠ 32 → c.toNat ≠ 9 → c.toNat ≠ 10 → c.toNat ≠ 13 → isB c = false := by
                  intro c
                  refine all_bytes (p := fun c => c.toNat ≠ 32 → c.toNat ≠ 9 → c.toNat ≠ 10 → c.toNat ≠ 13 → isB c = false) ?_ c
                  decide
                exact hb _ (by omega) (by omega) (by omega) (by omega)
              have HST := hidE (fun (x : ByteArray) (hx : x.size ≤ 1000) w => starts_any s k x hk hs hx w)
              go_wp2_with fail
              refine (HST.out _ (by decide) _).mono ?_
              rintro e w1 ⟨rfl, rfl⟩
              cases hst : startsB s k (⟨#[47, 47]⟩ : ByteArray).data.toList with
              | true =>
                have HL := hidE (starts_two hst)
                clear hst
                go_wp2_with fail
                go_loopw [1] (fun v wr => ∃ q : Nat, q ≤ s.size ∧ k ≤ q ∧ v = .int .i64 q ∧ wr = w1 ∧ lineB (suf s k) = lineB (suf s q)) (fun v _ => s.size - (intOf v).toNat)
                case atStart => exact ⟨k, hk, Nat.le_refl _, rfl, rfl, rfl⟩
                case round =>
                  obtain ⟨q, hq, hkq, rfl, rfl, hln⟩ := hrel
                  have HLN := hidE hln
                  clear hln
                  by_cases hlq : q < s.size
                  · have hlq' : (q : Int) < s.size := by omega
                    obtain ⟨m2, hm2⟩ : ∃ m2, s[q].toNat = m2 := ⟨_, rfl⟩
                    have hm2' : (s[q].toNat : Int) = m2 := by rw [hm2]
                    have HM2 := hidE hm2
                    clear hm2
                    by_cases hz : m2 = 10
                    · subst hz
                      have HE : Hid (skipB (suf s i) = skipB (suf s q) ∧ k < q) := by
                        show _ ∧ _
                        have h1 := HLN.out
                        rw [line_stop hlq HM2.out] at h1
                        refine ⟨?_, ?_⟩
                        · rw [HSK.out, HL.out.1, skip_line, ← h1, HL.out.1, lineB, if_neg (by decide), lineB, if_neg (by decide)]
                        · rcases Nat.lt_or_ge k q with h | h
                          · exact h
                          · have e : k = q := by omega
                            subst e
                            exact absurd (HM.out.symm.trans HM2.out) h10
                      go_wp2_with fail
                      go_roundw
                      case rel => exact ⟨q, hq, by go_num, trivial, HE.out.1⟩
                      case measure => have := HE.out.2; simp [intOf]; omega
                    · have hz' : ((m2 : Int) == 10) = false := ne_bool (by omega)
                      have HE : Hid (lineB (suf s k) = lineB (suf s (q + 1))) := by
                        show _ = _
                        rw [HLN.out]
                        exact line_at hlq (by rw [HM2.out]; exact hz)
                      go_wp2_with fail
                      go_roundw
                      case rel => exact ⟨q + 1, by omega, by omega, by go_num, trivial, HE.out⟩
                      case measure => simp [intOf]; omega
                  · have hlq' : ¬ (q : Int) < s.size := by omega
                    have HE : Hid (skipB (suf s i) = skipB (suf s q) ∧ k < q) := by
                      show _ ∧ _
                      have h1 := HLN.out
                      rw [suf_end (i := q) (by omega)] at h1 ⊢
                      refine ⟨?_, by omega⟩
                      have h2 : lineB (suf s (k + 2)) = [] := by
                        rw [HL.out.1, line_two] at h1
                        exact h1
                      rw [HSK.out, HL.out.1, skip_line, h2]
                    go_wp2_with fail
                    go_roundw
                    case rel => exact ⟨q, hq, by go_num, trivial, HE.out.1⟩
                    case measure => have := HE.out.2; simp [intOf]; omega
              | false =>
                have HL := hidE hst
                clear hst
                go_wp2_with fail
                refine (HST.out _ (by decide) _).mono ?_
                rintro e w1 ⟨rfl, rfl⟩
                cases hst2 : startsB s k (⟨#[47, 42]⟩ : ByteArray).data.toList with
                | true =>
                  have HL2 := hidE (starts_two hst2)
                  clear hst2
                  go_wp2_with fail
                  go_loopw [6] (fun v wr => ∃ q : Nat, q ≤ s.size ∧ k + 2 ≤ q ∧ v = .int .i64 q ∧ wr = w1 ∧ starB (suf s (k + 2)) = starB (suf s q)) (fun v _ => s.size - (intOf v).toNat)
                  case atStart => exact ⟨k + 2, HL2.out.2, Nat.le_refl _, by go_num, rfl, rfl⟩
                  case round =>
                    obtain ⟨q, hq, hkq, rfl, rfl, hln⟩ := hrel
                    have HLN := hidE hln
                    clear hln
                    by_cases hlq : q < s.size
                    · have hlq' : (q : Int) < s.size := by omega
                      have HSQ := hidE (starts_any s q ⟨#[42, 47]⟩ hq hs (by decide) wr)
                      go_wp2_with fail
                      refine HSQ.out.mono ?_
                      rintro e w2 ⟨rfl, rfl⟩
                      cases hst3 : startsB s q (⟨#[42, 47]⟩ : ByteArray).data.toList with
                      | true =>
                        have HE : Hid (skipB (suf s i) = skipB (suf s (q + 2)) ∧ q + 2 ≤ s.size) := by
                          show _ ∧ _
                          obtain ⟨h1, h2⟩ := starts_two hst3
                          have h3 : starB (suf s (k + 2)) = some (suf s (q + 2)) := by rw [HLN.out, h1, starB]; rfl
                          exact ⟨by rw [HSK.out, HL2.out.1, skip_star h3], h2⟩
                        clear hst3
                        have hq2 := HE.out.2
                        have hlq2 : ¬ (s.size : Int) ≤ q := by omega
                        go_wp2_with fail
                        go_roundw
                        case rel => exact ⟨q + 2, HE.out.2, by go_num, trivial, HE.out.1⟩
                        case measure => simp [intOf]; omega
                      | false =>
                        have HE : Hid (starB (suf s (k + 2)) = starB (suf s (q + 1))) := by
                          show _ = _
                          rw [HLN.out]
                          exact star_at hlq hst3
                        clear hst3
                        go_wp2_with fail
                        go_roundw
                        case rel => exact ⟨q + 1, by omega, by omega, by go_num, trivial, HE.out⟩
                        case measure => simp [intOf]; omega
                    · have hlq' : ¬ (q : Int) < s.size := by omega
                      have hlq2 : (s.size : Int) ≤ q := by omega
                      have HE : Hid (skipB (suf s i) = (suf s k, false)) := by
                        show _ = _
                        have h1 := HLN.out
                        rw [suf_end (i := q) (by omega)] at h1
                        rw [HSK.out, HL2.out.1]
                        exact skip_open h1
                      go_wp2_with fail
                      go_ret2
                      exact ⟨⟨k, false, hk, HE.out, rfl⟩, rfl⟩
                | false =>
                  have HL2 := hidE hst2
                  clear hst2
                  go_wp2_with fail
                  go_ret2
                  refine ⟨⟨k, true, hk, ?_, rfl⟩, rfl⟩
                  rw [HSK.out, suf_cons hlt]
                  refine skip_stay HNB.out fun h47 d hd => ?_
                  have hn1 : k + 1 < s.size := by
                    rcases Nat.lt_or_ge (k + 1) s.size with h | h
                    · exact h
                    · rw [suf_end h] at hd; simp at hd
                  rw [suf_cons hn1] at hd
                  simp only [List.head?_cons, Option.mem_some_iff] at hd
                  have e0 : suf s k = 47 :: d :: suf s (k + 1 + 1) := by rw [suf_cons hlt, suf_cons hn1, h47, hd]
                  have h1 : List.isPrefixOf [47, 47] (suf s k) = false := HL.out
                  have h2 : List.isPrefixOf [47, 42] (suf s k) = false := HL2.out
                  rw [e0] at h1 h2
                  simp [List.isPrefixOf] at h1 h2
                  exact ⟨fun e => h1 e.symm, fun e => h2 e.symm⟩
    · have hlt' : ¬ (k : Int) < s.size := by omega
      have HN : Hid (skipB (suf s i) = (suf s k, true)) := by
        show _ = _
        rw [HSK.out, suf_end (by omega)]
        rw [skipB.eq_def]
      go_wp2_with fail
      go_ret2
      exact ⟨⟨k, true, hk, HN.out, rfl⟩, rfl⟩
end Go.Proofs.YtbjcdpenfijfoaaGreatDoor
