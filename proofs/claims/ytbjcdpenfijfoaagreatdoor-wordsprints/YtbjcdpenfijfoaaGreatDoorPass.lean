/- The reader goes over what stands between words. -/
import Derived.Test.YtbjcdpenfijfoaaGreatDoorSign
namespace Go.Proofs.YtbjcdpenfijfoaaGreatDoor
open Go.RowKit Go.Shelf Go.Lexed
set_option linter.unusedVariables false
set_option linter.unusedSimpArgs false
theorem ahead_one {s : ByteArray} {q : Nat} (h : q < s.size) : (aheadB s q 1).toList = [s[q]] := by
  unfold aheadB
  rw [if_neg (by omega), ext_one h, ByteArray.toList_eq]
theorem ahead_two {s : ByteArray} {q : Nat} (h : q + 1 < s.size) : (aheadB s q 2).toList = [s[q], s[q + 1]] := by
  unfold aheadB
  rw [if_neg (by omega), ext_two h, ByteArray.toList_eq]
theorem ahead_no {s : ByteArray} {q n : Nat} (h : s.size - q < n) : (aheadB s q n).toList = [] := by
  unfold aheadB
  rw [if_pos h, ByteArray.toList_eq]
theorem ahead_starts {s : ByteArray} {q : Nat} (x y : UInt8) : ((aheadB s q 2).toList == [x, y]) = startsB s q [x, y] := by
  unfold startsB
  show _ = List.isPrefixOf [x, y] (suf s q)
  by_cases h : q + 1 < s.size
  · rw [ahead_two h, suf_cons (by omega), suf_cons h, Bool.eq_iff_iff]
    simp [List.isPrefixOf]
    exact ⟨fun ⟨a, b⟩ => ⟨a.symm, b.symm⟩, fun ⟨a, b⟩ => ⟨a.symm, b.symm⟩⟩
  · rw [ahead_no (by omega)]
    by_cases h2 : q < s.size
    · rw [suf_cons h2, suf_end (by omega)]; simp [List.isPrefixOf]
    · rw [suf_end (by omega)]; rfl
theorem byte_ne {c : UInt8} {n : Nat} (h : c.toNat ≠ n) (hn : n < 256) : ([c] == [UInt8.ofNat n]) = false := by
  simp only [beq_eq_false_iff_ne, ne_eq, List.cons.injEq, and_true]
  intro e; rw [e] at h; exact h (by rw [UInt8.toNat_ofNat']; omega)
theorem byte_eq {c : UInt8} {n : Nat} (h : c.toNat = n) : ([c] == [UInt8.ofNat n]) = true := by
  rw [← h]; simp
set_option maxRecDepth 20000 in
theorem not_blank {c : UInt8} (h1 : c.toNat ≠ 32) (h2 : c.toNat ≠ 9) (h3 : c.toNat ≠ 10) (h4 : c.toNat ≠ 13) : isB c = false := by
  have hb : ∀ c : UInt8, c.toNat ≠ 32 → c.toNat ≠ 9 → c.toNat ≠ 10 → c.toNat ≠ 13 → isB c = false := by
    intro c
    refine all_bytes (p := fun c => c.toNat ≠ 32 → c.toNat ≠ 9 → c.toNat ≠ 10 → c.toNat ≠ 13 → isB c = false) ?_ c
    decide
  exact hb c h1 h2 h3 h4
theorem stay_at {s : ByteArray} {q : Nat} (hlt : q < s.size) (hb : isB s[q] = false) (h1 : startsB s q [47, 47] = false) (h2 : startsB s q [47, 42] = false) : skipB (suf s q) = (suf s q, true) := by
  rw [suf_cons hlt]
  refine skip_stay hb fun h47 d hd => ?_
  have hn1 : q + 1 < s.size := by
    rcases Nat.lt_or_ge (q + 1) s.size with h | h
    · exact h
    · rw [suf_end h] at hd; simp at hd
  rw [suf_cons hn1] at hd
  simp only [List.head?_cons, Option.mem_some_iff] at hd
  have e0 : suf s q = 47 :: d :: suf s (q + 1 + 1) := by rw [suf_cons hlt, suf_cons hn1, h47, hd]
  change List.isPrefixOf [47, 47] (suf s q) = false at h1
  change List.isPrefixOf [47, 42] (suf s q) = false at h2
  rw [e0] at h1 h2
  simp [List.isPrefixOf] at h1 h2
  exact ⟨fun e => h1 e.symm, fun e => h2 e.symm⟩
/-- What going over answers. -/
def Passed (s : ByteArray) (k a : Nat) (w : World) (e : Ending) (w' : World) : Prop :=
  ∃ j i : Nat, k ≤ j ∧ j ≤ s.size ∧ i ≤ s.size ∧ Rd w' a s i j ∧ Fr a w.heap.size w w' ∧ ((e = .returned (.tuple #[]) ∧ i = j ∧ skipB (suf s k) = (suf s j, true)) ∨ (e = gaveUp ∧ skipB (suf s k) = (suf s j, false)))
set_option maxHeartbeats 4000000 in
theorem pass_any (a : Nat) (s : ByteArray) (k b : Nat) (w : World) (h : Rd w a s k b) (hk : k ≤ s.size) (hs : s.size ≤ 10000000000) :
    Calls Tryz.prog 69 #[.pointer (some ⟨a, 0, none⟩)] w fun e w' => Passed s k a w e w' := by
  have H := hidE h
  clear h
  go_enter Tryz.func69, Tryz.ntmps69
  go_wp2_with fail
  go_loopw [] (fun wr => ∃ q c : Nat, k ≤ q ∧ q ≤ s.size ∧ Rd wr a s q c ∧ Fr a w.heap.size w wr ∧ skipB (suf s k) = skipB (suf s q)) (fun wr => s.size - atOf wr a)
  case atStart => exact ⟨k, b, Nat.le_refl _, hk, H.out, Fr.refl _ _ _, rfl⟩
  case round =>
    obtain ⟨q, c, hkq, hq, hr, hf, hall⟩ := hrel
    have HR := hidE hr
    have HF := hidE hf
    have HA := hidE hall
    have c0 := hr.c0
    have c1 := hr.c1
    have c2 := hr.c2
    have z1 := hr.z1
    have z2 := hr.z2
    clear hr hf hall
    go_wp2_with fail
    refine (ahead_any a s q q 1 _ (HR.out.begin q _ rfl) hq hs (by decide) (by decide)).mono ?_
    rintro e w1 ⟨rfl, m1, rfl⟩
    generalize hW : World.drewN _ _ = W
    have HR1 : Hid (Rd W a s q q) := by rw [← hW]; exact (HR.out.begin q _ rfl).drewN _
    have HF1 : Hid (Fr a w.heap.size w W) := by rw [← hW]; exact (HF.out.put _ _).drewN _
    have HUp : Hid (atOf wr a = q) := HR.out.upTo
    clear hW c0 c1 c2 z1 z2 HR HF
    have c1 := HR1.out.c1
    have z1 := HR1.out.z1
    by_cases hlt : q < s.size
    · have hT1 : (aheadB s q 1).toList = [s[q]] := ahead_one hlt
      generalize aheadB s q 1 = t1 at hT1 ⊢
      have HT1 := hidE hT1
      clear hT1
      by_cases h9 : s[q].toNat = 9
      · have e9 : (t1.toList == [9]) = true := by rw [HT1.out]; exact byte_eq h9
        have HN : Hid (skipB (suf s k) = skipB (suf s (q + 1))) := by
          show _ = _
          rw [HA.out, suf_cons hlt]
          exact skip_blank (isB_of h9 (by omega)) _
        clear h9
        go_wp2_with fail
        go_roundw
        case rel => exact ⟨q + 1, q, by omega, by omega, HR1.out.at (q + 1) _ (by go_num), HF1.out.put _ _, HN.out⟩
        case measure => rw [Rd.upTo (HR1.out.at (q + 1) _ (by go_num)), HUp.out]; omega
      · have e9 : (t1.toList == [9]) = false := by rw [HT1.out]; exact byte_ne h9 (by decide)
        by_cases h10 : s[q].toNat = 10
        · have e9 : (t1.toList == [9]) = false := by rw [HT1.out]; exact byte_ne (by rw [h10]; decide) (by decide)
          have e10 : (t1.toList == [10]) = true := by rw [HT1.out]; exact byte_eq h10
          have HN : Hid (skipB (suf s k) = skipB (suf s (q + 1))) := by
            show _ = _
            rw [HA.out, suf_cons hlt]
            exact skip_blank (isB_of h10 (by omega)) _
          clear h10
          go_wp2_with fail
          go_roundw
          case rel => exact ⟨q + 1, q, by omega, by omega, HR1.out.at (q + 1) _ (by go_num), HF1.out.put _ _, HN.out⟩
          case measure => rw [Rd.upTo (HR1.out.at (q + 1) _ (by go_num)), HUp.out]; omega
        · have e10 : (t1.toList == [10]) = false := by rw [HT1.out]; exact byte_ne h10 (by decide)
          by_cases h13 : s[q].toNat = 13
          · have e9 : (t1.toList == [9]) = false := by rw [HT1.out]; exact byte_ne (by rw [h13]; decide) (by decide)
            have e10 : (t1.toList == [10]) = false := by rw [HT1.out]; exact byte_ne (by rw [h13]; decide) (by decide)
            have e13 : (t1.toList == [13]) = true := by rw [HT1.out]; exact byte_eq h13
            have HN : Hid (skipB (suf s k) = skipB (suf s (q + 1))) := by
              show _ = _
              rw [HA.out, suf_cons hlt]
              exact skip_blank (isB_of h13 (by omega)) _
            clear h13
            go_wp2_with fail
            go_roundw
            case rel => exact ⟨q + 1, q, by omega, by omega, HR1.out.at (q + 1) _ (by go_num), HF1.out.put _ _, HN.out⟩
            case measure => rw [Rd.upTo (HR1.out.at (q + 1) _ (by go_num)), HUp.out]; omega
          · have e13 : (t1.toList == [13]) = false := by rw [HT1.out]; exact byte_ne h13 (by decide)
            by_cases h32 : s[q].toNat = 32
            · have e9 : (t1.toList == [9]) = false := by rw [HT1.out]; exact byte_ne (by rw [h32]; decide) (by decide)
              have e10 : (t1.toList == [10]) = false := by rw [HT1.out]; exact byte_ne (by rw [h32]; decide) (by decide)
              have e13 : (t1.toList == [13]) = false := by rw [HT1.out]; exact byte_ne (by rw [h32]; decide) (by decide)
              have e32 : (t1.toList == [32]) = true := by rw [HT1.out]; exact byte_eq h32
              have HN : Hid (skipB (suf s k) = skipB (suf s (q + 1))) := by
                show _ = _
                rw [HA.out, suf_cons hlt]
                exact skip_blank (isB_of h32 (by omega)) _
              clear h32
              go_wp2_with fail
              go_roundw
              case rel => exact ⟨q + 1, q, by omega, by omega, HR1.out.at (q + 1) _ (by go_num), HF1.out.put _ _, HN.out⟩
              case measure => rw [Rd.upTo (HR1.out.at (q + 1) _ (by go_num)), HUp.out]; omega
            · have e32 : (t1.toList == [32]) = false := by rw [HT1.out]; exact byte_ne h32 (by decide)
              have HB : Hid (isB s[q] = false) := not_blank h32 h9 h10 h13
              clear h9 h10 h13 h32
              go_wp2_with fail
              refine (ahead_any a s q q 2 _ HR1.out hq hs (by decide) (by decide)).mono ?_
              rintro e w2 ⟨rfl, m2, rfl⟩
              have HR2 : Hid (Rd (W.drewN m2) a s q q) := HR1.out.drewN _
              have HF2 : Hid (Fr a w.heap.size w (W.drewN m2)) := HF1.out.drewN _
              generalize W.drewN m2 = W2 at HR2 HF2 ⊢
              clear c1 z1
              have f1 := ahead_starts (s := s) (q := q) 47 47
              have f2 := ahead_starts (s := s) (q := q) 47 42
              generalize aheadB s q 2 = t2 at f1 f2 ⊢
              cases hst : startsB s q [47, 47] with
              | true =>
                rw [hst] at f1
                clear f2
                have HL := hidE (starts_two hst)
                clear hst
                go_wp2_with fail
                refine (note_line a s q q _ HR2.out HL.out.2 hs).mono ?_
                rintro e w3 ⟨rfl, j, hj1, hj2, hj3, hr3, hf3⟩
                have HR3 := hidE hr3
                have HF3 : Hid (Fr a w.heap.size w w3) := HF2.out.trans (hf3.mono HF2.out.size)
                have HN : Hid (skipB (suf s k) = skipB (suf s j)) := by
                  show _ = _
                  rw [HA.out, HL.out.1, skip_line, skip_over, hj3]
                clear hr3 hf3 hj3
                go_wp2_with fail
                go_roundw
                case rel => exact ⟨j, q, by omega, hj2, HR3.out, HF3.out, HN.out⟩
                case measure => rw [HR3.out.upTo, HUp.out]; omega
              | false =>
                rw [hst] at f1
                cases hst2 : startsB s q [47, 42] with
                | true =>
                  rw [hst2] at f2
                  have HL := hidE (starts_two hst2)
                  clear hst hst2
                  go_wp2_with fail
                  refine (note_star a s q q _ HR2.out HL.out.2 hs).mono ?_
                  rintro e w3 ⟨j, hj1, hj2, hr3, hf3, ⟨rfl, hj3⟩ | ⟨rfl, hj3⟩⟩
                  · have HR3 := hidE hr3
                    have HF3 : Hid (Fr a w.heap.size w w3) := HF2.out.trans (hf3.mono HF2.out.size)
                    have HN : Hid (skipB (suf s k) = skipB (suf s j)) := by
                      show _ = _
                      rw [HA.out, HL.out.1, skip_star hj3]
                    clear hr3 hf3 hj3
                    go_wp2_with fail
                    go_roundw
                    case rel => exact ⟨j, q, by omega, hj2, HR3.out, HF3.out, HN.out⟩
                    case measure => rw [HR3.out.upTo, HUp.out]; omega
                  · have HF3 : Hid (Fr a w.heap.size w w3) := HF2.out.trans (hf3.mono HF2.out.size)
                    refine ⟨rfl, q, j, hkq, hq, hj2, hr3, HF3.out, .inr ⟨rfl, ?_⟩⟩
                    rw [HA.out, HL.out.1, skip_open hj3]
                | false =>
                  rw [hst2] at f2
                  have HN : Hid (skipB (suf s k) = (suf s q, true)) := by
                    show _ = _
                    rw [HA.out]
                    exact stay_at hlt HB.out hst hst2
                  clear hst hst2
                  go_wp2_with fail
                  go_end0
                  exact ⟨q, q, hkq, hq, hq, HR2.out, HF2.out, .inl ⟨rfl, rfl, HN.out⟩⟩
    · have hT1 : (aheadB s q 1).toList = [] := ahead_no (by omega)
      have hT2 : (aheadB s q 2).toList = [] := ahead_no (by omega)
      have HN : Hid (skipB (suf s k) = (suf s q, true)) := by
        show _ = _
        rw [HA.out, suf_end (by omega)]
        rw [skipB.eq_def]
      generalize aheadB s q 1 = t1 at hT1 ⊢
      have e9 : (t1.toList == [9]) = false := by rw [hT1]; rfl
      have e10 : (t1.toList == [10]) = false := by rw [hT1]; rfl
      have e13 : (t1.toList == [13]) = false := by rw [hT1]; rfl
      have e32 : (t1.toList == [32]) = false := by rw [hT1]; rfl
      have HT2 := hidE hT2
      clear hT1 hT2
      go_wp2_with fail
      refine (ahead_any a s q q 2 _ HR1.out hq hs (by decide) (by decide)).mono ?_
      rintro e w2 ⟨rfl, m2, rfl⟩
      have HR2 : Hid (Rd (W.drewN m2) a s q q) := HR1.out.drewN _
      have HF2 : Hid (Fr a w.heap.size w (W.drewN m2)) := HF1.out.drewN _
      generalize W.drewN m2 = W2 at HR2 HF2 ⊢
      clear c1 z1
      have hT2 := HT2.out
      clear HT2
      generalize aheadB s q 2 = t2 at hT2 ⊢
      have f1 : (t2.toList == [47, 47]) = false := by rw [hT2]; rfl
      have f2 : (t2.toList == [47, 42]) = false := by rw [hT2]; rfl
      clear hT2
      go_wp2_with fail
      go_end0
      exact ⟨q, q, hkq, hq, hq, HR2.out, HF2.out, .inl ⟨rfl, rfl, HN.out⟩⟩
end Go.Proofs.YtbjcdpenfijfoaaGreatDoor
