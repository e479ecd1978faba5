/- The document's own: whether a word may be. -/
import Derived.Test.YtbjcdpenfijfoaaGreatDoorJoin11
import Derived.Test.YtbjcdpenfijfoaaGreatDoorPmay
namespace Go.Proofs.YtbjcdpenfijfoaaGreatDoor
open Go.RowKit Go.Shelf Go.Lexed
set_option linter.unusedVariables false
set_option linter.unusedSimpArgs false
attribute [local go_sem] Oper.semAt_some
theorem may_cases (k i n : Int) (t : ByteArray) (hn0 : 0 ≤ n) : mayW Lib.validD (W4.mk k i t n).wd = if k = 1 then bareB t.data.toList && nameOk Lib.validD t.data.toList && (n == 0) else if k = 2 then nameOk Lib.validD t.data.toList && (n == 0) else if k = 3 then Lib.validD t.data.toList && (n == 0) else if k = 4 then t.toList.isEmpty && decide (n ≤ 9223372036854775808) else if k = 5 then signOk t.data.toList && (n == 0) else false := by
  have e0 : (n.toNat == 0) = (n == 0) := by rw [Bool.eq_iff_iff]; simp; omega
  have e1 : decide (n.toNat ≤ 9223372036854775808) = decide (n ≤ 9223372036854775808) := by rw [decide_eq_decide]; omega
  unfold mayW W4.wd
  simp only [e0, is_nil]
  by_cases h1 : k = 1
  · subst h1; simp
  · rw [if_neg (by omega : ¬ k.toNat = 1), if_neg h1]
    by_cases h2 : k = 2
    · subst h2; simp
    · rw [if_neg (by omega : ¬ k.toNat = 2), if_neg h2]
      by_cases h3 : k = 3
      · subst h3; simp
      · rw [if_neg (by omega : ¬ k.toNat = 3), if_neg h3]
        by_cases h4 : k = 4
        · subst h4
          rw [if_pos (by decide : Int.toNat 4 = 4), if_pos rfl, e1]
        · rw [if_neg (by omega : ¬ k.toNat = 4), if_neg h4]
          by_cases h5 : k = 5
          · subst h5; simp
          · rw [if_neg (by omega : ¬ k.toNat = 5), if_neg h5]
theorem sg_in : ∀ K ∈ sgL, K.data.toList ∈ signsL := by decide
theorem in_sg : ∀ m ∈ signsL, m ∈ sgL.map fun K => K.data.toList := by decide
theorem sign_is (l : List UInt8) : signOk l = sgL.any fun K => decide (K.data.toList = l) := by
  rw [Bool.eq_iff_iff, List.any_eq_true]
  refine ⟨fun h => ?_, ?_⟩
  · obtain ⟨K, hK, e⟩ := List.mem_map.1 (in_sg l (sign_mem h))
    exact ⟨K, hK, by simpa using e⟩
  · rintro ⟨K, hK, e⟩
    have e' : K.data.toList = l := by simpa using e
    rw [← e']
    exact mem_sign _ (sg_in K hK)
theorem any_at {L : List ByteArray} {p : ByteArray → Bool} {q : Nat} {K : ByteArray} (h : L[q]? = some K) : (L.drop q).any p = (p K || (L.drop (q + 1)).any p) := by
  have hq := (List.getElem?_eq_some_iff.1 h).1
  have hK := (List.getElem?_eq_some_iff.1 h).2
  rw [List.drop_eq_getElem_cons hq, List.any_cons, hK]
set_option maxRecDepth 100000 in
set_option maxHeartbeats 4000000 in
theorem rmay_any (x : W4) (hn0 : 0 ≤ x.n) (ht : x.t.size ≤ 1000000000) (w : World) :
    Calls Tryz.prog 38 #[x.val] w fun e w' => e = .returned (.bool (mayW Lib.validD x.wd)) ∧ Below w.heap.size w w' := by
  obtain ⟨k, i, t, n⟩ := x
  simp only at hn0 ht
  have HV := hidE (may_cases k i n t hn0)
  generalize mayW Lib.validD (W4.mk k i t n).wd = V at HV ⊢
  unfold W4.val
  simp only
  go_enter Tryz.func38, Tryz.ntmps38
  go_upto_region 1 with fail
  generalize hW1 : World.alloc _ _ = W1
  have HB1 : Hid (Below w.heap.size w W1) := by rw [← hW1]; exact (Below.refl _ _).alloc (Nat.le_refl _) _
  have HW1 : Hid (Wo W1 w.heap.size k i n t) := by rw [← hW1]; exact World.alloc_heap_new _ _
  clear hW1
  have c0 := HW1.out.c0
  have c2 := HW1.out.c2
  have c3 := HW1.out.c3
  by_cases h4 : k = 4
  · subst h4
    have HE2 : Hid (V = (t.toList.isEmpty && decide (n ≤ 9223372036854775808))) := HV.out
    cases he : t.toList.isEmpty with
    | false =>
      have HE3 : Hid (V = false) := by show _ = _; rw [HE2.out, he]; rfl
      go_wp2_with fail
      go_ret
      exact ⟨by rw [HE3.out]; rfl, HB1.out⟩
    | true =>
      by_cases hle : n ≤ 9223372036854775808
      · have HE3 : Hid (V = true) := by show _ = _; rw [HE2.out, he, decide_eq_true hle]; rfl
        go_wp2_with fail
        go_ret
        exact ⟨by rw [HE3.out]; rfl, HB1.out⟩
      · have HE3 : Hid (V = false) := by show _ = _; rw [HE2.out, he, decide_eq_false hle]; rfl
        go_wp2_with fail
        go_ret
        exact ⟨by rw [HE3.out]; rfl, HB1.out⟩
  have h4' : (k == 4) = false := ne_bool h4
  have h4'' : (k != 4) = true := by rw [bne_iff_ne]; exact h4
  by_cases hn : n = 0
  · subst hn
    have hz : ((0 : Int) == 0) = true := rfl
    by_cases h1 : k = 1
    · subst h1
      have HE2 : Hid (V = (bareB t.data.toList && nameOk Lib.validD t.data.toList)) := by show _ = _; rw [HV.out, if_pos rfl]; simp
      have HPl := hidE (fun w => refPlain_any t (by unfold maxLen; omega) w)
      rw [vbare_is] at HPl
      have HNm := hidE (fun w => rname_any t w (by omega))
      go_wp2_with fail
      refine (HPl.out _).mono ?_
      rintro e w2 ⟨rfl, rfl⟩
      cases hb : bareB t.data.toList with
      | false =>
        have HE3 : Hid (V = false) := by show _ = _; rw [HE2.out, hb]; rfl
        go_wp2_with fail
        go_ret
        exact ⟨by rw [HE3.out]; rfl, HB1.out⟩
      | true =>
        have HE3 : Hid (V = nameOk Lib.validD t.data.toList) := by show _ = _; rw [HE2.out, hb]; rfl
        go_wp2_with fail
        refine (HNm.out _).mono ?_
        rintro e w3 ⟨rfl, rfl⟩
        go_wp2_with fail
        go_ret
        exact ⟨by rw [HE3.out]; rfl, HB1.out⟩
    have h1' : (k == 1) = false := ne_bool h1
    by_cases h2 : k = 2
    · subst h2
      have HE2 : Hid (V = nameOk Lib.validD t.data.toList) := by show _ = _; rw [HV.out, if_neg (by decide), if_pos rfl]; simp
      have HNm := hidE (fun w => rname_any t w (by omega))
      go_wp2_with fail
      refine (HNm.out _).mono ?_
      rintro e w3 ⟨rfl, rfl⟩
      go_wp2_with fail
      go_ret
      exact ⟨by rw [HE2.out]; rfl, HB1.out⟩
    have h2' : (k == 2) = false := ne_bool h2
    by_cases h3 : k = 3
    · subst h3
      have HE2 : Hid (V = Lib.validD t.data.toList) := by show _ = _; rw [HV.out, if_neg (by decide), if_neg (by decide), if_pos rfl]; simp
      have HU := hidE (fun w => utf_any t w (by omega))
      go_wp2_with fail
      refine (HU.out _).mono ?_
      rintro e w3 ⟨rfl, rfl⟩
      go_wp2_with fail
      go_ret
      exact ⟨by rw [HE2.out]; rfl, HB1.out⟩
    have h3' : (k == 3) = false := ne_bool h3
    by_cases h5 : k = 5
    · subst h5
      have HE2 : Hid (V = sgL.any fun K => decide (K.data.toList = t.data.toList)) := by show _ = _; rw [HV.out, if_neg (by decide), if_neg (by decide), if_neg (by decide), if_neg (by decide), if_pos rfl, ← sign_is]; simp
      have HCM : Hid (∀ K : ByteArray, (K.data.toList = t.data.toList → (K.toList == t.toList) = true) ∧ (¬ K.data.toList = t.data.toList → (K.toList == t.toList) = false)) := by
        intro K
        rw [ByteArray.toList_eq, ByteArray.toList_eq]
        exact ⟨fun h => by rw [h]; simp, fun h => by rw [beq_eq_false_iff_ne]; exact h⟩
      go_wp2_with fail
      refine (rsigns_any _).mono ?_
      rintro e w2 ⟨rfl, hb2, hs2, ht2⟩
      have HT := hidE ht2
      have HB2 := hidE (below_on HB1.out hb2)
      have HW2 : Hid (Wo w2 w.heap.size 5 i 0 t) := HW1.out.below hb2 HW1.out.lt
      obtain ⟨p, hp⟩ : ∃ p, W1.heap.size = p := ⟨_, rfl⟩
      rw [hp] at HT ⊢
      clear hb2 ht2 hs2 c0 c2 c3 hp
      go_wp2_with fail
      go_loopw [4] (fun x wr => ∃ q : Nat, q ≤ 22 ∧ x = .int .i64 q ∧ Below w2.heap.size w2 wr ∧ V = (sgL.drop q).any fun K => decide (K.data.toList = t.data.toList)) (fun x _ => 22 - (intOf x).toNat)
      case atStart => exact ⟨0, by omega, rfl, Below.refl _ _, HE2.out⟩
      case round =>
        obtain ⟨q, hq, rfl, hb, hv⟩ := hrel
        have HB := hidE hb
        have HQ := hidE hv
        clear hb hv
        by_cases hlt : q < 22
        · have hlt' : (q : Int) < 22 := by omega
          obtain ⟨K, hK⟩ : ∃ K, sgL[q]? = some K := ⟨_, List.getElem?_eq_getElem hlt⟩
          have k0 := cell_below HB.out (Nat.le_refl _) (HT.out q K hK)
          have k2 := (HW2.out.below HB.out HW2.out.lt).c2
          have HK := hidE (any_at (p := fun K => decide (K.data.toList = t.data.toList)) hK)
          clear hK
          by_cases he : K.data.toList = t.data.toList
          · have HF : Hid (V = true) := by
              show _ = _
              rw [HQ.out, HK.out, decide_eq_true he, Bool.true_or]
            have hcm := (HCM.out K).1 he
            clear he
            go_wp2_with fail
            go_quiet (fail)
            go_wp2_with fail
            go_ret
            exact ⟨by rw [HF.out]; rfl, below_on HB2.out (below_drewN' HB.out _)⟩
          · have HF : Hid (V = (sgL.drop (q + 1)).any fun K => decide (K.data.toList = t.data.toList)) := by
              show _ = _
              rw [HQ.out, HK.out, decide_eq_false he, Bool.false_or]
            have hcm := (HCM.out K).2 he
            clear he
            go_wp2_with fail
            go_quiet (fail)
            go_wp2_with fail
            go_roundw
            case rel => exact ⟨q + 1, by omega, by go_num, below_drewN' HB.out _, HF.out⟩
            case measure => simp [intOf]; omega
        · have hlt' : ¬ (q : Int) < 22 := by omega
          have HF : Hid (V = false) := by
            show _ = _
            rw [HQ.out, List.drop_of_length_le (by show 22 ≤ q; omega)]; rfl
          go_wp2_with fail
          go_ret
          exact ⟨by rw [HF.out]; rfl, below_on HB2.out HB.out⟩
    have h5' : (k == 5) = false := ne_bool h5
    have HE2 : Hid (V = false) := by show _ = _; rw [HV.out, if_neg h1, if_neg h2, if_neg h3, if_neg h4, if_neg h5]
    go_wp2_with fail
    go_ret
    exact ⟨by rw [HE2.out]; rfl, HB1.out⟩
  · have hn' : (n == 0) = false := ne_bool hn
    have hn'' : (n != 0) = true := by rw [bne_iff_ne]; exact hn
    have HE2 : Hid (V = false) := by
      show _ = _
      rw [HV.out, hn', if_neg h4]
      simp
    go_wp2_with fail
    go_ret
    exact ⟨by rw [HE2.out]; rfl, HB1.out⟩
end Go.Proofs.YtbjcdpenfijfoaaGreatDoor
