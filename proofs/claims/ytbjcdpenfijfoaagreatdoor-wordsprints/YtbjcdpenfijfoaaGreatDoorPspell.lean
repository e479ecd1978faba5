/- How names are written. -/
import Derived.Test.YtbjcdpenfijfoaaGreatDoorVname
namespace Go.Proofs.YtbjcdpenfijfoaaGreatDoor
open Go.RowKit Go.Shelf Go.Lexed
set_option linter.unusedVariables false
set_option linter.unusedSimpArgs false
set_option maxRecDepth 20000 in
theorem vlet_is (c : UInt8) : vletB c.toNat = isL c := by
  refine all_bytes (p := fun c => vletB c.toNat = isL c) ?_ c
  decide
set_option maxRecDepth 20000 in
theorem vdig_is (c : UInt8) : (decide (48 ≤ c.toNat) && decide (c.toNat ≤ 57)) = isD c := by
  refine all_bytes (p := fun c => (decide (48 ≤ c.toNat) && decide (c.toNat ≤ 57)) = isD c) ?_ c
  decide
theorem get_at {s : ByteArray} {j : Nat} (h : j < s.size) : s.get! j = s.data.toList[j]'(by simpa using h) := by
  simp [ByteArray.get!, h]
theorem all_at : ∀ (l : List UInt8) (p : Nat → Bool) (q : UInt8 → Bool), (∀ j, (h : j < l.length) → p j = q l[j]) → (List.range l.length).all p = l.all q
  | [], p, q, h => rfl
  | c :: l, p, q, h => by
    rw [List.length_cons, List.range_succ_eq_map, List.all_cons, List.all_cons, List.all_map]
    rw [h 0 (by simp)]
    congr 1
    exact all_at l (p ∘ Nat.succ) q fun j hj => h (j + 1) (by simpa using hj)
theorem vbare_is (s : ByteArray) : vbareB s = bareB s.data.toList := by
  unfold vbareB
  have hz : s.size = s.data.toList.length := rfl
  have hat : ∀ j, (h : j < s.data.toList.length) → vbareAt s j = (isL s.data.toList[j] || (decide (0 < j) && isD s.data.toList[j])) := fun j h => by
    unfold vbareAt
    rw [get_at (by rw [hz]; exact h), vlet_is, vdig_is]
  rw [hz]
  generalize s.data.toList = l at hat
  cases l with
  | nil => rfl
  | cons c t =>
    rw [List.length_cons, List.range_succ_eq_map, List.all_cons, List.all_map, hat 0 (by simp)]
    rw [all_at t (vbareAt s ∘ Nat.succ) isLD (fun j hj => by
      have := hat (j + 1) (by simpa using hj)
      simpa [isLD] using this)]
    unfold bareB
    simp only [List.all_cons]
    cases hc : isL c <;> simp [isLD, hc]
theorem dbl_is (l : List UInt8) : dblB l = (l.map dblC).flatten := rfl
/-- A name between signs. -/
def encB (l : List UInt8) : List UInt8 := 96 :: (dblB l ++ [96])
theorem vname_long {s : ByteArray} (h : vbareB s = false) : (vnameB s).data.toList = encB s.data.toList := by
  unfold vnameB
  rw [if_neg (by simp [h])]
  simp [encB, ByteArray.data_append]
theorem dbl_ge (l : List UInt8) : l.length ≤ (dblB l).length := by
  induction l with
  | nil => simp [dblB]
  | cons c r ih =>
    rw [dblB_cons]
    simp only [List.length_append, List.length_cons]
    split <;> simp <;> omega
theorem vname_same (s : ByteArray) : ((vnameB s).toList == s.toList) = vbareB s := by
  cases h : vbareB s with
  | true => unfold vnameB; rw [if_pos h]; simp
  | false =>
    rw [ByteArray.toList_eq, ByteArray.toList_eq, vname_long h, beq_eq_false_iff_ne]
    intro e
    have := congrArg List.length e
    have := dbl_ge s.data.toList
    simp [encB] at *
    omega
theorem bare_any (s : ByteArray) (hs : s.size ≤ 1000000000) (w : World) (hE : Env w) : Calls Tryz.prog 47 #[.string s] w fun e w' => e = .returned (.bool (bareB s.data.toList && nameOk Lib.validD s.data.toList)) ∧ Below w.heap.size w w' := by
  have HN := hidE (name_any s (by omega) w hE)
  have HV : Hid (nameOk Lib.validD s.data.toList = true → Lib.validD s.data.toList = true) := fun h => by
    unfold nameOk at h
    simp only [Bool.and_eq_true] at h
    exact h.1.2
  have HS : Hid (((vnameB s).toList == s.toList) = bareB s.data.toList) := by show _ = _; rw [vname_same, vbare_is]
  generalize bareB s.data.toList = b at HS ⊢
  have HM : Hid (∀ w', Below w.heap.size w w' → Lib.validD s.data.toList = true → Calls Tryz.prog 67 #[.string s] w' fun e w2 => e = .returned (.string (vnameB s)) ∧ Below w'.heap.size w' w2) :=
    fun w' hb hv => vname_any s hs hv w' (hE.below hb hE.room)
  generalize vnameB s = t at HM HS
  generalize hv : Lib.validD s.data.toList = vd at HV HM
  generalize nameOk Lib.validD s.data.toList = v at HV HN ⊢
  clear hE hv
  go_enter Tryz.func47, Tryz.ntmps47
  go_wp2_with fail
  refine HN.out.mono ?_
  rintro e w1 ⟨rfl, hb⟩
  have HB := hidE hb
  clear hb
  cases v with
  | true =>
    have HM2 := hidE (HM.out w1 HB.out (HV.out rfl))
    clear HM HV
    go_wp2_with fail
    refine HM2.out.mono ?_
    rintro e w2 ⟨rfl, hb2⟩
    have HB2 : Hid (Below w.heap.size w w2) := below_on HB.out hb2
    clear hb2
    have hs2 := HS.out
    go_wp2_with fail
    go_ret
    exact ⟨by rw [Bool.and_true, ← hs2]; rfl, HB2.out⟩
  | false =>
    go_wp2_with fail
    go_ret
    exact ⟨by rw [Bool.and_false]; rfl, HB.out⟩
theorem enc_any (s : ByteArray) (hs : s.size ≤ 1000000000) (w : World) (hE : Env w) : Calls Tryz.prog 48 #[.string s] w fun e w' => e = .returned (.string (bsOf (encB s.data.toList))) ∧ Below w.heap.size w w' := by
  obtain ⟨m, hm⟩ := hE.ml
  have hcb := Lib.countB_mul_le ⟨#[96]⟩ (by decide) s.size s (Nat.le_refl _)
  have h1 : (⟨#[96]⟩ : ByteArray).size = 1 := rfl
  have h22 : (⟨#[96, 96]⟩ : ByteArray).size = 2 := rfl
  have HR : Hid (Calls Tryz.prog 68 #[.string s, .string ⟨#[96]⟩, .string ⟨#[96, 96]⟩] w fun e w2 => e = .returned (.string ⟨(dblB s.data.toList).toArray⟩) ∧ Below w.heap.size w w2) := by
    have := Tryz.strings_ReplaceAll s ⟨#[96]⟩ ⟨#[96, 96]⟩ m w (by omega) hm (by decide) (by rw [h22]; rw [h1] at hcb; omega)
    rw [show (⟨#[96]⟩ : ByteArray).data.toList = [96] from rfl, show (⟨#[96, 96]⟩ : ByteArray).data.toList = [96, 96] from rfl, replaceAll_dbl] at this
    exact this
  have HX : Hid (bsOf (encB s.data.toList) = ⟨#[96]⟩ ++ ⟨(dblB s.data.toList).toArray⟩ ++ ⟨#[96]⟩) := by
    show _ = _
    rw [← of_bs (_ ++ _)]
    congr 1
  generalize bsOf (encB s.data.toList) = X at HX ⊢
  obtain ⟨D, hD⟩ : ∃ D : ByteArray, (⟨(dblB s.data.toList).toArray⟩ : ByteArray) = D := ⟨_, rfl⟩
  have hDs : D.size ≤ 2000000000 := by
    rw [← hD]
    have a := dblB_len s.data.toList
    have b : s.data.toList.length = s.size := rfl
    have c : (⟨(dblB s.data.toList).toArray⟩ : ByteArray).size = (dblB s.data.toList).length := by simp [ByteArray.size]
    omega
  rw [hD] at HR HX
  have z1 : ¬ 9223372036854775807 < 1 + D.size := by omega
  have z2 : ¬ 9223372036854775807 < 1 + D.size + 1 := by omega
  clear hD hcb hm hE h1 h22
  go_enter Tryz.func48, Tryz.ntmps48
  go_wp2_with fail
  refine HR.out.mono ?_
  rintro e w1 ⟨rfl, hb⟩
  have HB := hidE hb
  clear hb
  go_wp2_with fail
  go_ret
  exact ⟨by rw [HX.out]; rfl, HB.out⟩
/-- A name as it is written. -/
def spellB (l : List UInt8) : List UInt8 := if nameOk Lib.validD l then (if bareB l && !resB l then l else encB l) else []
theorem spell_any (s : ByteArray) (hs : s.size ≤ 1000000000) (w : World) (hE : Env w) : Calls Tryz.prog 27 #[.string s] w fun e w' => e = .returned (.string (bsOf (spellB s.data.toList))) ∧ Below w.heap.size w w' := by
  have HN := hidE (name_any s (by omega) w hE)
  have HB := hidE (fun w' (hb : Below w.heap.size w w') => bare_any s hs w' (hE.below hb hE.room))
  have HR := hidE (fun w' => res_any s (by omega) w')
  have HC := hidE (fun w' (hb : Below w.heap.size w w') => enc_any s hs w' (hE.below hb hE.room))
  have HV : Hid (bsOf (spellB s.data.toList) = if nameOk Lib.validD s.data.toList then (if bareB s.data.toList && !resB s.data.toList then s else bsOf (encB s.data.toList)) else ⟨#[]⟩) := by
    show _ = _
    unfold spellB
    split
    · split
      · exact of_bs s
      · rfl
    · rfl
  generalize bsOf (spellB s.data.toList) = V at HV ⊢
  generalize bsOf (encB s.data.toList) = X at HV HC
  generalize nameOk Lib.validD s.data.toList = v at HV HN HB
  generalize bareB s.data.toList = b at HV HB
  generalize resB s.data.toList = r at HV HR
  clear hE hs
  go_enter Tryz.func27, Tryz.ntmps27
  go_wp2_with fail
  refine HN.out.mono ?_
  rintro e w1 ⟨rfl, hb⟩
  have HB1 := hidE hb
  cases v with
  | false =>
    have HE : Hid (V = ⟨#[]⟩) := by show _ = _; rw [HV.out]; rfl
    clear hb
    go_wp2_with fail
    go_ret
    exact ⟨by rw [HE.out]; rfl, HB1.out⟩
  | true =>
    have HBa := hidE (HB.out w1 hb)
    rw [Bool.and_true] at HBa
    have HV2 : Hid (V = if b && !r then s else X) := by show _ = _; rw [HV.out, if_pos rfl]
    clear hb HB HV
    go_wp2_with fail
    refine HBa.out.mono ?_
    rintro e w2 ⟨rfl, hb2⟩
    have HB2 : Hid (Below w.heap.size w w2) := below_on HB1.out hb2
    clear hb2 HB1 HBa
    cases b with
    | false =>
      have HE : Hid (V = X) := by show _ = _; rw [HV2.out]; rfl
      have HC2 := hidE (HC.out w2 HB2.out)
      clear HC
      go_wp2_with fail
      refine HC2.out.mono ?_
      rintro e w3 ⟨rfl, hb3⟩
      have HB3 : Hid (Below w.heap.size w w3) := below_on HB2.out hb3
      clear hb3
      go_wp2_with fail
      go_ret
      exact ⟨by rw [HE.out]; rfl, HB3.out⟩
    | true =>
      go_wp2_with fail
      refine (HR.out w2).mono ?_
      rintro e w3 ⟨rfl, hb3⟩
      have HB3 : Hid (Below w.heap.size w w3) := below_on HB2.out hb3
      clear hb3
      cases r with
      | false =>
        have HE : Hid (V = s) := by show _ = _; rw [HV2.out]; rfl
        go_wp2_with fail
        go_ret
        exact ⟨by rw [HE.out]; rfl, HB3.out⟩
      | true =>
        have HE : Hid (V = X) := by show _ = _; rw [HV2.out]; rfl
        have HC2 := hidE (HC.out w3 HB3.out)
        clear HC
        go_wp2_with fail
        refine HC2.out.mono ?_
        rintro e w4 ⟨rfl, hb4⟩
        have HB4 : Hid (Below w.heap.size w w4) := below_on HB3.out hb4
        clear hb4
        go_wp2_with fail
        go_ret
        exact ⟨by rw [HE.out]; rfl, HB4.out⟩
end Go.Proofs.YtbjcdpenfijfoaaGreatDoor
