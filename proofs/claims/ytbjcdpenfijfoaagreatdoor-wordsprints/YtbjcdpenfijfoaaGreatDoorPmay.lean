/- Which words may be, and how one is told. -/
import Derived.Test.YtbjcdpenfijfoaaGreatDoorFmt
namespace Go.Proofs.YtbjcdpenfijfoaaGreatDoor
open Go.RowKit Go.Shelf Go.Lexed
set_option linter.unusedVariables false
set_option linter.unusedSimpArgs false
/-- A word without its place. -/
def W4.wd (x : W4) : Wd := ⟨x.k.toNat, x.t.data.toList, x.n.toNat⟩
theorem is_nil {t : ByteArray} : t.toList.isEmpty = (t.data.toList == []) := by
  rw [ByteArray.toList_eq]; cases t.data.toList <;> rfl
set_option maxRecDepth 100000 in
set_option maxHeartbeats 4000000 in
theorem may_any (x : W4) (hn0 : 0 ≤ x.n) (hn1 : x.n < 18446744073709551616) (ht : x.t.size ≤ 1000000000) (w : World) (hE : Env w) :
    Calls Tryz.prog 36 #[x.val] w fun e w' => e = .returned (.bool (mayW Lib.validD x.wd)) ∧ Below w.heap.size w w' := by
  obtain ⟨k, i, t, n⟩ := x
  simp only at hn0 hn1 ht
  have HV : Hid (mayW Lib.validD (W4.mk k i t n).wd = if k = 1 then bareB t.data.toList && nameOk Lib.validD t.data.toList && (n == 0) else if k = 2 then nameOk Lib.validD t.data.toList && (n == 0) else if k = 3 then Lib.validD t.data.toList && (n == 0) else if k = 4 then t.toList.isEmpty && decide (n ≤ 9223372036854775808) else if k = 5 then signOk t.data.toList && (n == 0) else false) := by
    show _ = _
    have e0 : (n.toNat == 0) = (n == 0) := by rw [Bool.eq_iff_iff]; simp; omega
    have e1 : decide (n.toNat ≤ 9223372036854775808) = decide (n ≤ 9223372036854775808) := by rw [decide_eq_decide]; omega
    unfold mayW W4.wd
    simp only [e0, is_nil]
    by_cases h1 : k = 1
    · subst h1; simp
    · rw [if_neg (by omega : ¬ k.toNat = 1), if_neg h1]
      by_cases h2 : k = 2
      · subst h2; simp
      · rw [if_neg (by omega : ¬ k.toNat = 2), if_neg h2]
        by_cases h3 : k = 3
        · subst h3; simp
        · rw [if_neg (by omega : ¬ k.toNat = 3), if_neg h3]
          by_cases h4 : k = 4
          · subst h4
            rw [if_pos (by decide : Int.toNat 4 = 4), if_pos rfl, e1]
          · rw [if_neg (by omega : ¬ k.toNat = 4), if_neg h4]
            by_cases h5 : k = 5
            · subst h5; simp
            · rw [if_neg (by omega : ¬ k.toNat = 5), if_neg h5]
  generalize mayW Lib.validD (W4.mk k i t n).wd = V at HV ⊢
  have HE := hidE hE
  have h8 := hE.room
  clear hE
  unfold W4.val
  simp only
  go_enter Tryz.func36, Tryz.ntmps36
  go_upto_region 1 with fail
  generalize hW1 : World.alloc _ _ = W1
  have HB1 : Hid (Below w.heap.size w W1) := by rw [← hW1]; exact (Below.refl _ _).alloc (Nat.le_refl _) _
  have HW1 : Hid (Wo W1 w.heap.size k i n t) := by rw [← hW1]; exact World.alloc_heap_new _ _
  clear hW1
  have HE1 : Hid (Env W1) := HE.out.below HB1.out h8
  have c0 := HW1.out.c0
  have c2 := HW1.out.c2
  have c3 := HW1.out.c3
  have HAF : Hid (∀ W, Below W1.heap.size W1 W → Below w.heap.size w W ∧ W.cell? ⟨w.heap.size, 3, none⟩ = some (.int .u64 n)) := fun W hb => ⟨below_on HB1.out hb, (HW1.out.below hb HW1.out.lt).c3⟩
  by_cases h1 : k = 1
  · subst h1
    have HE2 : Hid (V = (bareB t.data.toList && nameOk Lib.validD t.data.toList && (n == 0))) := HV.out
    have HC := hidE (bare_any t ht W1 HE1.out)
    generalize (bareB t.data.toList && nameOk Lib.validD t.data.toList) = b at HE2 HC
    go_wp2_with fail
    refine HC.out.mono ?_
    rintro e w2 ⟨rfl, hb2⟩
    obtain ⟨hb3, c3'⟩ := HAF.out w2 hb2
    have HB3 := hidE hb3
    clear hb2 hb3 c0 c2 c3
    cases b with
    | true => go_wp2_with fail; go_ret; exact ⟨by rw [HE2.out]; rfl, HB3.out⟩
    | false => go_wp2_with fail; go_ret; exact ⟨by rw [HE2.out]; rfl, HB3.out⟩
  have h1' : (k == 1) = false := ne_bool h1
  by_cases h2 : k = 2
  · subst h2
    have HE2 : Hid (V = (nameOk Lib.validD t.data.toList && (n == 0))) := HV.out
    have HC := hidE (name_any t (by omega) W1 HE1.out)
    generalize nameOk Lib.validD t.data.toList = b at HE2 HC
    go_wp2_with fail
    refine HC.out.mono ?_
    rintro e w2 ⟨rfl, hb2⟩
    obtain ⟨hb3, c3'⟩ := HAF.out w2 hb2
    have HB3 := hidE hb3
    clear hb2 hb3 c0 c2 c3
    cases b with
    | true => go_wp2_with fail; go_ret; exact ⟨by rw [HE2.out]; rfl, HB3.out⟩
    | false => go_wp2_with fail; go_ret; exact ⟨by rw [HE2.out]; rfl, HB3.out⟩
  have h2' : (k == 2) = false := ne_bool h2
  by_cases h3 : k = 3
  · subst h3
    have HE2 : Hid (V = (Lib.validD t.data.toList && (n == 0))) := HV.out
    have HC := hidE (valid_any t (by omega) W1 HE1.out)
    generalize Lib.validD t.data.toList = b at HE2 HC
    go_wp2_with fail
    refine HC.out.mono ?_
    rintro e w2 ⟨rfl, hb2⟩
    obtain ⟨hb3, c3'⟩ := HAF.out w2 hb2
    have HB3 := hidE hb3
    clear hb2 hb3 c0 c2 c3
    cases b with
    | true => go_wp2_with fail; go_ret; exact ⟨by rw [HE2.out]; rfl, HB3.out⟩
    | false => go_wp2_with fail; go_ret; exact ⟨by rw [HE2.out]; rfl, HB3.out⟩
  have h3' : (k == 3) = false := ne_bool h3
  by_cases h4 : k = 4
  · subst h4
    have HE2 : Hid (V = (t.toList.isEmpty && decide (n ≤ 9223372036854775808))) := HV.out
    by_cases hle : n ≤ 9223372036854775808
    · have HE3 : Hid (V = t.toList.isEmpty) := by show _ = _; rw [HE2.out, decide_eq_true hle, Bool.and_true]
      go_wp2_with fail
      go_ret
      exact ⟨by rw [HE3.out]; rfl, HB1.out⟩
    · have HE3 : Hid (V = false) := by show _ = _; rw [HE2.out, decide_eq_false hle, Bool.and_false]
      go_wp2_with fail
      go_ret
      exact ⟨by rw [HE3.out]; rfl, HB1.out⟩
  have h4' : (k == 4) = false := ne_bool h4
  by_cases h5 : k = 5
  · subst h5
    have HE2 : Hid (V = (signOk t.data.toList && (n == 0))) := HV.out
    have HC := hidE (fun w => sign_any t w)
    generalize signOk t.data.toList = b at HE2 HC
    go_wp2_with fail
    refine (HC.out _).mono ?_
    rintro e w2 ⟨rfl, rfl⟩
    cases b with
    | true => go_wp2_with fail; go_ret; exact ⟨by rw [HE2.out]; rfl, HB1.out⟩
    | false => go_wp2_with fail; go_ret; exact ⟨by rw [HE2.out]; rfl, HB1.out⟩
  have h5' : (k == 5) = false := ne_bool h5
  have HE2 : Hid (V = false) := by show _ = _; rw [HV.out, if_neg h1, if_neg h2, if_neg h3, if_neg h4, if_neg h5]
  go_wp2_with fail
  go_ret
  exact ⟨by rw [HE2.out]; rfl, HB1.out⟩
set_option maxRecDepth 20000 in
theorem esc_same (c : UInt8) : escB c = escC c := by
  refine all_bytes (p := fun c => escB c = escC c) ?_ c
  decide
theorem quote_same (t : ByteArray) : quoteB t = 39 :: ((t.data.toList.map escC).flatten ++ [39]) := by
  unfold quoteB escAll
  rw [show escB = escC from funext esc_same]
  simp
set_option maxRecDepth 100000 in
set_option maxHeartbeats 4000000 in
theorem tell_any (x : W4) (hn0 : 0 ≤ x.n) (hn1 : x.n < 18446744073709551616) (ht : x.t.size ≤ 100000000) (hm : mayW Lib.validD x.wd = true) (w : World) (hE : Env w) :
    Calls Tryz.prog 37 #[x.val] w fun e w' => e = .returned (.string (bsOf (tellW x.wd))) ∧ Below w.heap.size w w' := by
  obtain ⟨k, i, t, n⟩ := x
  simp only at hn0 hn1 ht
  have HV : Hid (bsOf (tellW (W4.mk k i t n).wd) = if k = 2 then bsOf (encB t.data.toList) else if k = 3 then ⟨(quoteB t).toArray⟩ else if k = 4 then ⟨(Lib.decDigits n.toNat).toArray⟩ else t) := by
    show _ = _
    unfold tellW W4.wd
    simp only
    by_cases h2 : k = 2
    · subst h2; rfl
    · rw [if_neg (by omega : ¬ k.toNat = 2), if_neg h2]
      by_cases h3 : k = 3
      · subst h3; rw [quote_same]; rfl
      · rw [if_neg (by omega : ¬ k.toNat = 3), if_neg h3]
        by_cases h4 : k = 4
        · subst h4; rfl
        · rw [if_neg (by omega : ¬ k.toNat = 4), if_neg h4, of_bs]
  have HVD : Hid (k = 3 → Lib.validD t.data.toList = true) := fun h3 => by
    subst h3
    have h : mayW Lib.validD (W4.mk 3 i t n).wd = (Lib.validD t.data.toList && (n.toNat == 0)) := rfl
    rw [h, Bool.and_eq_true] at hm
    exact hm.1
  generalize bsOf (tellW (W4.mk k i t n).wd) = V at HV ⊢
  have HE := hidE hE
  have h8 := hE.room
  clear hE hm
  unfold W4.val
  simp only
  go_enter Tryz.func37, Tryz.ntmps37
  go_upto_region 1 with fail
  generalize hW1 : World.alloc _ _ = W1
  have HB1 : Hid (Below w.heap.size w W1) := by rw [← hW1]; exact (Below.refl _ _).alloc (Nat.le_refl _) _
  have HW1 : Hid (Wo W1 w.heap.size k i n t) := by rw [← hW1]; exact World.alloc_heap_new _ _
  clear hW1
  have HE1 : Hid (Env W1) := HE.out.below HB1.out h8
  have c0 := HW1.out.c0
  have c2 := HW1.out.c2
  have c3 := HW1.out.c3
  by_cases h2 : k = 2
  · subst h2
    have HE2 : Hid (V = bsOf (encB t.data.toList)) := HV.out
    have HC := hidE (enc_any t (by omega) W1 HE1.out)
    generalize bsOf (encB t.data.toList) = b at HE2 HC
    go_wp2_with fail
    refine HC.out.mono ?_
    rintro e w2 ⟨rfl, hb2⟩
    have HB3 := hidE (below_on HB1.out hb2)
    clear hb2
    go_wp2_with fail
    go_ret
    exact ⟨by rw [HE2.out]; rfl, HB3.out⟩
  have h2' : (k == 2) = false := ne_bool h2
  by_cases h3 : k = 3
  · subst h3
    have HE2 : Hid (V = ⟨(quoteB t).toArray⟩) := HV.out
    have HC := hidE (Quote_any t (by omega) W1 HE1.out (HVD.out rfl))
    generalize (⟨(quoteB t).toArray⟩ : ByteArray) = b at HE2 HC
    go_wp2_with fail
    refine HC.out.mono ?_
    rintro e w2 ⟨rfl, hb2⟩
    have HB3 := hidE (below_on HB1.out hb2)
    clear hb2
    go_wp2_with fail
    go_ret
    exact ⟨by rw [HE2.out]; rfl, HB3.out⟩
  have h3' : (k == 3) = false := ne_bool h3
  by_cases h4 : k = 4
  · subst h4
    have HE2 : Hid (V = ⟨(Lib.decDigits n.toNat).toArray⟩) := HV.out
    have HC := hidE (fmt_any n.toNat (by omega) W1 HE1.out)
    rw [show ((n.toNat : Nat) : Int) = n by omega] at HC
    generalize (⟨(Lib.decDigits n.toNat).toArray⟩ : ByteArray) = b at HE2 HC
    go_wp2_with fail
    refine HC.out.mono ?_
    rintro e w2 ⟨rfl, hb2⟩
    have HB3 := hidE (below_on HB1.out hb2)
    clear hb2
    go_wp2_with fail
    go_ret
    exact ⟨by rw [HE2.out]; rfl, HB3.out⟩
  have h4' : (k == 4) = false := ne_bool h4
  have HE2 : Hid (V = t) := by show _ = _; rw [HV.out, if_neg h2, if_neg h3, if_neg h4]
  go_wp2_with fail
  go_ret
  exact ⟨by rw [HE2.out]; rfl, HB1.out⟩
end Go.Proofs.YtbjcdpenfijfoaaGreatDoor
