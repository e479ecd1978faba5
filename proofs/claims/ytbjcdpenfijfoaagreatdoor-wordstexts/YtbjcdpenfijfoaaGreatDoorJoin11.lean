/- Which words may be, and how one is told. Print: what is said of words and their telling. -/
import Derived.Test.YtbjcdpenfijfoaaGreatDoorFmt
import Derived.Test.YtbjcdpenfijfoaaGreatDoorLex2
namespace Go.Proofs.YtbjcdpenfijfoaaGreatDoor
open Go.RowKit Go.Shelf Go.Lexed
set_option linter.unusedVariables false
set_option linter.unusedSimpArgs false
/-- A word without its place. -/
def W4.wd (x : W4) : Wd := ⟨x.k.toNat, x.t.data.toList, x.n.toNat⟩
theorem is_nil {t : ByteArray} : t.toList.isEmpty = (t.data.toList == []) := by
  rw [ByteArray.toList_eq]; cases t.data.toList <;> rfl
set_option maxRecDepth 100000 in
set_option maxHeartbeats 4000000 in
theorem may_any (x : W4) (hn0 : 0 ≤ x.n) (hn1 : x.n < 18446744073709551616) (ht : x.t.size ≤ 1000000000) (w : World) (hE : Env w) :
    Calls Tryz.prog 36 #[x.val] w fun e w' => e = .returned (.bool (mayW Lib.validD x.wd)) ∧ Below w.heap.size w w' := by
  obtain ⟨k, i, t, n⟩ := x
  simp only at hn0 hn1 ht
  have HV : Hid (mayW Lib.validD (W4.mk k i t n).wd = if k = 1 then bareB t.data.toList && nameOk Lib.validD t.data.toList && (n == 0) else if k = 2 then nameOk Lib.validD t.data.toList && (n == 0) else if k = 3 then Lib.validD t.data.toList && (n == 0) else if k = 4 then t.toList.isEmpty && decide (n ≤ 9223372036854775808) else if k = 5 then signOk t.data.toList && (n == 0) else false) := by
    show _ = _
    have e0 : (n.toNat == 0) = (n == 0) := by rw [Bool.eq_iff_iff]; simp; omega
    have e1 : decide (n.toNat ≤ 9223372036854775808) = decide (n ≤ 9223372036854775808) := by rw [decide_eq_decide]; omega
    unfold mayW W4.wd
    simp only [e0, is_nil]
    by_cases h1 : k = 1
    · subst h1; simp
    · rw [if_neg (by omega : ¬ k.toNat = 1), if_neg h1]
      by_cases h2 : k = 2
      · subst h2; simp
      · rw [if_neg (by omega : ¬ k.toNat = 2), if_neg h2]
        by_cases h3 : k = 3
        · subst h3; simp
        · rw [if_neg (by omega : ¬ k.toNat = 3), if_neg h3]
          by_cases h4 : k = 4
          · subst h4
            rw [if_pos (by decide : Int.toNat 4 = 4), if_pos rfl, e1]
          · rw [if_neg (by omega : ¬ k.toNat = 4), if_neg h4]
            by_cases h5 : k = 5
            · subst h5; simp
            · rw [if_neg (by omega : ¬ k.toNat = 5), if_neg h5]
  generalize mayW Lib.validD (W4.mk k i t n).wd = V at HV ⊢
  have HE := hidE hE
  have h8 := hE.room
  clear hE
  unfold W4.val
  simp only
  go_enter Tryz.func36, Tryz.ntmps36
  go_upto_region 1 with fail
  generalize hW1 : World.alloc _ _ = W1
  have HB1 : Hid (Below w.heap.size w W1) := by rw [← hW1]; exact (Below.refl _ _).alloc (Nat.le_refl _) _
  have HW1 : Hid (Wo W1 w.heap.size k i n t) := by rw [← hW1]; exact World.alloc_heap_new _ _
  clear hW1
  have HE1 : Hid (Env W1) := HE.out.below HB1.out h8
  have c0 := HW1.out.c0
  have c2 := HW1.out.c2
  have c3 := HW1.out.c3
  have HAF : Hid (∀ W, Below W1.heap.size W1 W → Below w.heap.size w W ∧ W.cell? ⟨w.heap.size, 3, none⟩ = some (.int .u64 n)) := fun W hb => ⟨below_on HB1.out hb, (HW1.out.below hb HW1.out.lt).c3⟩
  by_cases h1 : k = 1
  · subst h1
    have HE2 : Hid (V = (bareB t.data.toList && nameOk Lib.validD t.data.toList && (n == 0))) := HV.out
    have HC := hidE (bare_any t ht W1 HE1.out)
    generalize (bareB t.data.toList && nameOk Lib.validD t.data.toList) = b at HE2 HC
    go_wp2_with fail
    refine HC.out.mono ?_
    rintro e w2 ⟨rfl, hb2⟩
    obtain ⟨hb3, c3'⟩ := HAF.out w2 hb2
    have HB3 := hidE hb3
    clear hb2 hb3 c0 c2 c3
    cases b with
    | true => go_wp2_with fail; go_ret; exact ⟨by rw [HE2.out]; rfl, HB3.out⟩
    | false => go_wp2_with fail; go_ret; exact ⟨by rw [HE2.out]; rfl, HB3.out⟩
  have h1' : (k == 1) = false := ne_bool h1
  by_cases h2 : k = 2
  · subst h2
    have HE2 : Hid (V = (nameOk Lib.validD t.data.toList && (n == 0))) := HV.out
    have HC := hidE (name_any t (by omega) W1 HE1.out)
    generalize nameOk Lib.validD t.data.toList = b at HE2 HC
    go_wp2_with fail
    refine HC.out.mono ?_
    rintro e w2 ⟨rfl, hb2⟩
    obtain ⟨hb3, c3'⟩ := HAF.out w2 hb2
    have HB3 := hidE hb3
    clear hb2 hb3 c0 c2 c3
    cases b with
    | true => go_wp2_with fail; go_ret; exact ⟨by rw [HE2.out]; rfl, HB3.out⟩
    | false => go_wp2_with fail; go_ret; exact ⟨by rw [HE2.out]; rfl, HB3.out⟩
  have h2' : (k == 2) = false := ne_bool h2
  by_cases h3 : k = 3
  · subst h3
    have HE2 : Hid (V = (Lib.validD t.data.toList && (n == 0))) := HV.out
    have HC := hidE (valid_any t (by omega) W1 HE1.out)
    generalize Lib.validD t.data.toList = b at HE2 HC
    go_wp2_with fail
    refine HC.out.mono ?_
    rintro e w2 ⟨rfl, hb2⟩
    obtain ⟨hb3, c3'⟩ := HAF.out w2 hb2
    have HB3 := hidE hb3
    clear hb2 hb3 c0 c2 c3
    cases b with
    | true => go_wp2_with fail; go_ret; exact ⟨by rw [HE2.out]; rfl, HB3.out⟩
    | false => go_wp2_with fail; go_ret; exact ⟨by rw [HE2.out]; rfl, HB3.out⟩
  have h3' : (k == 3) = false := ne_bool h3
  by_cases h4 : k = 4
  · subst h4
    have HE2 : Hid (V = (t.toList.isEmpty && decide (n ≤ 9223372036854775808))) := HV.out
    by_cases hle : n ≤ 9223372036854775808
    · have HE3 : Hid (V = t.toList.isEmpty) := by show _ = _; rw [HE2.out, decide_eq_true hle, Bool.and_true]
      go_wp2_with fail
      go_ret
      exact ⟨by rw [HE3.out]; rfl, HB1.out⟩
    · have HE3 : Hid (V = false) := by show _ = _; rw [HE2.out, decide_eq_false hle, Bool.and_false]
      go_wp2_with fail
      go_ret
      exact ⟨by rw [HE3.out]; rfl, HB1.out⟩
  have h4' : (k == 4) = false := ne_bool h4
  by_cases h5 : k = 5
  · subst h5
    have HE2 : Hid (V = (signOk t.data.toList && (n == 0))) := HV.out
    have HC := hidE (fun w => sign_any t w)
    generalize signOk t.data.toList = b at HE2 HC
    go_wp2_with fail
    refine (HC.out _).mono ?_
    rintro e w2 ⟨rfl, rfl⟩
    cases b with
    | true => go_wp2_with fail; go_ret; exact ⟨by rw [HE2.out]; rfl, HB1.out⟩
    | false => go_wp2_with fail; go_ret; exact ⟨by rw [HE2.out]; rfl, HB1.out⟩
  have h5' : (k == 5) = false := ne_bool h5
  have HE2 : Hid (V = false) := by show _ = _; rw [HV.out, if_neg h1, if_neg h2, if_neg h3, if_neg h4, if_neg h5]
  go_wp2_with fail
  go_ret
  exact ⟨by rw [HE2.out]; rfl, HB1.out⟩
set_option maxRecDepth 20000 in
theorem esc_same (c : UInt8) : escB c = escC c := by
  refine all_bytes (p := fun c => escB c = escC c) ?_ c
  decide
theorem quote_same (t : ByteArray) : quoteB t = 39 :: ((t.data.toList.map escC).flatten ++ [39]) := by
  unfold quoteB escAll
  rw [show escB = escC from funext esc_same]
  simp
set_option maxRecDepth 100000 in
set_option maxHeartbeats 4000000 in
theorem tell_any (x : W4) (hn0 : 0 ≤ x.n) (hn1 : x.n < 18446744073709551616) (ht : x.t.size ≤ 100000000) (hm : mayW Lib.validD x.wd = true) (w : World) (hE : Env w) :
    Calls Tryz.prog 37 #[x.val] w fun e w' => e = .returned (.string (bsOf (tellW x.wd))) ∧ Below w.heap.size w w' := by
  obtain ⟨k, i, t, n⟩ := x
  simp only at hn0 hn1 ht
  have HV : Hid (bsOf (tellW (W4.mk k i t n).wd) = if k = 2 then bsOf (encB t.data.toList) else if k = 3 then ⟨(quoteB t).toArray⟩ else if k = 4 then ⟨(Lib.decDigits n.toNat).toArray⟩ else t) := by
    show _ = _
    unfold tellW W4.wd
    simp only
    by_cases h2 : k = 2
    · subst h2; rfl
    · rw [if_neg (by omega : ¬ k.toNat = 2), if_neg h2]
      by_cases h3 : k = 3
      · subst h3; rw [quote_same]; rfl
      · rw [if_neg (by omega : ¬ k.toNat = 3), if_neg h3]
        by_cases h4 : k = 4
        · subst h4; rfl
        · rw [if_neg (by omega : ¬ k.toNat = 4), if_neg h4, of_bs]
  have HVD : Hid (k = 3 → Lib.validD t.data.toList = true) := fun h3 => by
    subst h3
    have h : mayW Lib.validD (W4.mk 3 i t n).wd = (Lib.validD t.data.toList && (n.toNat == 0)) := rfl
    rw [h, Bool.and_eq_true] at hm
    exact hm.1
  generalize bsOf (tellW (W4.mk k i t n).wd) = V at HV ⊢
  have HE := hidE hE
  have h8 := hE.room
  clear hE hm
  unfold W4.val
  simp only
  go_enter Tryz.func37, Tryz.ntmps37
  go_upto_region 1 with fail
  generalize hW1 : World.alloc _ _ = W1
  have HB1 : Hid (Below w.heap.size w W1) := by rw [← hW1]; exact (Below.refl _ _).alloc (Nat.le_refl _) _
  have HW1 : Hid (Wo W1 w.heap.size k i n t) := by rw [← hW1]; exact World.alloc_heap_new _ _
  clear hW1
  have HE1 : Hid (Env W1) := HE.out.below HB1.out h8
  have c0 := HW1.out.c0
  have c2 := HW1.out.c2
  have c3 := HW1.out.c3
  by_cases h2 : k = 2
  · subst h2
    have HE2 : Hid (V = bsOf (encB t.data.toList)) := HV.out
    have HC := hidE (enc_any t (by omega) W1 HE1.out)
    generalize bsOf (encB t.data.toList) = b at HE2 HC
    go_wp2_with fail
    refine HC.out.mono ?_
    rintro e w2 ⟨rfl, hb2⟩
    have HB3 := hidE (below_on HB1.out hb2)
    clear hb2
    go_wp2_with fail
    go_ret
    exact ⟨by rw [HE2.out]; rfl, HB3.out⟩
  have h2' : (k == 2) = false := ne_bool h2
  by_cases h3 : k = 3
  · subst h3
    have HE2 : Hid (V = ⟨(quoteB t).toArray⟩) := HV.out
    have HC := hidE (Quote_any t (by omega) W1 HE1.out (HVD.out rfl))
    generalize (⟨(quoteB t).toArray⟩ : ByteArray) = b at HE2 HC
    go_wp2_with fail
    refine HC.out.mono ?_
    rintro e w2 ⟨rfl, hb2⟩
    have HB3 := hidE (below_on HB1.out hb2)
    clear hb2
    go_wp2_with fail
    go_ret
    exact ⟨by rw [HE2.out]; rfl, HB3.out⟩
  have h3' : (k == 3) = false := ne_bool h3
  by_cases h4 : k = 4
  · subst h4
    have HE2 : Hid (V = ⟨(Lib.decDigits n.toNat).toArray⟩) := HV.out
    have HC := hidE (fmt_any n.toNat (by omega) W1 HE1.out)
    rw [show ((n.toNat : Nat) : Int) = n by omega] at HC
    generalize (⟨(Lib.decDigits n.toNat).toArray⟩ : ByteArray) = b at HE2 HC
    go_wp2_with fail
    refine HC.out.mono ?_
    rintro e w2 ⟨rfl, hb2⟩
    have HB3 := hidE (below_on HB1.out hb2)
    clear hb2
    go_wp2_with fail
    go_ret
    exact ⟨by rw [HE2.out]; rfl, HB3.out⟩
  have h4' : (k == 4) = false := ne_bool h4
  have HE2 : Hid (V = t) := by show _ = _; rw [HV.out, if_neg h2, if_neg h3, if_neg h4]
  go_wp2_with fail
  go_ret
  exact ⟨by rw [HE2.out]; rfl, HB1.out⟩
end Go.Proofs.YtbjcdpenfijfoaaGreatDoor

namespace Go.Proofs.YtbjcdpenfijfoaaGreatDoor
open Go.RowKit Go.Shelf Go.Lexed
open Go.Lib (byteCells byteCells_length)
set_option linter.unusedVariables false
set_option linter.unusedSimpArgs false
theorem cells4_at : ∀ {xs : List W4} {j : Nat} {x : W4}, xs[j]? = some x → (cells4 xs)[j * 4]? = some (.int .i64 x.k) ∧ (cells4 xs)[j * 4 + 1]? = some (.int .i64 x.i) ∧ (cells4 xs)[j * 4 + 2]? = some (.string x.t) ∧ (cells4 xs)[j * 4 + 3]? = some (.int .u64 x.n)
  | [], j, x, h => by simp at h
  | y :: ys, 0, x, h => by
    simp only [List.getElem?_cons_zero, Option.some.injEq] at h
    subst h
    exact ⟨rfl, rfl, rfl, rfl⟩
  | y :: ys, j + 1, x, h => by
    rw [List.getElem?_cons_succ] at h
    obtain ⟨h0, h1, h2, h3⟩ := cells4_at h
    have e : ∀ i, (cells4 (y :: ys))[(j + 1) * 4 + i]? = (cells4 ys)[j * 4 + i]? := fun i => by
      show (y.cells ++ cells4 ys)[(j + 1) * 4 + i]? = _
      rw [List.getElem?_append_right (by simp [W4.cells]; omega)]
      congr 1
      simp [W4.cells]; omega
    exact ⟨(e 0).trans h0, (e 1).trans h1, (e 2).trans h2, (e 3).trans h3⟩
/-- A word's cells. -/
theorem Lie4.at {B : Nat} {w : World} {v : Value} {xs : List W4} (h : Lie4 B w v xs) {j : Nat} {x : W4} (hx : xs[j]? = some x) :
    ∃ bl off cap, v = .slice (some ⟨bl, off, none⟩) xs.length cap ∧ bl < B ∧ xs.length ≤ cap ∧ w.cell? ⟨bl, off + j * 4, none⟩ = some (.int .i64 x.k) ∧ w.cell? ⟨bl, off + j * 4 + 1, none⟩ = some (.int .i64 x.i) ∧ w.cell? ⟨bl, off + j * 4 + 2, none⟩ = some (.string x.t) ∧ w.cell? ⟨bl, off + j * 4 + 3, none⟩ = some (.int .u64 x.n) := by
  obtain ⟨ad, cap, h1, h2, h3, h4⟩ := h
  have hne : xs ≠ [] := by intro e; rw [e] at hx; simp at hx
  obtain ⟨bl, off, rfl, hl, hc⟩ := h4.resolve_left hne
  obtain ⟨g0, g1, g2, g3⟩ := cells4_at hx
  exact ⟨bl, off, cap, h1, hl, h2, hc _ _ g0, hc _ _ g1, hc _ _ g2, hc _ _ g3⟩
theorem print_app (a b : List Wd) : printW (a ++ b) = if a = [] then printW b else printW a ++ tailW b := by
  cases a with
  | nil => rfl
  | cons x a => simp [printW, tailW]
theorem print_snoc (l : List Wd) (d : Wd) : printW (l ++ [d]) = (printW l ++ (if l = [] then [] else [32])) ++ tellW d := by
  rw [print_app]
  cases l with
  | nil => simp [printW, tailW]
  | cons x a => simp [printW, tailW]
theorem print_take (l : List Wd) (q : Nat) : (printW (l.take q)).length ≤ (printW l).length := by
  have h := print_app (l.take q) (l.drop q)
  rw [List.take_append_drop] at h
  rw [h]
  split
  · rename_i e; rw [e]; simp [printW]
  · simp
theorem flat_ge {f : UInt8 → List UInt8} (h : ∀ c, 1 ≤ (f c).length) : ∀ (l : List UInt8), l.length ≤ ((l.map f).flatten).length
  | [] => by simp
  | c :: l => by
    have h1 := h c
    have h2 := flat_ge h l
    simp only [List.map_cons, List.flatten_cons, List.length_append, List.length_cons]
    omega
theorem esc_pos (c : UInt8) : 1 ≤ (escC c).length := by
  unfold escC
  repeat' split
  all_goals simp
theorem tell_ge (U : List UInt8 → Bool) (w : Wd) (h : mayW U w = true) : w.text.length ≤ (tellW w).length := by
  unfold tellW
  split
  · have := flat_ge (f := dblC) (by intro c; unfold dblC; split <;> simp) w.text; simp only [List.length_cons, List.length_append, List.length_nil]; omega
  · split
    · have := flat_ge (f := escC) esc_pos w.text; simp only [List.length_cons, List.length_append, List.length_nil]; omega
    · split
      · rename_i h4
        unfold mayW at h
        rw [h4] at h
        simp at h
        rw [h.1]; simp
      · omega
theorem tell_pos (U : List UInt8 → Bool) (w : Wd) (h : mayW U w = true) : 0 < (tellW w).length := by
  obtain ⟨c, t, e, _⟩ := tell_head U w h
  rw [e]; simp
/-- What Print answers. -/
def printV (xs : List W4) : Value :=
  if (xs.all fun x => mayW Lib.validD x.wd) = true then if 1048576 < (printW (xs.map W4.wd)).length then .tuple #[.string ⟨#[]⟩, .int .i64 3] else .tuple #[.string (bsOf (printW (xs.map W4.wd))), .int .i64 0] else .tuple #[.string ⟨#[]⟩, .int .i64 2]
theorem printV_may {xs : List W4} {x : W4} (hx : x ∈ xs) (h : mayW Lib.validD x.wd = false) : printV xs = .tuple #[.string ⟨#[]⟩, .int .i64 2] := by
  unfold printV
  rw [if_neg]
  intro e
  rw [List.all_eq_true] at e
  rw [e x hx] at h
  exact absurd h (by decide)
theorem printV_long {xs : List W4} (hm : (xs.all fun x => mayW Lib.validD x.wd) = true) {j : Nat} (h : 1048576 < (printW ((xs.take j).map W4.wd)).length) : printV xs = .tuple #[.string ⟨#[]⟩, .int .i64 3] := by
  unfold printV
  rw [if_pos hm, if_pos]
  have := print_take (xs.map W4.wd) j
  rw [← List.map_take] at this
  omega
theorem printV_ok {xs : List W4} (hm : (xs.all fun x => mayW Lib.validD x.wd) = true) (h : (printW (xs.map W4.wd)).length ≤ 1048576) : printV xs = .tuple #[.string (bsOf (printW (xs.map W4.wd))), .int .i64 0] := by
  unfold printV
  rw [if_pos hm, if_neg (by omega)]
theorem told_word {base n p : Nat} {xs : List Value} {v v' : Value} {w W w' : World} {bs : List UInt8} {k i nn : Int} {t : ByteArray} (hown : w.ownsRow base 5 1 v n xs) (hp : w.heap.size ≤ p) (hW : Wo W p k i nn t) (ht : Told base n xs v W bs v' w') : Wo w' p k i nn t := by
  refine hW.keep (ht.grown.block p hW.lt fun e => ?_)
  have := (hown.lt p e.symm).2
  omega
end Go.Proofs.YtbjcdpenfijfoaaGreatDoor

