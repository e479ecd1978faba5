/- The document's own: a name between two signs, and how a name is spelled. Print: what is said of words and their telling. -/
import Derived.Test.YtbjcdpenfijfoaaGreatDoorRres
import Derived.Test.YtbjcdpenfijfoaaGreatDoorJoin11
import Derived.Test.YtbjcdpenfijfoaaGreatDoorJoin5
import Derived.Test.YtbjcdpenfijfoaaGreatDoorPmay
import Derived.Test.YtbjcdpenfijfoaaGreatDoorJoin14
namespace Go.Proofs.YtbjcdpenfijfoaaGreatDoor
open Go.RowKit Go.Shelf Go.Lexed
set_option linter.unusedVariables false
set_option linter.unusedSimpArgs false
attribute [local go_sem] Oper.semAt_some
theorem dbl_snoc (l : List UInt8) (c : UInt8) : dblB (l ++ [c]) = dblB l ++ (if c = 96 then [96, 96] else [c]) := by simp [dblB]
theorem bs_app (L M : List UInt8) : bsOf L ++ bsOf M = bsOf (L ++ M) := by
  rw [← of_bs (bsOf L ++ bsOf M)]
  congr 1
set_option maxRecDepth 100000 in
set_option maxHeartbeats 4000000 in
theorem rtold2_any (i n : Int) (t : ByteArray) (ht : t.size ≤ 1000000000) (w : World) :
    Calls Tryz.prog 39 #[.agg #[.int .i64 2, .int .i64 i, .string t, .int .u64 n]] w fun e w' => e = .returned (.string (bsOf (encB t.data.toList))) ∧ Below w.heap.size w w' := by
  go_enter Tryz.func39, Tryz.ntmps39
  go_upto_region 1 with fail
  generalize hW1 : World.alloc _ _ = W1
  have HB1 : Hid (Below w.heap.size w W1) := by rw [← hW1]; exact (Below.refl _ _).alloc (Nat.le_refl _) _
  have HW1 : Hid (Wo W1 w.heap.size 2 i n t) := by rw [← hW1]; exact World.alloc_heap_new _ _
  clear hW1
  have c0 := HW1.out.c0
  have c2 := HW1.out.c2
  go_wp2_with fail
  go_loopw [3, 4] (fun r q wr => ∃ j : Nat, j ≤ t.size ∧ q = .int .i64 j ∧ r = .string (bsOf (dblB (t.data.toList.take j))) ∧ wr = W1) (fun _ q _ => t.size - (intOf q).toNat)
  case atStart => exact ⟨0, Nat.zero_le _, rfl, rfl, rfl⟩
  case round =>
    obtain ⟨j, hj, rfl, rfl, rfl⟩ := hrel
    by_cases hlt : j < t.size
    · have hlt' : (j : Int) < t.size := by omega
      have hat : t.data.toList[j]? = some t[j] := by rw [List.getElem?_eq_getElem (by simpa using hlt)]; rfl
      have hex := ext_one hlt
      obtain ⟨c, hc⟩ : ∃ c, t[j] = c := ⟨_, rfl⟩
      have HNX : Hid (dblB (t.data.toList.take (j + 1)) = dblB (t.data.toList.take j) ++ (if c = 96 then [96, 96] else [c])) := by
        show _ = _
        rw [List.take_add_one, hat, ← hc]
        exact dbl_snoc _ _
      have hLl : (bsOf (dblB (t.data.toList.take j))).size ≤ 2 * t.size := by
        rw [bsOf_size]
        have h1 := dblB_len (t.data.toList.take j)
        have h2 : (t.data.toList.take j).length ≤ t.size := by rw [List.length_take]; exact Nat.min_le_right _ _
        omega
      generalize dblB (t.data.toList.take j) = L at HNX hLl ⊢
      rw [hc] at hex
      have hcn : (t[j].toNat : Int) = c.toNat := by rw [hc]
      have HAP : Hid (bsOf L ++ ⟨#[c]⟩ = bsOf (L ++ [c])) := bs_app L [c]
      clear hat
      by_cases h96 : c = 96
      · subst h96
        have HN2 : Hid (dblB (t.data.toList.take (j + 1)) = L ++ [96, 96]) := HNX.out
        have HA2 : Hid (bsOf L ++ ⟨#[96]⟩ ++ ⟨#[96]⟩ = bsOf (L ++ [96, 96])) := by
          show _ = _
          rw [HAP.out, show (⟨#[96]⟩ : ByteArray) = bsOf [96] from rfl, bs_app]; simp
        have hcn' : (t[j].toNat : Int) = 96 := hcn
        clear hcn hc
        go_wp2_with fail
        go_roundw
        case rel => exact ⟨j + 1, by omega, by go_num, by rw [HN2.out, ← HA2.out], trivial⟩
        case measure => simp [intOf]; omega
      · have HN2 : Hid (dblB (t.data.toList.take (j + 1)) = L ++ [c]) := by show _ = _; rw [HNX.out, if_neg h96]
        have h96' : ((c.toNat : Int) == 96) = false := ne_bool (by
          intro e
          apply h96
          have : c = UInt8.ofNat 96 := by rw [← show c.toNat = 96 by omega]; simp
          exact this)
        clear hc
        go_wp2_with fail
        go_roundw
        case rel => exact ⟨j + 1, by omega, by go_num, by rw [HN2.out, ← HAP.out], trivial⟩
        case measure => simp [intOf]; omega
    · have hlt' : ¬ (j : Int) < t.size := by omega
      have hF : dblB (t.data.toList.take j) = dblB t.data.toList := by rw [List.take_of_length_le (by show t.size ≤ j; omega)]
      rw [hF]
      have hLl : (bsOf (dblB t.data.toList)).size ≤ 2 * t.size := by
        rw [bsOf_size]; exact dblB_len t.data.toList
      have HF2 : Hid (⟨#[96]⟩ ++ bsOf (dblB t.data.toList) ++ ⟨#[96]⟩ = bsOf (encB t.data.toList)) := by
        show _ = _
        rw [show (⟨#[96]⟩ : ByteArray) = bsOf [96] from rfl, bs_app, bs_app]; rfl
      clear hF
      go_wp2_with fail
      go_ret
      exact ⟨by rw [← HF2.out]; rfl, HB1.out⟩
set_option maxRecDepth 100000 in
set_option maxHeartbeats 4000000 in
theorem rspell_any (s : ByteArray) (hs : s.size ≤ 1000000000) (w : World) : Calls Tryz.prog 28 #[.string s] w fun e w' => e = .returned (.string (bsOf (spellB s.data.toList))) ∧ Below w.heap.size w w' := by
  have HN := hidE (fun w => rname_any s w (by omega))
  have HPl := hidE (fun w => refPlain_any s (by unfold maxLen; omega) w)
  rw [vbare_is] at HPl
  have HR := hidE (fun w => rres_any s (by omega) w)
  have HT := hidE (fun w => rtold2_any 0 0 s hs w)
  cases hn : nameOk Lib.validD s.data.toList with
  | false =>
    have HV : Hid (bsOf (spellB s.data.toList) = ⟨#[]⟩) := by show _ = _; unfold spellB; rw [hn]; rfl
    rw [hn] at HN
    go_enter Tryz.func28, Tryz.ntmps28
    go_wp2_with fail
    refine (HN.out _).mono ?_
    rintro e w1 ⟨rfl, rfl⟩
    go_wp2_with fail
    go_ret
    exact ⟨by rw [HV.out]; rfl, Below.refl _ _⟩
  | true =>
    rw [hn] at HN
    cases hb : bareB s.data.toList with
    | false =>
      have HV : Hid (bsOf (spellB s.data.toList) = bsOf (encB s.data.toList)) := by show _ = _; unfold spellB; rw [hn, hb]; rfl
      rw [hb] at HPl
      go_enter Tryz.func28, Tryz.ntmps28
      go_wp2_with fail
      refine (HN.out _).mono ?_
      rintro e w1 ⟨rfl, rfl⟩
      go_wp2_with fail
      refine (HPl.out _).mono ?_
      rintro e w1 ⟨rfl, rfl⟩
      go_wp2_with fail
      refine (HT.out _).mono ?_
      rintro e w2 ⟨rfl, hb2⟩
      go_wp2_with fail
      go_ret
      exact ⟨by rw [HV.out]; rfl, hb2⟩
    | true =>
      rw [hb] at HPl
      cases hr : resB s.data.toList with
      | true =>
        have HV : Hid (bsOf (spellB s.data.toList) = bsOf (encB s.data.toList)) := by show _ = _; unfold spellB; rw [hn, hb, hr]; rfl
        rw [hr] at HR
        go_enter Tryz.func28, Tryz.ntmps28
        go_wp2_with fail
        refine (HN.out _).mono ?_
        rintro e w1 ⟨rfl, rfl⟩
        go_wp2_with fail
        refine (HPl.out _).mono ?_
        rintro e w1 ⟨rfl, rfl⟩
        go_wp2_with fail
        refine (HR.out _).mono ?_
        rintro e w2 ⟨rfl, hb2⟩
        have HB2 := hidE hb2
        clear hb2
        go_wp2_with fail
        refine (HT.out _).mono ?_
        rintro e w3 ⟨rfl, hb3⟩
        have HB3 := hidE (below_on HB2.out hb3)
        clear hb3
        go_wp2_with fail
        go_ret
        exact ⟨by rw [HV.out]; rfl, HB3.out⟩
      | false =>
        have HV : Hid (bsOf (spellB s.data.toList) = s) := by show _ = _; unfold spellB; rw [hn, hb, hr]; exact of_bs s
        rw [hr] at HR
        go_enter Tryz.func28, Tryz.ntmps28
        go_wp2_with fail
        refine (HN.out _).mono ?_
        rintro e w1 ⟨rfl, rfl⟩
        go_wp2_with fail
        refine (HPl.out _).mono ?_
        rintro e w1 ⟨rfl, rfl⟩
        go_wp2_with fail
        refine (HR.out _).mono ?_
        rintro e w2 ⟨rfl, hb2⟩
        have HB2 := hidE hb2
        clear hb2
        go_wp2_with fail
        go_ret
        exact ⟨by rw [HV.out]; rfl, HB2.out⟩
end Go.Proofs.YtbjcdpenfijfoaaGreatDoor

namespace Go.Proofs.YtbjcdpenfijfoaaGreatDoor
open Go.RowKit Go.Shelf Go.Lexed
open Go.Lib (byteCells byteCells_length)
set_option linter.unusedVariables false
set_option linter.unusedSimpArgs false
theorem cells4_at : ∀ {xs : List W4} {j : Nat} {x : W4}, xs[j]? = some x → (cells4 xs)[j * 4]? = some (.int .i64 x.k) ∧ (cells4 xs)[j * 4 + 1]? = some (.int .i64 x.i) ∧ (cells4 xs)[j * 4 + 2]? = some (.string x.t) ∧ (cells4 xs)[j * 4 + 3]? = some (.int .u64 x.n)
  | [], j, x, h => by simp at h
  | y :: ys, 0, x, h => by
    simp only [List.getElem?_cons_zero, Option.some.injEq] at h
    subst h
    exact ⟨rfl, rfl, rfl, rfl⟩
  | y :: ys, j + 1, x, h => by
    rw [List.getElem?_cons_succ] at h
    obtain ⟨h0, h1, h2, h3⟩ := cells4_at h
    have e : ∀ i, (cells4 (y :: ys))[(j + 1) * 4 + i]? = (cells4 ys)[j * 4 + i]? := fun i => by
      show (y.cells ++ cells4 ys)[(j + 1) * 4 + i]? = _
      rw [List.getElem?_append_right (by simp [W4.cells]; omega)]
      congr 1
      simp [W4.cells]; omega
    exact ⟨(e 0).trans h0, (e 1).trans h1, (e 2).trans h2, (e 3).trans h3⟩
/-- A word's cells. -/
theorem Lie4.at {B : Nat} {w : World} {v : Value} {xs : List W4} (h : Lie4 B w v xs) {j : Nat} {x : W4} (hx : xs[j]? = some x) :
    ∃ bl off cap, v = .slice (some ⟨bl, off, none⟩) xs.length cap ∧ bl < B ∧ xs.length ≤ cap ∧ w.cell? ⟨bl, off + j * 4, none⟩ = some (.int .i64 x.k) ∧ w.cell? ⟨bl, off + j * 4 + 1, none⟩ = some (.int .i64 x.i) ∧ w.cell? ⟨bl, off + j * 4 + 2, none⟩ = some (.string x.t) ∧ w.cell? ⟨bl, off + j * 4 + 3, none⟩ = some (.int .u64 x.n) := by
  obtain ⟨ad, cap, h1, h2, h3, h4⟩ := h
  have hne : xs ≠ [] := by intro e; rw [e] at hx; simp at hx
  obtain ⟨bl, off, rfl, hl, hc⟩ := h4.resolve_left hne
  obtain ⟨g0, g1, g2, g3⟩ := cells4_at hx
  exact ⟨bl, off, cap, h1, hl, h2, hc _ _ g0, hc _ _ g1, hc _ _ g2, hc _ _ g3⟩
theorem print_app (a b : List Wd) : printW (a ++ b) = if a = [] then printW b else printW a ++ tailW b := by
  cases a with
  | nil => rfl
  | cons x a => simp [printW, tailW]
theorem print_snoc (l : List Wd) (d : Wd) : printW (l ++ [d]) = (printW l ++ (if l = [] then [] else [32])) ++ tellW d := by
  rw [print_app]
  cases l with
  | nil => simp [printW, tailW]
  | cons x a => simp [printW, tailW]
theorem print_take (l : List Wd) (q : Nat) : (printW (l.take q)).length ≤ (printW l).length := by
  have h := print_app (l.take q) (l.drop q)
  rw [List.take_append_drop] at h
  rw [h]
  split
  · rename_i e; rw [e]; simp [printW]
  · simp
theorem flat_ge {f : UInt8 → List UInt8} (h : ∀ c, 1 ≤ (f c).length) : ∀ (l : List UInt8), l.length ≤ ((l.map f).flatten).length
  | [] => by simp
  | c :: l => by
    have h1 := h c
    have h2 := flat_ge h l
    simp only [List.map_cons, List.flatten_cons, List.length_append, List.length_cons]
    omega
theorem esc_pos (c : UInt8) : 1 ≤ (escC c).length := by
  unfold escC
  repeat' split
  all_goals simp
theorem tell_ge (U : List UInt8 → Bool) (w : Wd) (h : mayW U w = true) : w.text.length ≤ (tellW w).length := by
  unfold tellW
  split
  · have := flat_ge (f := dblC) (by intro c; unfold dblC; split <;> simp) w.text; simp only [List.length_cons, List.length_append, List.length_nil]; omega
  · split
    · have := flat_ge (f := escC) esc_pos w.text; simp only [List.length_cons, List.length_append, List.length_nil]; omega
    · split
      · rename_i h4
        unfold mayW at h
        rw [h4] at h
        simp at h
        rw [h.1]; simp
      · omega
theorem tell_pos (U : List UInt8 → Bool) (w : Wd) (h : mayW U w = true) : 0 < (tellW w).length := by
  obtain ⟨c, t, e, _⟩ := tell_head U w h
  rw [e]; simp
/-- What Print answers. -/
def printV (xs : List W4) : Value :=
  if (xs.all fun x => mayW Lib.validD x.wd) = true then if 1048576 < (printW (xs.map W4.wd)).length then .tuple #[.string ⟨#[]⟩, .int .i64 3] else .tuple #[.string (bsOf (printW (xs.map W4.wd))), .int .i64 0] else .tuple #[.string ⟨#[]⟩, .int .i64 2]
theorem printV_may {xs : List W4} {x : W4} (hx : x ∈ xs) (h : mayW Lib.validD x.wd = false) : printV xs = .tuple #[.string ⟨#[]⟩, .int .i64 2] := by
  unfold printV
  rw [if_neg]
  intro e
  rw [List.all_eq_true] at e
  rw [e x hx] at h
  exact absurd h (by decide)
theorem printV_long {xs : List W4} (hm : (xs.all fun x => mayW Lib.validD x.wd) = true) {j : Nat} (h : 1048576 < (printW ((xs.take j).map W4.wd)).length) : printV xs = .tuple #[.string ⟨#[]⟩, .int .i64 3] := by
  unfold printV
  rw [if_pos hm, if_pos]
  have := print_take (xs.map W4.wd) j
  rw [← List.map_take] at this
  omega
theorem printV_ok {xs : List W4} (hm : (xs.all fun x => mayW Lib.validD x.wd) = true) (h : (printW (xs.map W4.wd)).length ≤ 1048576) : printV xs = .tuple #[.string (bsOf (printW (xs.map W4.wd))), .int .i64 0] := by
  unfold printV
  rw [if_pos hm, if_neg (by omega)]
theorem told_word {base n p : Nat} {xs : List Value} {v v' : Value} {w W w' : World} {bs : List UInt8} {k i nn : Int} {t : ByteArray} (hown : w.ownsRow base 5 1 v n xs) (hp : w.heap.size ≤ p) (hW : Wo W p k i nn t) (ht : Told base n xs v W bs v' w') : Wo w' p k i nn t := by
  refine hW.keep (ht.grown.block p hW.lt fun e => ?_)
  have := (hown.lt p e.symm).2
  omega
end Go.Proofs.YtbjcdpenfijfoaaGreatDoor

