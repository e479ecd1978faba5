/- The document's own: a name between two signs, and how a name is spelled. WordsNames, walked. -/
import Derived.Test.YtbjcdpenfijfoaaGreatDoorRres
import Derived.Test.YtbjcdpenfijfoaaGreatDoorRplain
import Derived.Test.YtbjcdpenfijfoaaGreatDoorJoin4
import Derived.Test.YtbjcdpenfijfoaaGreatDoorNames3
namespace Go.Proofs.YtbjcdpenfijfoaaGreatDoor
open Go.RowKit Go.Shelf Go.Lexed
set_option linter.unusedVariables false
set_option linter.unusedSimpArgs false
attribute [local go_sem] Oper.semAt_some
theorem dbl_snoc (l : List UInt8) (c : UInt8) : dblB (l ++ [c]) = dblB l ++ (if c = 96 then [96, 96] else [c]) := by simp [dblB]
theorem bs_app (L M : List UInt8) : bsOf L ++ bsOf M = bsOf (L ++ M) := by
  rw [← of_bs (bsOf L ++ bsOf M)]
  congr 1
set_option maxRecDepth 100000 in
set_option maxHeartbeats 4000000 in
theorem rtold2_any (i n : Int) (t : ByteArray) (ht : t.size ≤ 1000000000) (w : World) :
    Calls Tryz.prog 39 #[.agg #[.int .i64 2, .int .i64 i, .string t, .int .u64 n]] w fun e w' => e = .returned (.string (bsOf (encB t.data.toList))) ∧ Below w.heap.size w w' := by
  go_enter Tryz.func39, Tryz.ntmps39
  go_upto_region 1 with fail
  generalize hW1 : World.alloc _ _ = W1
  have HB1 : Hid (Below w.heap.size w W1) := by rw [← hW1]; exact (Below.refl _ _).alloc (Nat.le_refl _) _
  have HW1 : Hid (Wo W1 w.heap.size 2 i n t) := by rw [← hW1]; exact World.alloc_heap_new _ _
  clear hW1
  have c0 := HW1.out.c0
  have c2 := HW1.out.c2
  go_wp2_with fail
  go_loopw [3, 4] (fun r q wr => ∃ j : Nat, j ≤ t.size ∧ q = .int .i64 j ∧ r = .string (bsOf (dblB (t.data.toList.take j))) ∧ wr = W1) (fun _ q _ => t.size - (intOf q).toNat)
  case atStart => exact ⟨0, Nat.zero_le _, rfl, rfl, rfl⟩
  case round =>
    obtain ⟨j, hj, rfl, rfl, rfl⟩ := hrel
    by_cases hlt : j < t.size
    · have hlt' : (j : Int) < t.size := by omega
      have hat : t.data.toList[j]? = some t[j] := by rw [List.getElem?_eq_getElem (by simpa using hlt)]; rfl
      have hex := ext_one hlt
      obtain ⟨c, hc⟩ : ∃ c, t[j] = c := ⟨_, rfl⟩
      have HNX : Hid (dblB (t.data.toList.take (j + 1)) = dblB (t.data.toList.take j) ++ (if c = 96 then [96, 96] else [c])) := by
        show _ = _
        rw [List.take_add_one, hat, ← hc]
        exact dbl_snoc _ _
      have hLl : (bsOf (dblB (t.data.toList.take j))).size ≤ 2 * t.size := by
        rw [bsOf_size]
        have h1 := dblB_len (t.data.toList.take j)
        have h2 : (t.data.toList.take j).length ≤ t.size := by rw [List.length_take]; exact Nat.min_le_right _ _
        omega
      generalize dblB (t.data.toList.take j) = L at HNX hLl ⊢
      rw [hc] at hex
      have hcn : (t[j].toNat : Int) = c.toNat := by rw [hc]
      have HAP : Hid (bsOf L ++ ⟨#[c]⟩ = bsOf (L ++ [c])) := bs_app L [c]
      clear hat
      by_cases h96 : c = 96
      · subst h96
        have HN2 : Hid (dblB (t.data.toList.take (j + 1)) = L ++ [96, 96]) := HNX.out
        have HA2 : Hid (bsOf L ++ ⟨#[96]⟩ ++ ⟨#[96]⟩ = bsOf (L ++ [96, 96])) := by
          show _ = _
          rw [HAP.out, show (⟨#[96]⟩ : ByteArray) = bsOf [96] from rfl, bs_app]; simp
        have hcn' : (t[j].toNat : Int) = 96 := hcn
        clear hcn hc
        go_wp2_with fail
        go_roundw
        case rel => exact ⟨j + 1, by omega, by go_num, by rw [HN2.out, ← HA2.out], trivial⟩
        case measure => simp [intOf]; omega
      · have HN2 : Hid (dblB (t.data.toList.take (j + 1)) = L ++ [c]) := by show _ = _; rw [HNX.out, if_neg h96]
        have h96' : ((c.toNat : Int) == 96) = false := ne_bool (by
          intro e
          apply h96
          have : c = UInt8.ofNat 96 := by rw [← show c.toNat = 96 by omega]; simp
          exact this)
        clear hc
        go_wp2_with fail
        go_roundw
        case rel => exact ⟨j + 1, by omega, by go_num, by rw [HN2.out, ← HAP.out], trivial⟩
        case measure => simp [intOf]; omega
    · have hlt' : ¬ (j : Int) < t.size := by omega
      have hF : dblB (t.data.toList.take j) = dblB t.data.toList := by rw [List.take_of_length_le (by show t.size ≤ j; omega)]
      rw [hF]
      have hLl : (bsOf (dblB t.data.toList)).size ≤ 2 * t.size := by
        rw [bsOf_size]; exact dblB_len t.data.toList
      have HF2 : Hid (⟨#[96]⟩ ++ bsOf (dblB t.data.toList) ++ ⟨#[96]⟩ = bsOf (encB t.data.toList)) := by
        show _ = _
        rw [show (⟨#[96]⟩ : ByteArray) = bsOf [96] from rfl, bs_app, bs_app]; rfl
      clear hF
      go_wp2_with fail
      go_ret
      exact ⟨by rw [← HF2.out]; rfl, HB1.out⟩
set_option maxRecDepth 100000 in
set_option maxHeartbeats 4000000 in
theorem rspell_any (s : ByteArray) (hs : s.size ≤ 1000000000) (w : World) : Calls Tryz.prog 28 #[.string s] w fun e w' => e = .returned (.string (bsOf (spellB s.data.toList))) ∧ Below w.heap.size w w' := by
  have HN := hidE (fun w => rname_any s w (by omega))
  have HPl := hidE (fun w => refPlain_any s (by unfold maxLen; omega) w)
  rw [vbare_is] at HPl
  have HR := hidE (fun w => rres_any s (by omega) w)
  have HT := hidE (fun w => rtold2_any 0 0 s hs w)
  cases hn : nameOk Lib.validD s.data.toList with
  | false =>
    have HV : Hid (bsOf (spellB s.data.toList) = ⟨#[]⟩) := by show _ = _; unfold spellB; rw [hn]; rfl
    rw [hn] at HN
    go_enter Tryz.func28, Tryz.ntmps28
    go_wp2_with fail
    refine (HN.out _).mono ?_
    rintro e w1 ⟨rfl, rfl⟩
    go_wp2_with fail
    go_ret
    exact ⟨by rw [HV.out]; rfl, Below.refl _ _⟩
  | true =>
    rw [hn] at HN
    cases hb : bareB s.data.toList with
    | false =>
      have HV : Hid (bsOf (spellB s.data.toList) = bsOf (encB s.data.toList)) := by show _ = _; unfold spellB; rw [hn, hb]; rfl
      rw [hb] at HPl
      go_enter Tryz.func28, Tryz.ntmps28
      go_wp2_with fail
      refine (HN.out _).mono ?_
      rintro e w1 ⟨rfl, rfl⟩
      go_wp2_with fail
      refine (HPl.out _).mono ?_
      rintro e w1 ⟨rfl, rfl⟩
      go_wp2_with fail
      refine (HT.out _).mono ?_
      rintro e w2 ⟨rfl, hb2⟩
      go_wp2_with fail
      go_ret
      exact ⟨by rw [HV.out]; rfl, hb2⟩
    | true =>
      rw [hb] at HPl
      cases hr : resB s.data.toList with
      | true =>
        have HV : Hid (bsOf (spellB s.data.toList) = bsOf (encB s.data.toList)) := by show _ = _; unfold spellB; rw [hn, hb, hr]; rfl
        rw [hr] at HR
        go_enter Tryz.func28, Tryz.ntmps28
        go_wp2_with fail
        refine (HN.out _).mono ?_
        rintro e w1 ⟨rfl, rfl⟩
        go_wp2_with fail
        refine (HPl.out _).mono ?_
        rintro e w1 ⟨rfl, rfl⟩
        go_wp2_with fail
        refine (HR.out _).mono ?_
        rintro e w2 ⟨rfl, hb2⟩
        have HB2 := hidE hb2
        clear hb2
        go_wp2_with fail
        refine (HT.out _).mono ?_
        rintro e w3 ⟨rfl, hb3⟩
        have HB3 := hidE (below_on HB2.out hb3)
        clear hb3
        go_wp2_with fail
        go_ret
        exact ⟨by rw [HV.out]; rfl, HB3.out⟩
      | false =>
        have HV : Hid (bsOf (spellB s.data.toList) = s) := by show _ = _; unfold spellB; rw [hn, hb, hr]; exact of_bs s
        rw [hr] at HR
        go_enter Tryz.func28, Tryz.ntmps28
        go_wp2_with fail
        refine (HN.out _).mono ?_
        rintro e w1 ⟨rfl, rfl⟩
        go_wp2_with fail
        refine (HPl.out _).mono ?_
        rintro e w1 ⟨rfl, rfl⟩
        go_wp2_with fail
        refine (HR.out _).mono ?_
        rintro e w2 ⟨rfl, hb2⟩
        have HB2 := hidE hb2
        clear hb2
        go_wp2_with fail
        go_ret
        exact ⟨by rw [HV.out]; rfl, HB2.out⟩
end Go.Proofs.YtbjcdpenfijfoaaGreatDoor

namespace Go.Proofs.YtbjcdpenfijfoaaGreatDoor
open Go.RowKit Go.Shelf Go.Lexed
set_option linter.unusedVariables false
set_option linter.unusedSimpArgs false
attribute [local go_sem] Oper.semAt_some
set_option maxRecDepth 100000 in
set_option maxHeartbeats 4000000 in
theorem names_walk (s : ByteArray) (k ii n : Int) (t key : ByteArray) (w : World) (hE : Env w) : Calls Tryz.prog 5 #[.string s, .agg #[.int .i64 k, .int .i64 ii, .string t, .int .u64 n], .string key] w fun e w' => e = .returned (.bool true) ∧ Below w.heap.size w w' := by
  have HE := hidE hE
  have h8 := hE.room
  clear hE
  have HW := hidE (fun w1 (h : Below w.heap.size w w1) => works_any w1 (HE.out.below h h8))
  go_enter Tryz.func5, Tryz.ntmps5
  go_upto_region 1 with fail
  generalize hW1 : World.alloc _ _ = W1
  have HB1 : Hid (Below w.heap.size w W1) := by rw [← hW1]; exact (Below.refl _ _).alloc (Nat.le_refl _) _
  have HW1 : Hid (Wo W1 w.heap.size k ii n t) := by rw [← hW1]; exact World.alloc_heap_new _ _
  clear hW1
  have c2 := HW1.out.c2
  by_cases h1 : 4000 < s.size
  · have h1' : (4000 : Int) < s.size := by omega
    go_wp2_with fail
    refine (HW.out _ HB1.out).mono ?_
    rintro e w1 ⟨rfl, hb⟩
    have HB2 := hidE (below_on HB1.out hb)
    clear hb
    go_wp2_with fail
    go_ret
    exact ⟨rfl, HB2.out⟩
  have h1' : ¬ (4000 : Int) < s.size := by omega
  by_cases h2 : 4000 < t.size
  · have h2' : (4000 : Int) < t.size := by omega
    go_wp2_with fail
    refine (HW.out _ HB1.out).mono ?_
    rintro e w1 ⟨rfl, hb⟩
    have HB2 := hidE (below_on HB1.out hb)
    clear hb
    go_wp2_with fail
    go_ret
    exact ⟨rfl, HB2.out⟩
  have h2' : ¬ (4000 : Int) < t.size := by omega
  by_cases h3 : 4000 < key.size
  · have h3' : (4000 : Int) < key.size := by omega
    go_wp2_with fail
    refine (HW.out _ HB1.out).mono ?_
    rintro e w1 ⟨rfl, hb⟩
    have HB2 := hidE (below_on HB1.out hb)
    clear hb
    go_wp2_with fail
    go_ret
    exact ⟨rfl, HB2.out⟩
  have h3' : ¬ (4000 : Int) < key.size := by omega
  go_upto_region 3 with fail
  show (Code.region 3 RN3 true).wp _ _ _ _
  refine regionN3 w.heap.size s key (bsOf (spellB s.data.toList)) t k ii n (nameOk Lib.validD s.data.toList) (resB s.data.toList) (decide (k = 1) && decide (lowL t.data.toList = lowL key.data.toList)) _ _ W1 rfl ⟨rfl, rfl, rfl⟩ (fun W hb => ?_) ?_
  · have hbw := below_on HB1.out hb
    have hEW := HE.out.below hbw h8
    have hWo := HW1.out.below hb HW1.out.lt
    refine ⟨hWo.c0, hWo.c1, hWo.c2, hWo.c3, name_any s (by omega) W hEW, (rname_any s W (by omega)).mono ?_, res_any s (by omega) W, rres_any s (by omega) W, spell_any s (by omega) W hEW, rspell_any s (by omega) W, is_any k ii n t key (by omega) (by omega) W, ris_any k ii n t key (by omega) (by omega) W, works_any W hEW⟩
    rintro e w' ⟨rfl, rfl⟩
    exact ⟨rfl, Below.refl _ _⟩
  · intro c w4 hS hb4 h6
    have HB4 := hidE (below_on HB1.out hb4)
    clear hb4
    go_wp2_with fail
    refine bodyPost_ret (results_tmp rfl c.tmps Tryz.prog w4) hS.1 ?_
    exact ⟨congrArg Ending.returned h6, HB4.out⟩
end Go.Proofs.YtbjcdpenfijfoaaGreatDoor

