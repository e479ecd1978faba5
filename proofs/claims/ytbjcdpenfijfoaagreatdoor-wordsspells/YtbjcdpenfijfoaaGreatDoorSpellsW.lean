/- WordsSpells, walked. -/
import Derived.Test.YtbjcdpenfijfoaaGreatDoorPwork
namespace Go.Proofs.YtbjcdpenfijfoaaGreatDoor
open Go.RowKit Go.Shelf Go.Lexed
open Go.Lib (byteCells byteCells_length)
set_option linter.unusedVariables false
set_option linter.unusedSimpArgs false
attribute [local go_sem] Oper.semAt_some
theorem bytes_ne {a b : ByteArray} (h : a ≠ b) : (a.toList == b.toList) = false := by
  rw [beq_eq_false_iff_ne]
  intro e
  rw [ByteArray.toList_eq, ByteArray.toList_eq] at e
  apply h
  rw [← of_bs a, ← of_bs b, e]
theorem flat_dbl (l : List UInt8) : (l.map dblC).flatten = dblB l := rfl
theorem enc_tell (l : List UInt8) : tellW ⟨2, l, 0⟩ = encB l := by
  unfold tellW encB
  rw [if_pos rfl, flat_dbl]
theorem lexP_name (s : ByteArray) (hb : bareB s.data.toList = true) (hn : nameOk Lib.validD s.data.toList = true) : (lexP s).map toW4 = [⟨1, 0, s, 0⟩] ∧ lexO s = none := by
  have e := lex_name Lib.validD s.data.toList hb hn
  have e0 : suf s 0 = s.data.toList := rfl
  refine ⟨?_, ?_⟩
  · unfold lexP lexQ
    rw [e0, e]
    simp only [List.map_cons, List.map_nil, toW4]
    rw [of_bs, show s.size - s.data.toList.length = 0 from Nat.sub_self _]
    rfl
  · unfold lexO; rw [e0, e]
theorem lexP_enc (s : ByteArray) (hn : nameOk Lib.validD s.data.toList = true) : (lexP (bsOf (encB s.data.toList))).map toW4 = [⟨2, 0, s, 0⟩] ∧ lexO (bsOf (encB s.data.toList)) = none := by
  have e := lex_quoted Lib.validD s.data.toList hn
  rw [enc_tell] at e
  have e0 : suf (bsOf (encB s.data.toList)) 0 = encB s.data.toList := bsOf_list _
  refine ⟨?_, ?_⟩
  · unfold lexP lexQ
    rw [e0, e, bsOf_size]
    simp only [List.map_cons, List.map_nil, toW4, Nat.sub_self]
    rw [of_bs]
    rfl
  · unfold lexO; rw [e0, e]
theorem res_match {l : List UInt8} (h : resB l = false) : (decide ((1 : Int) = 1) && decide (lowL l = lowL (⟨#[109, 97, 116, 99, 104]⟩ : ByteArray).data.toList)) = false := by
  simp only [decide_true, Bool.true_and, decide_eq_false_iff_not]
  intro e
  unfold resB at h
  rw [List.any_eq_false] at h
  exact h ⟨#[109, 97, 116, 99, 104]⟩ (List.mem_of_getElem? (i := 20) rfl) (by simpa using e)
/-- A text whose one word is a name, and its text, is bare. -/
theorem lex_one_bare {s t : ByteArray} {k i n : Int} (h : (lexP s).map toW4 = [⟨k, i, t, n⟩]) (hk : k = 1) (ht : t = s) : bareB s.data.toList = true := by
  unfold lexP lexQ at h
  have hm := lex_may Lib.validD _ (suf s 0) (Nat.le_refl _)
  match hl : (lexB Lib.validD (suf s 0)).1, h with
  | [y], h =>
    have hy := hm y (by rw [hl]; simp)
    simp only [List.map_cons, List.map_nil, toW4, List.cons.injEq, W4.mk.injEq, and_true] at h
    obtain ⟨h1, h2, h3, h4⟩ := h
    have k1 : y.1.kind = 1 := by omega
    have e : y.1.text = s.data.toList := by rw [← ht, ← h3, bsOf_list]
    unfold mayW at hy
    rw [if_pos k1, e, Bool.and_eq_true, Bool.and_eq_true] at hy
    exact hy.1.1
theorem one_cells {s : ByteArray} {k : Int} {w : World} {v : Value} {B : Nat} {xs : List W4} (h : Lie4 B w v xs) (hx : xs = [⟨k, 0, s, 0⟩]) : ∃ bl off cap, v = .slice (some ⟨bl, off, none⟩) 1 cap ∧ bl < B ∧ 1 ≤ cap ∧ w.cell? ⟨bl, off, none⟩ = some (.int .i64 k) ∧ w.cell? ⟨bl, off + 1, none⟩ = some (.int .i64 0) ∧ w.cell? ⟨bl, off + 2, none⟩ = some (.string s) ∧ w.cell? ⟨bl, off + 3, none⟩ = some (.int .u64 0) := by
  subst hx
  obtain ⟨bl, off, cap, h1, h2, h3, c0, c1, c2, c3⟩ := h.at (j := 0) rfl
  exact ⟨bl, off, cap, h1, h2, h3, c0, c1, c2, c3⟩
set_option maxRecDepth 100000 in
set_option maxHeartbeats 4000000 in
theorem spells_walk (s : ByteArray) (w : World) (hE : Env w) : Calls Tryz.prog 9 #[.string s] w fun e w' => e = .returned (.bool true) ∧ Below w.heap.size w w' := by
  have HE := hidE hE
  have h8 := hE.room
  clear hE
  have HW := hidE (fun w1 (h : Below w.heap.size w w1) => works_any w1 (HE.out.below h h8))
  by_cases hbig : 4000 < s.size
  · have hbig' : (4000 : Int) < s.size := by omega
    go_enter Tryz.func9, Tryz.ntmps9
    go_wp2_with fail
    refine (HW.out w (Below.refl _ _)).mono ?_
    rintro e w1 ⟨rfl, hb⟩
    go_wp2_with fail
    go_ret
    exact ⟨rfl, hb⟩
  · have hbig' : ¬ (4000 : Int) < s.size := by omega
    have HSp := hidE (spell_any s (by omega) w HE.out)
    have HNm := hidE (fun w1 (h : Below w.heap.size w w1) => name_any s (by omega) w1 (HE.out.below h h8))
    cases hn : nameOk Lib.validD s.data.toList with
    | false =>
      have e : spellB s.data.toList = [] := by unfold spellB; rw [hn]; rfl
      rw [e] at HSp
      rw [hn] at HNm
      clear hn e
      rw [show bsOf [] = ⟨#[]⟩ from rfl] at HSp
      go_enter Tryz.func9, Tryz.ntmps9
      go_wp2_with fail
      refine HSp.out.mono ?_
      rintro e w1 ⟨rfl, hb1⟩
      have HB1 := hidE hb1
      clear hb1
      go_wp2_with fail
      refine (HNm.out w1 HB1.out).mono ?_
      rintro e w2 ⟨rfl, hb2⟩
      have HB2 := hidE (below_on HB1.out hb2)
      clear hb2
      go_wp2_with fail
      refine (HW.out _ HB2.out).mono ?_
      rintro e w3 ⟨rfl, hb3⟩
      have HB3 := hidE (below_on HB2.out hb3)
      clear hb3
      go_wp2_with fail
      go_ret
      exact ⟨rfl, HB3.out⟩
    | true =>
      rw [hn] at HNm
      have hs64 : s.size ≤ 64 := by
        unfold nameOk at hn
        simp only [Bool.and_eq_true, decide_eq_true_eq] at hn
        exact hn.1.1.2
      cases hbr : (bareB s.data.toList && !resB s.data.toList) with
      | true =>
        have e : bsOf (spellB s.data.toList) = s := by unfold spellB; rw [hn, hbr]; exact of_bs s
        rw [e] at HSp
        rw [Bool.and_eq_true, Bool.not_eq_true'] at hbr
        obtain ⟨hx, ho⟩ := lexP_name s hbr.1 hn
        have HX := hidE hx
        have HOx := hidE ho
        have HRS := hidE (res_any s (by omega))
        rw [hbr.2] at HRS
        have HIS := hidE (fun w1 => is_any 1 0 0 s ⟨#[109, 97, 116, 99, 104]⟩ (by omega) (by decide) w1)
        rw [res_match hbr.2] at HIS
        have HL := hidE (fun w1 (h : Below w.heap.size w w1) => lex_any s (by omega) w1 (HE.out.below h h8))
        clear hn e hbr hx ho
        go_enter Tryz.func9, Tryz.ntmps9
        go_wp2_with fail
        refine HSp.out.mono ?_
        rintro e w1 ⟨rfl, hb1⟩
        have HB1 := hidE hb1
        clear hb1
        go_wp2_with fail
        refine (HNm.out w1 HB1.out).mono ?_
        rintro e w2 ⟨rfl, hb2⟩
        have HB2 := hidE (below_on HB1.out hb2)
        clear hb2
        go_wp2_with fail
        refine (HL.out _ HB2.out).mono ?_
        rintro e w3 ⟨hb3, ⟨ho, v3, rfl, hl⟩ | ⟨j, hj, ho, _⟩⟩
        · have HB3 := hidE (below_on HB2.out hb3)
          obtain ⟨bl, off, cap, rfl, hbl, hc1, c0, c1, c2, c3⟩ := one_cells hl HX.out
          have HL3 := hidE hl
          clear hb3 ho hl
          go_wp2_with fail
          refine (num_any _ _).mono ?_
          rintro e W ⟨rfl, rfl⟩
          go_wp2_with fail
          have hx : bl < W.heap.size := lt_of_cell c0
          have HC : Hid (∀ W', Below W.heap.size W W' → W'.cell? ⟨bl, off, none⟩ = some (.int .i64 1) ∧ W'.cell? ⟨bl, off + 1, none⟩ = some (.int .i64 0) ∧ W'.cell? ⟨bl, off + 2, none⟩ = some (.string s) ∧ W'.cell? ⟨bl, off + 3, none⟩ = some (.int .u64 0)) := fun W' h => ⟨(h.cell hx).trans c0, (h.cell hx).trans c1, (h.cell hx).trans c2, (h.cell hx).trans c3⟩
          clear c0 c1 c2 c3 hx
          refine (HRS.out W).mono ?_
          rintro e w4 ⟨rfl, hb4⟩
          obtain ⟨c0, c1, c2, c3⟩ := HC.out w4 hb4
          have HB4 := hidE (below_on HB3.out hb4)
          clear hb4
          go_wp2_with fail
          refine (HIS.out w4).mono ?_
          rintro e w5 ⟨rfl, hb5⟩
          have HB5 := hidE (below_on HB4.out hb5)
          clear hb5
          go_wp2_with fail
          refine (HW.out _ HB5.out).mono ?_
          rintro e w6 ⟨rfl, hb6⟩
          have HB6 := hidE (below_on HB5.out hb6)
          clear hb6
          go_wp2_with fail
          go_ret
          exact ⟨rfl, HB6.out⟩
        · rw [HOx.out] at ho; cases ho
      | false =>
        obtain ⟨T, hT⟩ : ∃ T, bsOf (encB s.data.toList) = T := ⟨_, rfl⟩
        have e : bsOf (spellB s.data.toList) = T := by unfold spellB; rw [hn, hbr]; exact hT
        rw [e] at HSp
        obtain ⟨hx, ho⟩ := lexP_enc s hn
        rw [hT] at hx ho
        have hTs : T.size ≤ 130 := by
          rw [← hT, bsOf_size]
          unfold encB
          have := dblB_len s.data.toList
          simp only [List.length_cons, List.length_append, List.length_nil]
          have h2 : s.data.toList.length = s.size := rfl
          omega
        have HX := hidE hx
        have HOx := hidE ho
        have HRS := hidE (res_any s (by omega))
        have HL := hidE (fun w1 (h : Below w.heap.size w w1) => lex_any T (by omega) w1 (HE.out.below h h8))
        have HL2 := hidE (fun w1 (h : Below w.heap.size w w1) => lex_any s (by omega) w1 (HE.out.below h h8))
        have HBR : Hid (bareB s.data.toList = true → resB s.data.toList = true) := fun h => by rw [h] at hbr; simpa using hbr
        clear hn e hbr hx ho hT
        go_enter Tryz.func9, Tryz.ntmps9
        go_wp2_with fail
        refine HSp.out.mono ?_
        rintro e w1 ⟨rfl, hb1⟩
        have HB1 := hidE hb1
        clear hb1
        go_wp2_with fail
        refine (HNm.out w1 HB1.out).mono ?_
        rintro e w2 ⟨rfl, hb2⟩
        have HB2 := hidE (below_on HB1.out hb2)
        clear hb2
        go_wp2_with fail
        refine (HL.out _ HB2.out).mono ?_
        rintro e w3 ⟨hb3, ⟨ho, v3, rfl, hl⟩ | ⟨j, hj, ho, _⟩⟩
        · have HB3 := hidE (below_on HB2.out hb3)
          obtain ⟨bl, off, cap, rfl, hbl, hc1, c0, c1, c2, c3⟩ := one_cells hl HX.out
          clear hb3 ho hl HL HSp HNm HX HOx
          go_wp2_with fail
          refine (num_any _ _).mono ?_
          rintro e W ⟨rfl, rfl⟩
          go_wp2_with fail
          have hx : bl < W.heap.size := lt_of_cell c0
          have HC : Hid (∀ W', Below W.heap.size W W' → W'.cell? ⟨bl, off, none⟩ = some (.int .i64 2)) := fun W' h => (h.cell hx).trans c0
          clear c0 c1 c2 c3 hx
          refine (HL2.out _ HB3.out).mono ?_
          rintro e w4 ⟨hb4, ⟨ho2, v4, rfl, hl4⟩ | ⟨j, hj, ho2, rfl⟩⟩
          · have HB4 := hidE (below_on HB3.out hb4)
            have c0 := HC.out w4 hb4
            have HL4 := hidE hl4
            have HO4 := hidE ho2
            obtain ⟨ad4, cap4, rfl, hlc4, hcm4, -⟩ := hl4
            clear hb4 ho2
            by_cases hln : ((lexP s).map toW4).length = 1
            · obtain ⟨x, hx⟩ : ∃ x, (lexP s).map toW4 = [x] := by
                match h : (lexP s).map toW4, hln with
                | [x], _ => exact ⟨x, rfl⟩
              rw [hx] at HL4 ⊢
              obtain ⟨bl4, off4, cap4', hv, hbl4, _, d0', d1', d2', d3'⟩ := HL4.out.at (j := 0) rfl
              cases hv
              have d0 : w4.cell? ⟨bl4, off4, none⟩ = some (.int .i64 x.k) := d0'
              have d2 : w4.cell? ⟨bl4, off4 + 2, none⟩ = some (.string x.t) := d2'
              have HX := hidE hx
              rw [show [x].length = 1 from rfl]
              clear hx hln hlc4 d0' d1' d2' d3' HL4
              obtain ⟨k, i, t, n⟩ := x
              simp only at d0 d2
              by_cases hk : k = 1
              · by_cases ht : t = s
                · have HRT : Hid (resB s.data.toList = true) := HBR.out (lex_one_bare HX.out hk ht)
                  subst hk
                  subst ht
                  go_wp2_with fail
                  refine (num_any _ _).mono ?_
                  rintro e W ⟨rfl, rfl⟩
                  go_wp2_with fail
                  refine (HRS.out _).mono ?_
                  rw [HRT.out]
                  rintro e w5 ⟨rfl, hb5⟩
                  have HB5 := hidE (below_on HB4.out hb5)
                  clear hb5
                  go_wp2_with fail
                  refine (HW.out _ HB5.out).mono ?_
                  rintro e w6 ⟨rfl, hb6⟩
                  have HB6 := hidE (below_on HB5.out hb6)
                  clear hb6
                  go_wp2_with fail
                  go_ret
                  exact ⟨rfl, HB6.out⟩
                · have ht' := bytes_ne ht
                  subst hk
                  clear HX
                  go_wp2_with fail
                  refine (num_any _ _).mono ?_
                  rintro e W ⟨rfl, rfl⟩
                  go_wp2_with fail
                  refine (HW.out _ HB4.out).mono ?_
                  rintro e w6 ⟨rfl, hb6⟩
                  have HB6 := hidE (below_on HB4.out hb6)
                  clear hb6
                  go_wp2_with fail
                  go_ret
                  exact ⟨rfl, HB6.out⟩
              · have hk' : (k == 1) = false := ne_bool hk
                clear HX
                go_wp2_with fail
                refine (num_any _ _).mono ?_
                rintro e W ⟨rfl, rfl⟩
                go_wp2_with fail
                refine (HW.out _ HB4.out).mono ?_
                rintro e w6 ⟨rfl, hb6⟩
                have HB6 := hidE (below_on HB4.out hb6)
                clear hb6
                go_wp2_with fail
                go_ret
                exact ⟨rfl, HB6.out⟩
            · generalize ((lexP s).map toW4).length = L at hln hlc4 ⊢
              have hln' : ((L : Int) == 1) = false := ne_bool (by omega)
              go_wp2_with fail
              refine (num_any _ _).mono ?_
              rintro e W ⟨rfl, rfl⟩
              go_wp2_with fail
              refine (HW.out _ HB4.out).mono ?_
              rintro e w6 ⟨rfl, hb6⟩
              have HB6 := hidE (below_on HB4.out hb6)
              clear hb6
              go_wp2_with fail
              go_ret
              exact ⟨rfl, HB6.out⟩
          · have HB4 := hidE (below_on HB3.out hb4)
            have c0 := HC.out w4 hb4
            clear hb4 ho2
            go_wp2_with fail
            refine (num_any _ _).mono ?_
            rintro e W ⟨rfl, rfl⟩
            go_wp2_with fail
            refine (HW.out _ HB4.out).mono ?_
            rintro e w6 ⟨rfl, hb6⟩
            have HB6 := hidE (below_on HB4.out hb6)
            clear hb6
            go_wp2_with fail
            go_ret
            exact ⟨rfl, HB6.out⟩
        · rw [HOx.out] at ho; cases ho
end Go.Proofs.YtbjcdpenfijfoaaGreatDoor
