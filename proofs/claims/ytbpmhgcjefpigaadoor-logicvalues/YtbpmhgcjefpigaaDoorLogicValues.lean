/- For every value and every list of values the law LogicValues returns true and the arguments stay as they were; no condition (the tables of utf8 start as the program's text lays them: the card ties them). -/
import Derived.Test.YtbpmhgcjefpigaaDoorVal1
import Derived.Test.YtbpmhgcjefpigaaDoorOpens
namespace Go.Proofs.YtbpmhgcjefpigaaDoor
open Go.RowKit Go.WideShapes Go.Shelf
set_option linter.unusedVariables false
open Go.ChangeShapes Go.WideShapes Go.ChangeAt Go.RowKit Go.Shelf

set_option maxRecDepth 100000 in
set_option maxHeartbeats 4000000 in
theorem values_not (k : Int) (x : Bool) (n : Int) (s : ByteArray) (ks : List ByteArray) (us ts : List Tree) (B : Nat) (v : Value) (la : Option Addr) (lc : Nat) (w : World) (hB : B ≤ w.heap.size) (hv : Lies B w v (.mk k x n s ks us)) (hl : ListLies B w la ts)
    (h1 : ts.length ≤ lc) (h2 : lc ≤ maxLen) (hT : Tabs w) (hS : Sane (.mk k x n s ks us)) (hSL : SaneL ts) (h40 : ts.length ≤ 40) (hck : checkN (.mk k x n s ks us) ≠ 0) :
    Calls Tryd.prog 5 #[v, .slice la ts.length lc] w fun e w' => e = .returned (.bool true) ∧ Below w.heap.size w w' := by
  unfold maxLen at h2
  obtain ⟨i0, hi, hz0, hz1, hz2⟩ := info_parts Tryd.info23
  obtain ⟨T, hTr⟩ : ∃ T, Tree.mk k x n s ks us = T := ⟨_, rfl⟩
  have HLv : Hid (∀ W, Below w.heap.size w W → Lies B W v T) := fun W hb => hTr ▸ hv.below (hb.mono hB)
  have HSm : Hid (∀ W, Below w.heap.size w W → Calls Tryd.prog 25 #[v, .int .i64 1000] W fun e w' => e = .returned (.int .i64 (smallN T 1000)) ∧ Below W.heap.size W w') := fun W hb =>
    small_any T B v 1000 W (Nat.le_trans hB hb.size) (HLv.out W hb) (hTr ▸ hS) (by omega) (by omega)
  have HTB : Hid (∀ W, Below w.heap.size w W → Tabs W) := fun W hb => hT.below hb
  have HST : Hid (Sane T) := hTr ▸ hS
  have HSE : Hid (smallN T 1000 ≤ 1000 → T.total ≤ 1000) := fun h => by have := smallN_eq T 1000 h; omega
  have HCK : Hid (checkN T ≠ 0) := hTr ▸ hck
  have HOF : Hid (T.total ≤ 1000 → ∀ W, Below w.heap.size w W → Calls Tryd.prog 10 #[v] W fun e w' => e = .returned (.tuple #[.int .i64 1, .bool false]) ∧ Below W.heap.size W w') := fun ht W hb => by
    have h := of_any k x n s ks us B v W (Nat.le_trans hB hb.size) (hTr ▸ HLv.out W hb) (HTB.out W hb) (hTr ▸ modest_small ht)
    rw [hTr, if_neg HCK.out, if_neg HCK.out] at h; exact h
  have HLL : Hid (∀ W, Below w.heap.size w W → ListLies B W la ts) := fun W hb => hl.below (hb.mono hB)
  have HSLH := hidE hSL
  have HIN : Hid (T.total ≤ 1000 → Smalls ts ts.length → ∀ W, Below w.heap.size w W → Calls Tryd.prog 23 #[v, .slice la ts.length lc] W fun e w' => e = .returned (.int .i64 (orL (ts.map (equalN T)))) ∧ Below W.heap.size W w') := fun ht hs W hb =>
    in_any T ts B v la lc W (Nat.le_trans hB hb.size) (HLv.out W hb) (HLL.out W hb) h1 (by unfold maxLen; omega) (HTB.out W hb) (modest_small ht) (fun t hm => by
      obtain ⟨i, hi⟩ := List.mem_iff_getElem?.1 hm
      exact modest_small (hs i t (List.getElem?_eq_some_iff.1 hi).1 hi))
  simp only [Lies] at hv
  obtain ⟨ka, kc, la', lc', rfl, -⟩ := hv
  have HCH : Hid (T.total ≤ 1000 → ∀ W, Below w.heap.size w W → Calls Tryd.prog 26 #[.agg #[.int .i64 k, .bool x, .int .i64 n, .string s, .slice ka ks.length kc, .slice la' us.length lc']] W fun e w' => e = .returned (.int .i64 (checkN T)) ∧ Below W.heap.size W w') := fun ht W hb =>
    rcheck_any T B _ W (Nat.le_trans hB hb.size) (HLv.out W hb) HST.out (by omega)
  have HEQ : Hid (∀ (t : Tree) (v' : Value), checkN T = 0 → checkN t = 0 → ∀ W, Below w.heap.size w W → Lies B W v' t → Calls Tryd.prog 27 #[.agg #[.int .i64 k, .bool x, .int .i64 n, .string s, .slice ka ks.length kc, .slice la' us.length lc'], v'] W fun e w' => e = .returned (.int .i64 (eqT T t)) ∧ Below W.heap.size W w') := fun t v' h0 h1 W hb hv' =>
    refeq_any T B _ v' t W (Nat.le_trans hB hb.size) (HLv.out W hb) hv' (known_check h0) (known_check h1)
  clear hTr hl hT hS hSL hck
  obtain ⟨W1, hW1⟩ : ∃ W1, w.alloc (.cells #[.int .i64 k, .bool x, .int .i64 n, .string s, .slice ka ks.length kc, .slice la' us.length lc'] 30) = W1 := ⟨_, rfl⟩
  have HX : Hid (∀ W, Below W1.heap.size W1 W → Below w.heap.size w W ∧ (W.cell? ⟨w.heap.size, 0, none⟩ = some (.int .i64 k) ∧ W.cell? ⟨w.heap.size, 1, none⟩ = some (.bool x) ∧ W.cell? ⟨w.heap.size, 2, none⟩ = some (.int .i64 n) ∧ W.cell? ⟨w.heap.size, 3, none⟩ = some (.string s) ∧ W.cell? ⟨w.heap.size, 4, none⟩ = some (.slice ka ks.length kc) ∧ W.cell? ⟨w.heap.size, 5, none⟩ = some (.slice la' us.length lc'))) := fun W hb => by
    rw [← hW1] at hb
    obtain ⟨h1, h2⟩ := box_cells hb
    exact ⟨h1, h2 0 _ rfl, h2 1 _ rfl, h2 2 _ rfl, h2 3 _ rfl, h2 4 _ rfl, h2 5 _ rfl⟩
  have HW1 := hidE hW1
  have hd : decide (40 < (ts.length : Int)) = false := decide_eq_false (by omega)
  obtain ⟨sm, hsm⟩ : ∃ sm, smallN T 1000 = sm := ⟨_, rfl⟩
  rw [hsm] at HSm HSE
  clear hsm hW1
  go_enter Tryd.func5, Tryd.ntmps5
  go_wp2_with fail
  rw [HW1.out]
  refine (HSm.out W1 (HX.out W1 (Below.refl _ _)).1).mono ?_
  rintro e w2 ⟨rfl, hb2⟩
  obtain ⟨hbw2, q0, q1, q2, q3, q4, q5⟩ := HX.out w2 hb2
  have HB2 := hidE hb2
  have HBW2 := hidE hbw2
  clear hb2 hbw2 HSm HW1
  by_cases hbig : 1000 < sm
  · have d2 : decide (1000 < sm) = true := decide_eq_true hbig
    clear hbig
    go_wp2_with fail
    refine (works_any _).mono ?_; rintro e w' ⟨rfl, hb⟩
    have HB3 := hidE (below_on HBW2.out hb)
    clear hb
    go_wp2_with fail
    go_ret
    exact ⟨rfl, HB3.out⟩
  have d2 : decide (1000 < sm) = false := decide_eq_false hbig
  have HTOT := hidE (HSE.out (by omega))
  clear hbig HSE
  go_wp2_with fail
  refine (HCH.out HTOT.out w2 HBW2.out).mono ?_
  rintro e w3 ⟨rfl, hb3⟩
  have HB3 := hidE (HB2.out.trans (hb3.mono HB2.out.size))
  clear hb3 q0 q1 q2 q3 q4 q5 HB2 HBW2 d2 hd
  obtain ⟨ck, hckk⟩ : ∃ ck, checkN T = ck := ⟨_, rfl⟩
  have HCKE := hidE hckk
  have ec : (ck == 0) = false := by rw [← hckk]; exact beq_eq_false_iff_ne.2 HCK.out
  rw [hckk]
  clear hckk
  go_wp2_with fail
  go_loopw [7, 6, 8] (fun i u _ wr => ∃ p : Nat, p ≤ ts.length ∧ i = .int .i64 p ∧ wr.ownsRow W1.heap.size 23 1 u p (eqRow T ts p) ∧ Below W1.heap.size W1 wr ∧ Smalls ts p) (fun i _ _ _ => ts.length - (intOf i).toNat)
  case atStart => exact ⟨0, Nat.zero_le _, rfl, ⟨by simp [eqRow], .inl ⟨rfl, rfl⟩⟩, HB3.out, fun i t hi _ => absurd hi (Nat.not_lt_zero _)⟩
  case round =>
    obtain ⟨p, hp, rfl, hown, hbr, hsmall⟩ := hrel
    obtain ⟨hbw, q0, q1, q2, q3, q4, q5⟩ := HX.out wr hbr
    have HO := hidE hown
    have HBR := hidE hbr
    have HBW := hidE hbw
    have HSL := hidE hsmall
    obtain ⟨ua, uc, hu⟩ := ownsRow_slice hown
    subst hu
    clear hown hbr hbw hsmall
    by_cases hlt : p < ts.length
    · obtain ⟨bl, off, rfl, hbl, hkk⟩ := (HLL.out wr HBW.out).resolve_left (by intro e; subst e; simp at hlt)
      obtain ⟨⟨p0, p1, p2, p3, p4, p5⟩, hx⟩ : ∃ t, ts[p]? = some t := ⟨_, List.getElem?_eq_getElem hlt⟩
      obtain ⟨ja, jc, jl, jd, ⟨c0, c1, c2, c3, c4, c5⟩, hlx⟩ := hkk.cells hx
      have hle : B ≤ wr.heap.size := Nat.le_trans hB HBW.out.size
      obtain ⟨t, htr⟩ : ∃ t, Tree.mk p0 p1 p2 p3 p4 p5 = t := ⟨_, rfl⟩
      rw [htr] at hx hlx
      have hsane := HSLH.out.mem (List.mem_of_getElem? hx)
      have HSmE : Hid (∀ W, Below wr.heap.size wr W → Calls Tryd.prog 25 #[.agg #[.int .i64 p0, .bool p1, .int .i64 p2, .string p3, .slice ja p4.length jc, .slice jl p5.length jd], .int .i64 1000] W fun e w' => e = .returned (.int .i64 (smallN t 1000)) ∧ Below W.heap.size W w') := fun W hb =>
        small_any t B _ 1000 W (Nat.le_trans hle hb.size) (hlx.below (hb.mono hle)) hsane (by omega) (by omega)
      have HSEt : Hid (smallN t 1000 ≤ 1000 → t.total ≤ 1000) := fun h => by have := smallN_eq t 1000 h; omega
      have HChE : Hid (t.total ≤ 1000 → ∀ W, Below wr.heap.size wr W → Calls Tryd.prog 26 #[.agg #[.int .i64 p0, .bool p1, .int .i64 p2, .string p3, .slice ja p4.length jc, .slice jl p5.length jd]] W fun e w' => e = .returned (.int .i64 (checkN t)) ∧ Below W.heap.size W w') := fun ht W hb =>
        rcheck_any t B _ W (Nat.le_trans hle hb.size) (hlx.below (hb.mono hle)) hsane (by omega)
      have HLx : Hid (∀ W, Below wr.heap.size wr W → Lies B W (.agg #[.int .i64 p0, .bool p1, .int .i64 p2, .string p3, .slice ja p4.length jc, .slice jl p5.length jd]) t) := fun W hb => hlx.below (hb.mono hle)
      have HXT := hidE hx
      have HTK : Hid (eqRow T ts (p + 1) = eqRow T ts p ++ [.int .i64 (equalN T t)]) := by
        show _ = _
        unfold eqRow
        rw [take_snoc hx]; simp
      obtain ⟨st, hst⟩ : ∃ st, smallN t 1000 = st := ⟨_, rfl⟩
      rw [hst] at HSmE HSEt
      clear hkk hlx hx hsane hst htr hle
      go_wp2_with fail
      refine (HSmE.out wr (Below.refl _ _)).mono ?_
      rintro e w4 ⟨rfl, hb4⟩
      have HB4 := hidE hb4
      have HBR4 := hidE (HBR.out.trans (hb4.mono HBR.out.size))
      clear hb4 HSmE
      by_cases hbig : 1000 < st
      · have d3 : decide (1000 < st) = true := decide_eq_true hbig
        clear hbig c0 c1 c2 c3 c4 c5 q0 q1 q2 q3 q4 q5
        go_wp2_with fail
        refine (works_any _).mono ?_; rintro e w' ⟨rfl, hb⟩
        have HB5 := hidE (below_on (HX.out w4 HBR4.out).1 hb)
        clear hb
        go_wp2_with fail
        go_ret
        exact ⟨rfl, HB5.out⟩
      have d3 : decide (1000 < st) = false := decide_eq_false hbig
      have HTt := hidE (HSEt.out (by omega))
      clear hbig HSEt
      have HQV : Hid (equalN T t = 1) := by show _ = _; unfold equalN; rw [if_neg (fun h => HCK.out h.1)]
      clear c0 c1 c2 c3 c4 c5 q0 q1 q2 q3 q4 q5
      have HOW := hidE (ownsRow_on HO.out (HB4.out))
      go_wp2_with (first
        | (at_builtin; refine wpList_append_own _ rfl _ _ 22 rfl W1.heap.size 23 i0 (.int .i64 0) 1 8 Tryd.underlying22 hi hz0 hz1 hz2 rfl (by decide) _ _ _ rfl (HOW.out.alloc _) ⟨w4.heap.size, 0, none⟩ 1 1 [.int .i64 1] rfl rfl ?b1 ?b2 ?b3 ?b4 ?b5 ?_)
        | fail)
      case b1 => first | exact cell_one_new _ _ _ | (intro j u hj; match j, hj with | 0, hj => simp at hj; subst hj; simp [Addr.add, go_sem])
      case b2 => intro u hu; simp at hu; subst hu; rfl
      case b3 => unfold maxLen; omega
      case b4 => omega
      case b5 => have := (HBR4.out).size; simp; omega
      intro v2 w9 hown2 hgrow2 _
      have hb9 : Below W1.heap.size W1 w9 := ((HBR4.out).alloc (HBR4.out).size _).grown hgrow2 (by have := (HBR4.out).size; simp; omega) (fun j hj => by have := (HOW.out.lt j hj).1; omega)
      have HO2 : Hid (w9.ownsRow W1.heap.size 23 1 v2 (p + 1) (eqRow T ts (p + 1))) := by
        show w9.ownsRow _ _ _ _ _ _
        rw [HTK.out, HQV.out]; exact hown2
      have HB9 := hidE hb9
      obtain ⟨va, vc, hv2⟩ := ownsRow_slice hown2
      subst hv2
      clear hown2 hgrow2 hb9 HO HOW
      go_wp2_with fail
      go_roundw
      case rel => exact ⟨p + 1, by omega, by go_num, HO2.out, HB9.out, HSL.out.snoc HXT.out HTt.out⟩
      case measure => simp [intOf]; omega
    · have HPT : Hid (p = ts.length) := by show _ = _; omega
      have HSALL : Hid (Smalls ts ts.length) := HPT.out ▸ HSL.out
      have HOA : Hid (wr.ownsRow W1.heap.size 23 1 (.slice ua p uc) p ((ts.map (equalN T)).map (Value.int .i64))) := by
        have := HO.out
        unfold eqRow at this
        rwa [List.take_of_length_le (show ts.length ≤ p by omega)] at this
      have HOR : Hid (∀ W, Below wr.heap.size wr W → Calls Tryd.prog 12 #[.slice ua p uc] W fun e w' => e = .returned (.int .i64 (orL (ts.map (equalN T)))) ∧ w' = W) := fun W hb => by
        have hlen := HPT.out
        have ho := HOA.out
        by_cases h0 : ts.length = 0
        · have : ts = [] := List.eq_nil_of_length_eq_zero h0
          subst this
          have e0 : p = 0 := by simpa using hlen
          rw [e0]
          exact ror_zero ua uc W
        · obtain ⟨_, ⟨_, e1⟩ | ⟨g, cap, cur, e2, _, _, _, _, _, _⟩⟩ := HOA.out
          · omega
          · simp only [Value.slice.injEq, true_and] at e2
            obtain ⟨rfl, rfl⟩ := e2
            have hm : p = (ts.map (equalN T)).length := by simp; omega
            have key := ror_any g 0 uc (ts.map (equalN T)) W (by rw [← hm]; omega) (fun j hj => by
              have hc := ho.cells (g := g) rfl j (.int .i64 ((ts.map (equalN T)).getD j 0)) (map_get hj)
              rw [add_plain] at hc
              exact cell_below hb (Nat.le_refl _) hc)
            rw [← hm] at key
            exact key
      have HINA := hidE (HIN.out HTOT.out HSALL.out)
      obtain ⟨ol, hol⟩ : ∃ ol, orL (ts.map (equalN T)) = ol := ⟨_, rfl⟩
      rw [hol] at HOR HINA
      have HOFA := hidE (HOF.out HTOT.out)
      clear hol HIN HOF HO HOA HSL
      go_wp2_with fail
      refine (HOFA.out wr HBW.out).mono ?_
      rintro e w5 ⟨rfl, hb5⟩
      have HB5 := hidE hb5
      have HBR5 := hidE (HBR.out.trans (hb5.mono HBR.out.size))
      obtain ⟨hbw5, k0, k1, k2, k3, k4, k5⟩ := HX.out w5 HBR5.out
      have HBW5 := hidE hbw5
      clear hb5 hbw5 q0 q1 q2 q3 q4 q5
      go_wp2_with fail
      have HB6 := HB5
      have HBW6 := HBW5
      refine (HINA.out _ HBW6.out).mono ?_
      rintro e w7 ⟨rfl, hb7⟩
      have HB7 := hidE (HB6.out.trans (hb7.mono HB6.out.size))
      have HBW7 := hidE (below_on HBW6.out hb7)
      clear hb7 k0 k1 k2 k3 k4 k5
      go_wp2_with fail
      refine (HOR.out _ HB7.out).mono ?_
      rintro e w8 ⟨rfl, rfl⟩
      go_wp2_with fail
      refine (works_any _).mono ?_; rintro e w' ⟨rfl, hb⟩
      have HB9 := hidE (below_on HBW7.out hb)
      clear hb
      go_wp2_with fail
      go_ret
      exact ⟨rfl, HB9.out⟩


noncomputable abbrev zeroV : Value := .agg #[.int .i64 0, .bool false, .int .i64 0, .string ⟨#[]⟩, .slice none 0 0, .slice none 0 0]

theorem logicValues_walk (T : Tree) (ts : List Tree) (v : Value) (la : Option Addr) (lc : Nat) (W : World) (hv : Lies W.heap.size W v T) (hl : ListLies W.heap.size W la ts) (h1 : ts.length ≤ lc) (h2 : lc ≤ maxLen) (hT : Tabs W) (hS : Sane T) (hSL : SaneL ts) :
    Calls Tryd.prog 5 #[v, .slice la ts.length lc] W fun e w' => e = .returned (.bool true) ∧ Below W.heap.size W w' := by
  by_cases h40 : 40 < ts.length
  · obtain ⟨k, x, n, s, ks, us⟩ := T
    simp only [Lies] at hv
    obtain ⟨ka, kc, la', lc', rfl, -⟩ := hv
    exact values_long _ ⟨_, _, _, _, _, _, rfl⟩ la ts.length lc W h40 (by omega)
  · obtain ⟨k, x, n, s, ks, us⟩ := T
    by_cases hck : checkN (.mk k x n s ks us) = 0
    · exact values_fine k x n s ks us ts W.heap.size v la lc W (Nat.le_refl _) hv hl h1 h2 hT hS hSL (by omega) hck
    · exact values_not k x n s ks us ts W.heap.size v la lc W (Nat.le_refl _) hv hl h1 h2 hT hS hSL (by omega) hck

theorem logicValues_witness (os : Os) {H : Type} (enc : TypeId × Value → H) :
    (OpenSpec.ofChange Rows.logicValuesSpec).preRow enc Tryd.prog Tryd.f5 Rows.logicValuesRow.domain false Rows.logicValuesRow.laid ((laidWorld os).forCall (fun _ _ => 0) ⟨#[], #[zeroV, .slice none 0 0], []⟩).memory #[zeroV, .slice none 0 0] := by
  have hw : (DataW.whole enc Tryd.prog ((laidWorld os).forCall (fun _ _ => 0) ⟨#[], #[zeroV, .slice none 0 0], []⟩).memory Tryd.f5.params.toList (OpenSpec.ofChange Rows.logicValuesSpec).vars false #[zeroV, Value.slice none 0 0].toList 8).map (fun x => (x.1, x.2.1)) =
      some ([.agg [.lit (.int .i64 0), .lit (.bool false), .lit (.int .i64 0), .lit (.string []), .nil, .nil], .nil], []) := by kernel_rfl
  obtain ⟨⟨x1, x2, x3⟩, hx, hx1⟩ := Option.map_eq_some_iff.1 hw
  simp only [Prod.mk.injEq] at hx1
  obtain ⟨rfl, rfl⟩ := hx1
  exact OpenSpec.preRow_of_cond 8 hx (by kernel_rfl) (fun k hk => by cases hk) (by kernel_rfl) (laid_met os _)

set_option maxRecDepth 100000 in
set_option maxHeartbeats 2000000 in
theorem logicValues_lifted (os : Os) (started : os.Started) (H : Type) (enc : TypeId × Value → H) (F : Stop.Interp) :
    ReturnsInHanded {} Tryd.checked os 5 .any ((OpenSpec.ofChange Rows.logicValuesSpec).preRow enc Tryd.prog Tryd.f5 Rows.logicValuesRow.domain false Rows.logicValuesRow.laid) (((OpenSpec.ofChange Rows.logicValuesSpec).at F).post enc Tryd.prog Tryd.f5 false true false false) := by
  refine returnsInHanded_of_row (C := Tryd.checked) (s := OpenSpec.ofChange Rows.logicValuesSpec) own started (by kernel_rfl) Tryd.func5
    (witness_row_atRef (enc := enc) (C := Tryd.checked) false (laidWorld os) #[zeroV, .slice none 0 0] rfl (by kernel_rfl) (by kernel_rfl) (by kernel_rfl) (logicValues_witness os enc)) ?_
  intro W base args ds gs before hval0 hW _ _ hwt hL _ _
  have hval : ∀ (j : Nat) t v, Tryd.f5.params[j]? = some t → args[j]? = some v → Value.okWide Tryd.prog W .any base t v := hval0
  have hW' := hW
  obtain ⟨p, q, hA0, hV, rfl, hfz, hnd⟩ := hW
  have hA : DataW.TrodAll enc Tryd.prog W 0 (fun _ => true) true Tryd.f5.params.toList args.toList ds p := hA0
  rw [Tryd.params5] at hA hval hwt
  obtain ⟨v0, vs0, d0, ds0, p0, q0, hargs, rfl, rfl, h0, r0⟩ := trodAll_cons hA
  obtain ⟨v1, vs1, d1, ds1, p1, q1, rfl, rfl, rfl, h1, r1⟩ := trodAll_cons r0
  obtain ⟨rfl, rfl, rfl⟩ := trodAll_nil r1
  obtain rfl : args = #[v0, v1] := by cases args; simp_all
  obtain ⟨rfl, rfl⟩ := trodVars_none hV
  clear hA0 hval0
  simp only [List.append_nil] at hW'
  have hlt : ∀ x ∈ p0 ++ p1, x.block < W.heap.size := fun x hx => by simpa using hW'.lt x (by simpa using hx)
  have hback0 : ∀ (W' : World), Below W.heap.size W W' → DataW.Trod enc Tryd.prog W' 0 (fun b => decide (b < W.heap.size)) true 30 v0 d0 p0 :=
    fun W' hn => Below.trod laidOut (by kernel_rfl) (of_decide_eq_true (by kernel_rfl)) h0 hn (fun x hx => hlt x (List.mem_append_left _ hx))
  have hback1 : ∀ (W' : World), Below W.heap.size W W' → DataW.Trod enc Tryd.prog W' 0 (fun b => decide (b < W.heap.size)) true 28 v1 d1 p1 :=
    fun W' hn => Below.trod laidOut (by kernel_rfl) (of_decide_eq_true (by kernel_rfl)) h1 hn (fun x hx => hlt x (List.mem_append_right _ hx))
  have hwts : ∀ x, (x ∈ d0.weights Tryd.prog 30 ∨ x ∈ d1.weights Tryd.prog 28) → x ≤ reachBytes := by
    intro x hx
    have := List.all_eq_true.1 hwt x (by
      show x ∈ DataW.weightsEach Tryd.prog (30 :: 28 :: _) (d0 :: d1 :: _)
      rw [DataW.weightsEach, DataW.weightsEach, List.mem_append, List.mem_append]
      rcases hx with h | h
      · exact .inl h
      · exact .inr (.inl h))
    simpa using this
  have hwalk : Calls Tryd.prog 5 #[v0, v1] W fun e w' => e = .returned (.bool true) ∧ Below W.heap.size W w' := by
    obtain ⟨cs, rfl, hcs⟩ := okWide_struct Tryd.underlying30 (hval 0 30 v0 rfl rfl)
    obtain ⟨a, len, cap, rfl⟩ := okWide_slice Tryd.underlying28 (hval 1 28 v1 rfl rfl)
    obtain ⟨f0, hf0⟩ := h0
    obtain ⟨f1, hf1⟩ := h1
    obtain ⟨T, hT, hS⟩ := open_value f0 _ _ _ hf0 (fun x hx => hwts x (.inl hx))
    obtain ⟨la, lc, ts, e, g1, g2, g3, g4, g5⟩ := open_list_value (fun m _ => open_value m) hf1 (fun x hx => hwts x (.inr hx))
    simp only [Value.cells, List.cons.injEq, and_true] at e
    have hT' : Lies W.heap.size W (.agg cs) T := by simpa [Value.cells] using hT
    rw [e]
    exact logicValues_walk T ts (.agg cs) la lc W hT' g4 g1 g2 (tabs_of_laid hL) hS g5
  refine hwalk.mono ?_
  rintro e W' ⟨rfl, hg⟩
  exact ⟨_, rfl, _, _, _, [], _, [], hW', (trodAll_cons_mk (shut_bool Tryd.underlying4 _) trodAll_mk0), (trodAll_cons_mk (hback0 W' hg) (trodAll_cons_mk (hback1 W' hg) trodAll_mk0)), rfl, hg.frame _, fun h => by cases h⟩

theorem logicValues_said : Rows.LogicValuesSaid :=
  OpenClaim.holds_of_cond 5 Tryd.f5 rfl rfl rfl rfl rfl rfl rfl ⟨rfl, rfl, rfl, rfl, rfl⟩ rfl rfl rfl rfl rfl (by kernel_rfl) Tryd.func5 (by kernel_rfl)
    (of_decide_eq_true (by kernel_rfl)) (by unfold Func.isWrapper; first | (rw [if_pos (by decide +kernel)]; kernel_rfl) | (rw [if_neg (by decide +kernel)]; exact ⟨rfl, rfl⟩))
    (fun os started H enc _ F => by rw [OpenClaim.pre_eq_preRow]; exact logicValues_lifted os started H enc F)

theorem logicValues_plain (f : FuncId) (fn : Func) (hf : Tryd.pinned.checked.prog.funcNamed "lattice/latticelaw02.LogicValues" = some f) (hfn : Tryd.pinned.checked.prog.funcs[f]? = some fn) :
    true = Tryd.pinned.checked.prog.looks [] ∧ ∀ (j : Nat) t, fn.params[j]? = some t → Tryd.pinned.checked.prog.wantsStandIn t = false := by
  obtain rfl : f = 5 := Option.some.inj ((show Tryd.prog.funcNamed "lattice/latticelaw02.LogicValues" = some 5 by kernel_rfl).symm.trans hf) |>.symm
  obtain rfl : fn = Tryd.f5 := (Option.some.inj (Tryd.func5.symm.trans hfn)).symm
  refine ⟨by kernel_rfl, fun j t ht => ?_⟩
  rw [Tryd.params5] at ht
  have hm : t ∈ [30, 28] := by have := Array.mem_of_getElem? ht; simpa using this
  have hall : ([30, 28].all fun u => !Tryd.prog.wantsStandIn u) = true := by kernel_rfl
  exact (show Tryd.prog.wantsStandIn t = false by simpa using List.all_eq_true.1 hall t hm)

/-- The statement. -/
theorem logicValues_proved : Rows.LogicValuesCardSaid :=
  Claim7.holds_tied_plain_at .later [] _ _ _ _ logicValues_said (fun _ h => by cases h) (by kernel_rfl) (fun _ h => by cases h) logicValues_row_tie rfl ⟨rfl, rfl⟩ (by kernel_rfl) rfl logicValues_plain (by kernel_rfl)
#print axioms logicValues_proved
end Go.Proofs.YtbpmhgcjefpigaaDoor
