/- The walk of the law LogicValues. -/
import Derived.Test.YtbpmhgcjefpigaaDoorOfs
import Derived.Deep.RegionWith
namespace Go.Proofs.YtbpmhgcjefpigaaDoor
open Go.RowKit Go.WideShapes Go.Shelf
set_option linter.unusedVariables false

theorem Tryd.info23 : (Tryd.prog.info? 23).map (fun i => (i.zero, i.size, i.bytes)) = some (some (.int .i64 0), 1, 8) := by kernel_rfl

/-- Every value so far is small. -/
def Smalls (ts : List Tree) (p : Nat) : Prop := ∀ (i : Nat) (t : Tree), i < p → ts[i]? = some t → t.total ≤ 1000
theorem Smalls.snoc {ts : List Tree} {p : Nat} {t : Tree} (h : Smalls ts p) (hp : ts[p]? = some t) (ht : t.total ≤ 1000) : Smalls ts (p + 1) := fun i u hi hu => by
  rcases Nat.lt_or_eq_of_le (Nat.le_of_lt_succ hi) with h' | rfl
  · exact h i u h' hu
  · rw [hp] at hu; cases hu; exact ht

/-- The truths so far. -/
def eqRow (T : Tree) (ts : List Tree) (p : Nat) : List Value := ((ts.take p).map (equalN T)).map (Value.int .i64)
theorem map_get {L : List Int} {j : Nat} (hj : j < L.length) : (L.map (Value.int .i64))[j]? = some (.int .i64 (L.getD j 0)) := by
  rw [List.getElem?_map, List.getElem?_eq_getElem hj, List.getD_eq_getElem?_getD, List.getElem?_eq_getElem hj]; rfl

set_option maxHeartbeats 400000 in
theorem values_long (v : Value) (hv : ∃ c0 c1 c2 c3 c4 c5, v = .agg #[c0, c1, c2, c3, c4, c5]) (ad : Option Addr) (len cap : Nat) (w : World) (h : 40 < len) (hm : len ≤ maxLen) :
    Calls Tryd.prog 5 #[v, .slice ad len cap] w fun e w' => e = .returned (.bool true) ∧ Below w.heap.size w w' := by
  unfold maxLen at hm
  obtain ⟨c0, c1, c2, c3, c4, c5, rfl⟩ := hv
  have HB := hidE ((Below.refl w.heap.size w).alloc (Nat.le_refl _) (.cells #[c0, c1, c2, c3, c4, c5] 30))
  have hd : decide (40 < (len : Int)) = true := decide_eq_true (by omega)
  clear h
  go_enter Tryd.func5, Tryd.ntmps5
  go_wp2_with fail
  refine (works_any _).mono ?_; rintro e w' ⟨rfl, hb⟩
  have HB2 := hidE (below_on HB.out hb)
  clear hb HB
  go_wp2_with fail
  go_ret
  exact ⟨rfl, HB2.out⟩

set_option maxRecDepth 100000 in
set_option maxHeartbeats 4000000 in
theorem values_fine (k : Int) (x : Bool) (n : Int) (s : ByteArray) (ks : List ByteArray) (us ts : List Tree) (B : Nat) (v : Value) (la : Option Addr) (lc : Nat) (w : World) (hB : B ≤ w.heap.size) (hv : Lies B w v (.mk k x n s ks us)) (hl : ListLies B w la ts)
    (h1 : ts.length ≤ lc) (h2 : lc ≤ maxLen) (hT : Tabs w) (hS : Sane (.mk k x n s ks us)) (hSL : SaneL ts) (h40 : ts.length ≤ 40) (hck : checkN (.mk k x n s ks us) = 0) :
    Calls Tryd.prog 5 #[v, .slice la ts.length lc] w fun e w' => e = .returned (.bool true) ∧ Below w.heap.size w w' := by
  unfold maxLen at h2
  obtain ⟨i0, hi, hz0, hz1, hz2⟩ := info_parts Tryd.info23
  obtain ⟨T, hTr⟩ : ∃ T, Tree.mk k x n s ks us = T := ⟨_, rfl⟩
  have HLv : Hid (∀ W, Below w.heap.size w W → Lies B W v T) := fun W hb => hTr ▸ hv.below (hb.mono hB)
  have HSm : Hid (∀ W, Below w.heap.size w W → Calls Tryd.prog 25 #[v, .int .i64 1000] W fun e w' => e = .returned (.int .i64 (smallN T 1000)) ∧ Below W.heap.size W w') := fun W hb =>
    small_any T B v 1000 W (Nat.le_trans hB hb.size) (HLv.out W hb) (hTr ▸ hS) (by omega) (by omega)
  have HTB : Hid (∀ W, Below w.heap.size w W → Tabs W) := fun W hb => hT.below hb
  have HST : Hid (Sane T) := hTr ▸ hS
  have HSE : Hid (smallN T 1000 ≤ 1000 → T.total ≤ 1000) := fun h => by have := smallN_eq T 1000 h; omega
  have HCK : Hid (checkN T = 0) := hTr ▸ hck
  have HOF : Hid (T.total ≤ 1000 → ∀ W, Below w.heap.size w W → Calls Tryd.prog 10 #[v] W fun e w' => e = .returned (.tuple #[.int .i64 (ofT k x), .bool (ofB k)]) ∧ Below W.heap.size W w') := fun ht W hb => by
    have h := of_any k x n s ks us B v W (Nat.le_trans hB hb.size) (hTr ▸ HLv.out W hb) (HTB.out W hb) (hTr ▸ modest_small ht)
    rw [hTr, HCK.out] at h; simpa using h
  have HLL : Hid (∀ W, Below w.heap.size w W → ListLies B W la ts) := fun W hb => hl.below (hb.mono hB)
  have HSLH := hidE hSL
  have HIN : Hid (T.total ≤ 1000 → Smalls ts ts.length → ∀ W, Below w.heap.size w W → Calls Tryd.prog 23 #[v, .slice la ts.length lc] W fun e w' => e = .returned (.int .i64 (orL (ts.map (equalN T)))) ∧ Below W.heap.size W w') := fun ht hs W hb =>
    in_any T ts B v la lc W (Nat.le_trans hB hb.size) (HLv.out W hb) (HLL.out W hb) h1 (by unfold maxLen; omega) (HTB.out W hb) (modest_small ht) (fun t hm => by
      obtain ⟨i, hi⟩ := List.mem_iff_getElem?.1 hm
      exact modest_small (hs i t (List.getElem?_eq_some_iff.1 hi).1 hi))
  simp only [Lies] at hv
  obtain ⟨ka, kc, la', lc', rfl, -⟩ := hv
  have HRO : Hid (∀ W, Below w.heap.size w W → Calls Tryd.prog 28 #[.agg #[.int .i64 k, .bool x, .int .i64 n, .string s, .slice ka ks.length kc, .slice la' us.length lc']] W fun e w' => e = .returned (.tuple #[.int .i64 (ofT k x), .bool (ofB k)]) ∧ Below W.heap.size W w') := fun W hb => refof_any _ _ _ _ _ _ _ _ _ _ W
  obtain ⟨o1, ho1⟩ : ∃ o1, ofT k x = o1 := ⟨_, rfl⟩
  obtain ⟨o2, ho2⟩ : ∃ o2, ofB k = o2 := ⟨_, rfl⟩
  rw [ho1, ho2] at HRO HOF
  clear ho1 ho2
  have HCH : Hid (T.total ≤ 1000 → ∀ W, Below w.heap.size w W → Calls Tryd.prog 26 #[.agg #[.int .i64 k, .bool x, .int .i64 n, .string s, .slice ka ks.length kc, .slice la' us.length lc']] W fun e w' => e = .returned (.int .i64 (checkN T)) ∧ Below W.heap.size W w') := fun ht W hb =>
    rcheck_any T B _ W (Nat.le_trans hB hb.size) (HLv.out W hb) HST.out (by omega)
  have HEQ : Hid (∀ (t : Tree) (v' : Value), checkN T = 0 → checkN t = 0 → ∀ W, Below w.heap.size w W → Lies B W v' t → Calls Tryd.prog 27 #[.agg #[.int .i64 k, .bool x, .int .i64 n, .string s, .slice ka ks.length kc, .slice la' us.length lc'], v'] W fun e w' => e = .returned (.int .i64 (eqT T t)) ∧ Below W.heap.size W w') := fun t v' h0 h1 W hb hv' =>
    refeq_any T B _ v' t W (Nat.le_trans hB hb.size) (HLv.out W hb) hv' (known_check h0) (known_check h1)
  clear hTr hl hT hS hSL hck
  obtain ⟨W1, hW1⟩ : ∃ W1, w.alloc (.cells #[.int .i64 k, .bool x, .int .i64 n, .string s, .slice ka ks.length kc, .slice la' us.length lc'] 30) = W1 := ⟨_, rfl⟩
  have HX : Hid (∀ W, Below W1.heap.size W1 W → Below w.heap.size w W ∧ (W.cell? ⟨w.heap.size, 0, none⟩ = some (.int .i64 k) ∧ W.cell? ⟨w.heap.size, 1, none⟩ = some (.bool x) ∧ W.cell? ⟨w.heap.size, 2, none⟩ = some (.int .i64 n) ∧ W.cell? ⟨w.heap.size, 3, none⟩ = some (.string s) ∧ W.cell? ⟨w.heap.size, 4, none⟩ = some (.slice ka ks.length kc) ∧ W.cell? ⟨w.heap.size, 5, none⟩ = some (.slice la' us.length lc'))) := fun W hb => by
    rw [← hW1] at hb
    obtain ⟨h1, h2⟩ := box_cells hb
    exact ⟨h1, h2 0 _ rfl, h2 1 _ rfl, h2 2 _ rfl, h2 3 _ rfl, h2 4 _ rfl, h2 5 _ rfl⟩
  have HW1 := hidE hW1
  have hd : decide (40 < (ts.length : Int)) = false := decide_eq_false (by omega)
  obtain ⟨sm, hsm⟩ : ∃ sm, smallN T 1000 = sm := ⟨_, rfl⟩
  rw [hsm] at HSm HSE
  clear hsm hW1
  go_enter Tryd.func5, Tryd.ntmps5
  go_wp2_with fail
  rw [HW1.out]
  refine (HSm.out W1 (HX.out W1 (Below.refl _ _)).1).mono ?_
  rintro e w2 ⟨rfl, hb2⟩
  obtain ⟨hbw2, q0, q1, q2, q3, q4, q5⟩ := HX.out w2 hb2
  have HB2 := hidE hb2
  have HBW2 := hidE hbw2
  clear hb2 hbw2 HSm HW1
  by_cases hbig : 1000 < sm
  · have d2 : decide (1000 < sm) = true := decide_eq_true hbig
    clear hbig
    go_wp2_with fail
    refine (works_any _).mono ?_; rintro e w' ⟨rfl, hb⟩
    have HB3 := hidE (below_on HBW2.out hb)
    clear hb
    go_wp2_with fail
    go_ret
    exact ⟨rfl, HB3.out⟩
  have d2 : decide (1000 < sm) = false := decide_eq_false hbig
  have HTOT := hidE (HSE.out (by omega))
  clear hbig HSE
  go_wp2_with fail
  refine (HCH.out HTOT.out w2 HBW2.out).mono ?_
  rintro e w3 ⟨rfl, hb3⟩
  have HB3 := hidE (HB2.out.trans (hb3.mono HB2.out.size))
  clear hb3 q0 q1 q2 q3 q4 q5 HB2 HBW2 d2 hd
  obtain ⟨ck, hckk⟩ : ∃ ck, checkN T = ck := ⟨_, rfl⟩
  have HCKE := hidE hckk
  have ec : (ck == 0) = true := by rw [← hckk]; exact beq_iff_eq.2 HCK.out
  rw [hckk]
  clear hckk
  go_wp2_with fail
  go_loopw [7, 6, 8] (fun i u _ wr => ∃ p : Nat, p ≤ ts.length ∧ i = .int .i64 p ∧ wr.ownsRow W1.heap.size 23 1 u p (eqRow T ts p) ∧ Below W1.heap.size W1 wr ∧ Smalls ts p) (fun i _ _ _ => ts.length - (intOf i).toNat)
  case atStart => exact ⟨0, Nat.zero_le _, rfl, ⟨by simp [eqRow], .inl ⟨rfl, rfl⟩⟩, HB3.out, fun i t hi _ => absurd hi (Nat.not_lt_zero _)⟩
  case round =>
    obtain ⟨p, hp, rfl, hown, hbr, hsmall⟩ := hrel
    obtain ⟨hbw, q0, q1, q2, q3, q4, q5⟩ := HX.out wr hbr
    have HO := hidE hown
    have HBR := hidE hbr
    have HBW := hidE hbw
    have HSL := hidE hsmall
    obtain ⟨ua, uc, hu⟩ := ownsRow_slice hown
    subst hu
    clear hown hbr hbw hsmall
    by_cases hlt : p < ts.length
    · obtain ⟨bl, off, rfl, hbl, hkk⟩ := (HLL.out wr HBW.out).resolve_left (by intro e; subst e; simp at hlt)
      obtain ⟨⟨p0, p1, p2, p3, p4, p5⟩, hx⟩ : ∃ t, ts[p]? = some t := ⟨_, List.getElem?_eq_getElem hlt⟩
      obtain ⟨ja, jc, jl, jd, ⟨c0, c1, c2, c3, c4, c5⟩, hlx⟩ := hkk.cells hx
      have hle : B ≤ wr.heap.size := Nat.le_trans hB HBW.out.size
      obtain ⟨t, htr⟩ : ∃ t, Tree.mk p0 p1 p2 p3 p4 p5 = t := ⟨_, rfl⟩
      rw [htr] at hx hlx
      have hsane := HSLH.out.mem (List.mem_of_getElem? hx)
      have HSmE : Hid (∀ W, Below wr.heap.size wr W → Calls Tryd.prog 25 #[.agg #[.int .i64 p0, .bool p1, .int .i64 p2, .string p3, .slice ja p4.length jc, .slice jl p5.length jd], .int .i64 1000] W fun e w' => e = .returned (.int .i64 (smallN t 1000)) ∧ Below W.heap.size W w') := fun W hb =>
        small_any t B _ 1000 W (Nat.le_trans hle hb.size) (hlx.below (hb.mono hle)) hsane (by omega) (by omega)
      have HSEt : Hid (smallN t 1000 ≤ 1000 → t.total ≤ 1000) := fun h => by have := smallN_eq t 1000 h; omega
      have HChE : Hid (t.total ≤ 1000 → ∀ W, Below wr.heap.size wr W → Calls Tryd.prog 26 #[.agg #[.int .i64 p0, .bool p1, .int .i64 p2, .string p3, .slice ja p4.length jc, .slice jl p5.length jd]] W fun e w' => e = .returned (.int .i64 (checkN t)) ∧ Below W.heap.size W w') := fun ht W hb =>
        rcheck_any t B _ W (Nat.le_trans hle hb.size) (hlx.below (hb.mono hle)) hsane (by omega)
      have HLx : Hid (∀ W, Below wr.heap.size wr W → Lies B W (.agg #[.int .i64 p0, .bool p1, .int .i64 p2, .string p3, .slice ja p4.length jc, .slice jl p5.length jd]) t) := fun W hb => hlx.below (hb.mono hle)
      have HXT := hidE hx
      have HTK : Hid (eqRow T ts (p + 1) = eqRow T ts p ++ [.int .i64 (equalN T t)]) := by
        show _ = _
        unfold eqRow
        rw [take_snoc hx]; simp
      obtain ⟨st, hst⟩ : ∃ st, smallN t 1000 = st := ⟨_, rfl⟩
      rw [hst] at HSmE HSEt
      clear hkk hlx hx hsane hst htr hle
      go_wp2_with fail
      refine (HSmE.out wr (Below.refl _ _)).mono ?_
      rintro e w4 ⟨rfl, hb4⟩
      have HB4 := hidE hb4
      have HBR4 := hidE (HBR.out.trans (hb4.mono HBR.out.size))
      clear hb4 HSmE
      by_cases hbig : 1000 < st
      · have d3 : decide (1000 < st) = true := decide_eq_true hbig
        clear hbig c0 c1 c2 c3 c4 c5 q0 q1 q2 q3 q4 q5
        go_wp2_with fail
        refine (works_any _).mono ?_; rintro e w' ⟨rfl, hb⟩
        have HB5 := hidE (below_on (HX.out w4 HBR4.out).1 hb)
        clear hb
        go_wp2_with fail
        go_ret
        exact ⟨rfl, HB5.out⟩
      have d3 : decide (1000 < st) = false := decide_eq_false hbig
      have HTt := hidE (HSEt.out (by omega))
      clear hbig HSEt
      have e0 := cell_below HB4.out (Nat.le_refl _) c0
      have e1 := cell_below HB4.out (Nat.le_refl _) c1
      have e2 := cell_below HB4.out (Nat.le_refl _) c2
      have e3 := cell_below HB4.out (Nat.le_refl _) c3
      have e4 := cell_below HB4.out (Nat.le_refl _) c4
      have e5 := cell_below HB4.out (Nat.le_refl _) c5
      have HCC := hidE (And.intro c0 (And.intro c1 (And.intro c2 (And.intro c3 (And.intro c4 c5)))))
      clear c0 c1 c2 c3 c4 c5 q0 q1 q2 q3 q4 q5
      go_wp2_with fail
      refine (HChE.out HTt.out w4 HB4.out).mono ?_
      rintro e w5 ⟨rfl, hb5⟩
      have HB5 := hidE (HB4.out.trans (hb5.mono HB4.out.size))
      have HBR5 := hidE (HBR4.out.trans (hb5.mono HBR4.out.size))
      clear hb5 e0 e1 e2 e3 e4 e5 HChE
      obtain ⟨ct, hct⟩ : ∃ ct, checkN t = ct := ⟨_, rfl⟩
      rw [hct]
      have HCT := hidE hct
      clear hct
      by_cases hz : ct = 0
      · have et : (ct == 0) = true := beq_iff_eq.2 hz
        have HCT0 : Hid (checkN t = 0) := HCT.out.trans hz
        have HQ : Hid (equalN T t = eqT T t) := by show _ = _; unfold equalN; rw [if_pos ⟨HCK.out, HCT0.out⟩]
        clear hz HCT
        obtain ⟨qv, hqv⟩ : ∃ qv, eqT T t = qv := ⟨_, rfl⟩
        have HQV : Hid (equalN T t = qv) := HQ.out.trans hqv
        go_upto_region 12 with fail
        show (Code.region 12 RV12 true).wp _ _ _ _
        refine regionV12 w.heap.size bl off ts.length lc p k x n s ka ks.length kc la' us.length lc' p0 p1 p2 p3 ja p4.length jc jl p5.length jd qv _ _ _ rfl ⟨rfl, rfl, rfl⟩ (fun W hb => ?_) ?_
        · obtain ⟨hbx, k0, k1, k2, k3, k4, k5⟩ := HX.out W (HBR5.out.trans (hb.mono HBR5.out.size))
          have hbb := HB5.out.trans (hb.mono HB5.out.size)
          exact ⟨k0, k1, k2, k3, k4, k5, cell_below hbb (Nat.le_refl _) HCC.out.1, cell_below hbb (Nat.le_refl _) HCC.out.2.1, cell_below hbb (Nat.le_refl _) HCC.out.2.2.1, cell_below hbb (Nat.le_refl _) HCC.out.2.2.2.1, cell_below hbb (Nat.le_refl _) HCC.out.2.2.2.2.1, cell_below hbb (Nat.le_refl _) HCC.out.2.2.2.2.2, hlt, by omega, hqv ▸ HEQ.out t _ HCK.out HCT0.out W hbx (HLx.out W hbb)⟩
        · intro c w6 hS hb6 he
          have hl : c = ⟨#[Value.agg #[Value.int IntKind.i64 k, Value.bool x, Value.int IntKind.i64 n, Value.string s, Value.slice ka ks.length kc, Value.slice la' us.length lc'], Value.slice (some { block := bl, off := off }) ts.length lc, Value.pointer (some { block := w.heap.size, off := 0 }), undef, u4, Value.bool true, Value.slice ua p uc, Value.int IntKind.i64 ↑p, c.eval (.tmp 8), undef, undef, undef, undef, Value.slice (some { block := bl, off := off }) ts.length lc, Value.int IntKind.i64 ↑ts.length, Value.bool false, Value.bool false, Value.agg #[Value.int IntKind.i64 k, Value.bool x, Value.int IntKind.i64 n, Value.string s, Value.slice ka ks.length kc, Value.slice la' us.length lc'], Value.int IntKind.i64 sm, Value.bool false, Value.bool false, undef, Value.agg #[Value.int IntKind.i64 k, Value.bool x, Value.int IntKind.i64 n, Value.string s, Value.slice ka ks.length kc, Value.slice la' us.length lc'], Value.int IntKind.i64 ck, Value.bool true, Value.int IntKind.i64 ↑p, Value.slice (some { block := bl, off := off }) ts.length lc, Value.int IntKind.i64 ↑ts.length, Value.bool true, u29, u30, Value.slice (some { block := bl, off := off }) ts.length lc, Value.int IntKind.i64 ↑p, Value.pointer (some { block := bl, off := off + p * 6 }), Value.agg #[Value.int IntKind.i64 p0, Value.bool p1, Value.int IntKind.i64 p2, Value.string p3, Value.slice ja p4.length jc, Value.slice jl p5.length jd], Value.int IntKind.i64 st, Value.bool false, u37, Value.bool true, Value.bool true, Value.slice (some { block := bl, off := off }) ts.length lc, Value.int IntKind.i64 ↑p, Value.pointer (some { block := bl, off := off + p * 6 }), Value.agg #[Value.int IntKind.i64 p0, Value.bool p1, Value.int IntKind.i64 p2, Value.string p3, Value.slice ja p4.length jc, Value.slice jl p5.length jd], Value.int IntKind.i64 ct, Value.bool true, Value.bool true, c.eval (.tmp 47), c.eval (.tmp 48), c.eval (.tmp 49), c.eval (.tmp 50), c.eval (.tmp 51), c.eval (.tmp 52), u53, u54, u55, u56, undef, undef, undef, undef, undef, undef, undef, undef, undef, undef, undef, undef, undef, undef, undef, undef, undef, undef, undef, undef, undef, undef, undef, undef, undef, undef, undef, undef, undef, undef], []⟩ := (same_lay hS).trans (by kernel_rfl)
          rw [he] at hl
          generalize c.eval (.tmp 47) = y47 at hl
          generalize c.eval (.tmp 48) = y48 at hl
          generalize c.eval (.tmp 49) = y49 at hl
          generalize c.eval (.tmp 50) = y50 at hl
          generalize c.eval (.tmp 51) = y51 at hl
          generalize c.eval (.tmp 52) = y52 at hl
          clear hS he
          subst hl
          have HB6 := hidE (HB5.out.trans (hb6.mono HB5.out.size))
          have HBR6 := hidE (HBR5.out.trans (hb6.mono HBR5.out.size))
          clear hb6 HB5 HBR5 HCC hqv
          have HOW := hidE (ownsRow_on HO.out (HB6.out))
          go_wp2_with (first
            | (at_builtin; refine wpList_append_own _ rfl _ _ 22 rfl W1.heap.size 23 i0 (.int .i64 0) 1 8 Tryd.underlying22 hi hz0 hz1 hz2 rfl (by decide) _ _ _ rfl (HOW.out.alloc _) ⟨w6.heap.size, 0, none⟩ 1 1 [.int .i64 qv] rfl rfl ?a1 ?a2 ?a3 ?a4 ?a5 ?_)
            | fail)
          case a1 => first | exact cell_one_new _ _ _ | (intro j u hj; match j, hj with | 0, hj => simp at hj; subst hj; simp [Addr.add, go_sem])
          case a2 => intro u hu; simp at hu; subst hu; rfl
          case a3 => unfold maxLen; omega
          case a4 => omega
          case a5 => have := (HBR6.out).size; simp; omega
          intro v2 w9 hown2 hgrow2 _
          have hb9 : Below W1.heap.size W1 w9 := ((HBR6.out).alloc (HBR6.out).size _).grown hgrow2 (by have := (HBR6.out).size; simp; omega) (fun j hj => by have := (HOW.out.lt j hj).1; omega)
          have HO2 : Hid (w9.ownsRow W1.heap.size 23 1 v2 (p + 1) (eqRow T ts (p + 1))) := by
            show w9.ownsRow _ _ _ _ _ _
            rw [HTK.out, HQV.out]; exact hown2
          have HB9 := hidE hb9
          obtain ⟨va, vc, hv2⟩ := ownsRow_slice hown2
          subst hv2
          clear hown2 hgrow2 hb9 HO HOW
          go_wp2_with fail
          go_roundw
          case rel => exact ⟨p + 1, by omega, by go_num, HO2.out, HB9.out, HSL.out.snoc HXT.out HTt.out⟩
          case measure => simp [intOf]; omega
      · have et : (ct == 0) = false := beq_eq_false_iff_ne.2 hz
        have HQV : Hid (equalN T t = 1) := by show _ = _; unfold equalN; rw [if_neg (fun h => hz (HCT.out.symm.trans h.2))]
        clear hz HCT
        have HOW := hidE (ownsRow_on HO.out (HB5.out))
        go_wp2_with (first
          | (at_builtin; refine wpList_append_own _ rfl _ _ 22 rfl W1.heap.size 23 i0 (.int .i64 0) 1 8 Tryd.underlying22 hi hz0 hz1 hz2 rfl (by decide) _ _ _ rfl (HOW.out.alloc _) ⟨w5.heap.size, 0, none⟩ 1 1 [.int .i64 1] rfl rfl ?b1 ?b2 ?b3 ?b4 ?b5 ?_)
          | fail)
        case b1 => first | exact cell_one_new _ _ _ | (intro j u hj; match j, hj with | 0, hj => simp at hj; subst hj; simp [Addr.add, go_sem])
        case b2 => intro u hu; simp at hu; subst hu; rfl
        case b3 => unfold maxLen; omega
        case b4 => omega
        case b5 => have := (HBR5.out).size; simp; omega
        intro v2 w9 hown2 hgrow2 _
        have hb9 : Below W1.heap.size W1 w9 := ((HBR5.out).alloc (HBR5.out).size _).grown hgrow2 (by have := (HBR5.out).size; simp; omega) (fun j hj => by have := (HOW.out.lt j hj).1; omega)
        have HO2 : Hid (w9.ownsRow W1.heap.size 23 1 v2 (p + 1) (eqRow T ts (p + 1))) := by
          show w9.ownsRow _ _ _ _ _ _
          rw [HTK.out, HQV.out]; exact hown2
        have HB9 := hidE hb9
        obtain ⟨va, vc, hv2⟩ := ownsRow_slice hown2
        subst hv2
        clear hown2 hgrow2 hb9 HO HOW
        go_wp2_with fail
        go_roundw
        case rel => exact ⟨p + 1, by omega, by go_num, HO2.out, HB9.out, HSL.out.snoc HXT.out HTt.out⟩
        case measure => simp [intOf]; omega
    · have HPT : Hid (p = ts.length) := by show _ = _; omega
      have HSALL : Hid (Smalls ts ts.length) := HPT.out ▸ HSL.out
      have HOA : Hid (wr.ownsRow W1.heap.size 23 1 (.slice ua p uc) p ((ts.map (equalN T)).map (Value.int .i64))) := by
        have := HO.out
        unfold eqRow at this
        rwa [List.take_of_length_le (show ts.length ≤ p by omega)] at this
      have HOR : Hid (∀ W, Below wr.heap.size wr W → Calls Tryd.prog 12 #[.slice ua p uc] W fun e w' => e = .returned (.int .i64 (orL (ts.map (equalN T)))) ∧ w' = W) := fun W hb => by
        have hlen := HPT.out
        have ho := HOA.out
        by_cases h0 : ts.length = 0
        · have : ts = [] := List.eq_nil_of_length_eq_zero h0
          subst this
          have e0 : p = 0 := by simpa using hlen
          rw [e0]
          exact ror_zero ua uc W
        · obtain ⟨_, ⟨_, e1⟩ | ⟨g, cap, cur, e2, _, _, _, _, _, _⟩⟩ := HOA.out
          · omega
          · simp only [Value.slice.injEq, true_and] at e2
            obtain ⟨rfl, rfl⟩ := e2
            have hm : p = (ts.map (equalN T)).length := by simp; omega
            have key := ror_any g 0 uc (ts.map (equalN T)) W (by rw [← hm]; omega) (fun j hj => by
              have hc := ho.cells (g := g) rfl j (.int .i64 ((ts.map (equalN T)).getD j 0)) (map_get hj)
              rw [add_plain] at hc
              exact cell_below hb (Nat.le_refl _) hc)
            rw [← hm] at key
            exact key
      have HINA := hidE (HIN.out HTOT.out HSALL.out)
      obtain ⟨ol, hol⟩ : ∃ ol, orL (ts.map (equalN T)) = ol := ⟨_, rfl⟩
      rw [hol] at HOR HINA
      have HOFA := hidE (HOF.out HTOT.out)
      clear hol HIN HOF HO HOA HSL
      go_wp2_with fail
      refine (HOFA.out wr HBW.out).mono ?_
      rintro e w5 ⟨rfl, hb5⟩
      have HB5 := hidE hb5
      have HBR5 := hidE (HBR.out.trans (hb5.mono HBR.out.size))
      obtain ⟨hbw5, k0, k1, k2, k3, k4, k5⟩ := HX.out w5 HBR5.out
      have HBW5 := hidE hbw5
      clear hb5 hbw5 q0 q1 q2 q3 q4 q5
      go_wp2_with fail
      refine (HRO.out _ HBW5.out).mono ?_
      rintro e w6 ⟨rfl, hb6⟩
      have HB6 := hidE (HB5.out.trans (hb6.mono HB5.out.size))
      have HBR6 := hidE (HBR5.out.trans (hb6.mono HBR5.out.size))
      clear k0 k1 k2 k3 k4 k5 hb6
      obtain ⟨hbw6, k0, k1, k2, k3, k4, k5⟩ := HX.out w6 HBR6.out
      have HBW6 := hidE hbw6
      clear hbw6
      go_wp2_with fail
      refine (HINA.out _ HBW6.out).mono ?_
      rintro e w7 ⟨rfl, hb7⟩
      have HB7 := hidE (HB6.out.trans (hb7.mono HB6.out.size))
      have HBW7 := hidE (below_on HBW6.out hb7)
      clear hb7 k0 k1 k2 k3 k4 k5
      go_wp2_with fail
      refine (HOR.out _ HB7.out).mono ?_
      rintro e w8 ⟨rfl, rfl⟩
      go_wp2_with fail
      refine (works_any _).mono ?_; rintro e w' ⟨rfl, hb⟩
      have HB9 := hidE (below_on HBW7.out hb)
      clear hb
      go_wp2_with fail
      go_ret
      exact ⟨rfl, HB9.out⟩
end Go.Proofs.YtbpmhgcjefpigaaDoor
