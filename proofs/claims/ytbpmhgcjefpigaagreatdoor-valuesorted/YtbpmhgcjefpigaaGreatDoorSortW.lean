/- ValueSorted, walked. -/
import Derived.Test.YtbpmhgcjefpigaaGreatDoorJoin10
import Derived.Test.YtbpmhgcjefpigaaGreatDoorJoin5
import Derived.Test.YtbpmhgcjefpigaaGreatDoorJoin11
import Derived.Test.YtbpmhgcjefpigaaGreatDoorWalked
import Derived.Test.YtbpmhgcjefpigaaGreatDoorSort24t
import Derived.Test.YtbpmhgcjefpigaaGreatDoorSort24f
import Derived.Test.YtbpmhgcjefpigaaGreatDoorJoin17
import Derived.Test.YtbpmhgcjefpigaaGreatDoorJoin18
namespace Go.Proofs.YtbpmhgcjefpigaaGreatDoor
open Go.RowKit Go.Shelf Go.Lib
set_option linter.unusedVariables false
set_option linter.unusedSimpArgs false
/-- How many values of a list are the same as one. -/
def sameN (ts : List Tree) (s : Tree) : Nat := ts.countP fun t => sameB t s
theorem sameN_take {ts : List Tree} {j : Nat} {t : Tree} (s : Tree) (h : ts[j]? = some t) : sameN (ts.take (j + 1)) s = sameN (ts.take j) s + if sameB t s = true then 1 else 0 := by
  unfold sameN
  rw [List.take_add_one, h]
  simp [List.countP_append, List.countP_cons]
theorem sameN_perm {ts us : List Tree} (h : us.Perm ts) (s : Tree) : sameN us s = sameN ts s := h.countP_eq _
theorem sameN_pos {ts : List Tree} {s : Tree} (h : s ∈ ts) (hs : sameB s s = true) : 0 < sameN ts s := List.countP_pos_iff.2 ⟨s, h, hs⟩
theorem sameN_len (ts : List Tree) (s : Tree) : sameN ts s ≤ ts.length := List.countP_le_length
theorem turned_step {ts : List Tree} {r : Nat} {t : Tree} (h : ts[r]? = some t) : (ts.drop r).reverse = (ts.drop (r + 1)).reverse ++ [t] := by
  obtain ⟨h1, rfl⟩ := List.getElem?_eq_some_iff.1 h
  rw [List.drop_eq_getElem_cons h1, List.reverse_cons]
/-- What stands behind a round of the first loop. -/
structure TurnAt (w0 : World) (D : Nat) (ts : List Tree) (r : Nat) (o : Value) (wr : World) : Prop where
  row : ∃ xs, wr.ownsRow w0.heap.size 26 6 o (ts.length - r) xs ∧ RowL D wr xs (ts.drop r).reverse
  ok : ∀ t ∈ ts.drop r, checkN t = 0
  below : Below w0.heap.size w0 wr
theorem compN_fine {A B : Tree} (hA : checkN A = 0) (hB : checkN B = 0) : compN A B = ordT A B := by
  unfold compN
  simp [hA, hB]
set_option maxRecDepth 100000 in
set_option maxHeartbeats 8000000 in
theorem sorted_law (ts : List Tree) (D : Nat) (la : Option Addr) (lc : Nat) (w : World) (hD : D ≤ w.heap.size) (hL : ListLies D w la ts) (h1 : ts.length ≤ lc) (h2 : lc ≤ maxLen) (sT : SaneL ts) (rT : ∀ t ∈ ts, Ranged t) (hT : Tabs w)
    (hP : TabBelow Tryz.prog w.heap.size w "internal/strconv.uint64pow10" .u64 pow10Tab) (hM : ML w) (hw2 : 2 < w.heap.size) : Calls Tryz.prog 14 #[.slice la ts.length lc] w fun e w' => e = .returned (.bool true) ∧ Below w.heap.size w w' := by
  have HWK : Hid (∀ w', Below w.heap.size w w' → Calls Tryz.prog 16 #[] w' fun e w2 => e = .returned (.bool true) ∧ Below w'.heap.size w' w2) := fun w' hb => works_any w' (hT.below hb) (fun w2 h => hP w2 (hb.trans (h.mono hb.size)))
  have HLA : Hid (∀ w', Below w.heap.size w w' → ListLies D w' la ts ∧ D ≤ w'.heap.size ∧ Tabs w') := fun w' hb => ⟨hL.below (hb.mono hD), Nat.le_trans hD hb.size, hT.below hb⟩
  have HP2 : Hid (∀ w', Below w.heap.size w w' → TabBelow Tryz.prog w'.heap.size w' "internal/strconv.uint64pow10" .u64 pow10Tab ∧ ML w' ∧ 2 < w'.heap.size) := fun w' hb => by
    obtain ⟨m, hm⟩ := hM
    exact ⟨fun w2 h => hP w2 (hb.trans (h.mono hb.size)), ⟨m, (hb.cell (p := ⟨2, 0, none⟩) hw2).trans hm⟩, Nat.lt_of_lt_of_le hw2 hb.size⟩
  have HM := hidE h2
  have HS := hidE (And.intro sT rT)
  unfold maxLen at h2
  clear hT hP hL sT rT hM hw2
  go_enter Tryz.func14, Tryz.ntmps14
  by_cases hla : 60 < ts.length
  · have hla' : (60 : Int) < ts.length := by omega
    go_wp2_with fail
    refine (HWK.out w (Below.refl _ _)).mono ?_
    rintro e w1 ⟨rfl, hb1⟩
    have HB1 := hidE hb1
    clear hb1
    go_wp2_with fail
    go_ret
    exact ⟨rfl, HB1.out⟩
  have hla' : ¬ (60 : Int) < ts.length := by omega
  have HSM := hidE (smalls_any ts D la lc w hD (HLA.out w (Below.refl _ _)).1 h1 HM.out (fun t ht => HS.out.1.mem ht))
  go_wp2_with fail
  refine HSM.out.mono ?_
  rintro e w0 ⟨rfl, hb0⟩
  have HB0 := hidE hb0
  clear hb0 HSM
  by_cases hsm : smalls ts ≤ 2000
  rotate_left
  · have hd : decide (smalls ts ≤ 2000) = false := by simp [hsm]
    rw [hd]
    clear hsm hd
    go_wp2_with fail
    refine (HWK.out w0 HB0.out).mono ?_
    rintro e w1 ⟨rfl, hb1⟩
    have HB1 : Hid (Below w.heap.size w w1) := below_on HB0.out hb1
    clear hb1
    go_wp2_with fail
    go_ret
    exact ⟨rfl, HB1.out⟩
  have HTOT := hidE (small_total hsm)
  have hd : decide (smalls ts ≤ 2000) = true := by simp [hsm]
  rw [hd]
  clear hsm hd
  have HMA : Hid (∀ t ∈ ts, Modest t ∧ Ranged t ∧ t.total ≤ 800000) := fun t ht => ⟨modest_total (HTOT.out t ht), HS.out.2 t ht, by have := HTOT.out t ht; omega⟩
  have HTL : Hid (Tree.totalL ts ≤ 1000000) := totalL_small HTOT.out (by omega)
  clear HTOT
  go_wp2_with fail
  go_loopw [4, 3] (fun i o wr => ∃ r : Nat, r ≤ ts.length ∧ i = .int .i64 ((r : Int) - 1) ∧ TurnAt w0 D ts r o wr) (fun i _ _ => (intOf i + 1).toNat)
  case atStart => exact ⟨ts.length, Nat.le_refl _, by go_num, ⟨[], by rw [Nat.sub_self]; exact World.ownsRow_nil _ _ _ _, by simp; exact .nil⟩, by simp, Below.refl _ _⟩
  case round =>
    obtain ⟨r, hr, rfl, hgo⟩ := hrel
    obtain ⟨w4, rfl⟩ : ∃ x, x = wr := ⟨_, rfl⟩
    have HGO := hidE hgo
    have HB4 : Hid (Below w.heap.size w w4) := below_on HB0.out hgo.below
    clear hgo
    cases r with
    | succ r =>
      have er : (((r + 1 : Nat) : Int) - 1) = (r : Int) := by omega
      rw [er]
      clear er
      obtain ⟨t, hx⟩ : ∃ t, ts[r]? = some t := ⟨_, List.getElem?_eq_getElem (by omega)⟩
      obtain ⟨bl, off, rfl, hbl, hkl⟩ := (HLA.out w4 HB4.out).1.resolve_left (by intro e; rw [e] at hr; simp at hr)
      have hmt := HMA.out t (List.mem_of_getElem? hx)
      obtain ⟨k, b, nn, s, ks, us⟩ := t
      obtain ⟨ja, jc, jl, jd, ⟨c0, c1, c2, c3, c4, c5⟩, hlx⟩ := hkl.cells hx
      have HCK := hidE (check_any _ _ w4 (hlx.mono (HLA.out w4 HB4.out).2.1) (HLA.out w4 HB4.out).2.2 hmt.1.1 hmt.1.2)
      obtain ⟨cn, hcn⟩ : ∃ x, checkN (.mk k b nn s ks us) = x := ⟨_, rfl⟩
      rw [hcn] at HCK
      have HX := hidE (And.intro hx (And.intro hcn (And.intro hbl hlx)))
      have hrl : r < ts.length := by omega
      clear hx hkl hlx hmt hbl hcn hr
      go_wp2_with fail
      refine HCK.out.mono ?_
      rintro e w5 ⟨rfl, hb5⟩
      have HB5 := hidE hb5
      clear hb5
      go_wp2_with fail
      refine (num_any cn w5).mono ?_
      rintro e w6 ⟨rfl, hb6⟩
      have HB6 : Hid (Below w4.heap.size w4 w6) := below_on HB5.out hb6
      clear hb6
      by_cases hc0 : cn = 0
      rotate_left
      · have hc' : (cn != 0) = true := by simp [hc0]
        clear c0 c1 c2 c3 c4 c5
        go_wp2_with fail
        refine (HWK.out w6 (below_on HB4.out HB6.out)).mono ?_
        rintro e w7 ⟨rfl, hb7⟩
        have HB7 : Hid (Below w.heap.size w w7) := below_on (below_on HB4.out HB6.out) hb7
        clear hb7
        go_wp2_with fail
        go_ret
        exact ⟨rfl, HB7.out⟩
      have hc' : (cn != 0) = false := by simp [hc0]
      have HC0 := hidE hc0
      have hbls : bl < w4.heap.size := lt_of_cell c0
      replace c0 := (HB6.out.cell (p := ⟨bl, _, none⟩) hbls).trans c0
      replace c1 := (HB6.out.cell (p := ⟨bl, _, none⟩) hbls).trans c1
      replace c2 := (HB6.out.cell (p := ⟨bl, _, none⟩) hbls).trans c2
      replace c3 := (HB6.out.cell (p := ⟨bl, _, none⟩) hbls).trans c3
      replace c4 := (HB6.out.cell (p := ⟨bl, _, none⟩) hbls).trans c4
      replace c5 := (HB6.out.cell (p := ⟨bl, _, none⟩) hbls).trans c5
      obtain ⟨xs, r1, r2⟩ := HGO.out.row
      obtain ⟨W7, hW7⟩ : ∃ W7, w6.alloc (.cells #[.int .i64 k, .bool b, .int .i64 nn, .string s, .slice ja ks.length jc, .slice jl us.length jd] 26) = W7 := ⟨_, rfl⟩
      have hb67 : Below w6.heap.size w6 W7 := hW7 ▸ (Below.refl _ _).alloc (Nat.le_refl _) _
      have hb47 : Below w4.heap.size w4 W7 := below_on HB6.out hb67
      have r17 := own_keep r1 hb47
      have hc7 : ∀ i u, ([.int .i64 k, .bool b, .int .i64 nn, .string s, .slice ja ks.length jc, .slice jl us.length jd] : List Value)[i]? = some u → W7.cell? ((⟨w6.heap.size, 0, none⟩ : Addr).add i) = some u := fun i u hi => by
        rw [← hW7, Lib.add_plain, Nat.zero_add]
        exact cell_new _ _ _ _ _ (by simpa using hi)
      have hone : ∀ u ∈ ([.int .i64 k, .bool b, .int .i64 nn, .string s, .slice ja ks.length jc, .slice jl us.length jd] : List Value), u.oneCell' = true := by
        intro u hu
        simp only [List.mem_cons, List.not_mem_nil, or_false] at hu
        rcases hu with rfl | rfl | rfl | rfl | rfl | rfl <;> rfl
      have h07 : w0.heap.size ≤ W7.heap.size := Nat.le_trans HGO.out.below.size hb47.size
      have HW7 := hidE hW7
      have H7 := hidE (And.intro hb47 r2)
      clear hb67 hb47 hW7 r1 r2 hc0 hbls
      go_wp2_with (at_builtin; rw [HW7.out]; refine append_six W7 rfl _ _ rfl w0.heap.size _ u3 xs rfl r17 ⟨w6.heap.size, 0, none⟩ _ rfl rfl hc7 hone (by omega) h07 ?_; intro v8 w8 ho8 hg8 hp8)
      have HNEW : Hid (TurnAt w0 D ts r v8 w8) := by
        obtain ⟨hx, hcn, hbl, hlx⟩ := HX.out
        obtain ⟨hb47, r2⟩ := H7.out
        have hD4 : D ≤ w4.heap.size := (HLA.out w4 HB4.out).2.1
        have hD0 : D ≤ w0.heap.size := (HLA.out w0 HB0.out).2.1
        have hb78 : Below w0.heap.size W7 w8 := (Below.refl _ _).grown hg8 h07 fun q hq => (r17.lt q hq).1
        have hb48 : Below w0.heap.size w4 w8 := (hb47.mono HGO.out.below.size).trans hb78
        refine ⟨⟨_, by rw [show ts.length - r = ts.length - (r + 1) + 1 by omega]; exact ho8, ?_⟩, fun u hu => ?_, HGO.out.below.trans hb48⟩
        · rw [turned_step hx]
          exact (r2.stay (hb48.mono hD0)).append (.cons (hlx.below (hb48.mono hD0)) .nil)
        · obtain ⟨h1, h2⟩ := List.getElem?_eq_some_iff.1 hx
          rw [List.drop_eq_getElem_cons h1, h2] at hu
          rcases List.mem_cons.1 hu with g | g
          · rw [g, hcn]; exact HC0.out
          · exact HGO.out.ok u g
      clear ho8 hg8 hp8 r17 hc7 hone h07 H7 HX c0 c1 c2 c3 c4 c5
      go_roundw
      case rel => exact ⟨r, by omega, by go_num, HNEW.out⟩
      case measure => first | (simp [intOf]; done) | (simp [intOf]; omega)
    | zero =>
      have er : (((0 : Nat) : Int) - 1) = -1 := by omega
      rw [er]
      clear er
      have HCH : Hid (∀ t ∈ ts, checkN t = 0) := by have := HGO.out.ok; rwa [List.drop_zero] at this
      obtain ⟨xs, r1, r2⟩ := HGO.out.row
      rw [List.drop_zero] at r2
      obtain ⟨ad, cap, rfl, hc1, hc2, hlt⟩ := owned_lies r1 (by simp) r2 (HLA.out w4 HB4.out).2.1
      have hlr : (ts.reverse).length = ts.length := by simp
      have HSA := hidE (sorted_any ts D la lc w4 (HLA.out w4 HB4.out).2.1 (HLA.out w4 HB4.out).1 h1 HM.out HTL.out (HLA.out w4 HB4.out).2.2 (fun t ht => (HMA.out t ht).1))
      have HSB : Hid (∀ w5, Below w4.heap.size w4 w5 → Calls Tryz.prog 46 #[.slice ad ts.length cap] w5 fun e w' => SortedTo ts.reverse w5.heap.size e w' ∧ Below w5.heap.size w5 w') := fun w5 hb => by
        have := sorted_any ts.reverse w4.heap.size ad cap w5 hb.size (hlt.below hb) hc1 hc2 (by rw [totalL_turned]; exact HTL.out) (HLA.out w5 (below_on HB4.out hb)).2.2 (fun t ht => (HMA.out t (by simpa using ht)).1)
        rwa [hlr] at this
      clear r1 r2 hc1 hc2 hlt
      go_wp2_with fail
      refine HSA.out.mono ?_
      rintro e w5 ⟨hsd, hb5⟩
      have HB5 := hidE hb5
      obtain ⟨la1, lc1, es1, rfl, ⟨q1, q2⟩, hes1, hcr1⟩ : ∃ la lc es, e = .returned (.slice la ts.length lc) ∧ (ts.length ≤ lc ∧ lc ≤ maxLen) ∧ es.map Ent.t = srtL ts ∧ CopyRow w4.heap.size w5 la es := by
        rcases hsd with ⟨-, h⟩ | ⟨h, -⟩
        · exact h
        · exact absurd HCH.out h
      have HLS1 : Hid (ListLies w5.heap.size w5 la1 (srtL ts) ∧ ts.length ≤ lc1 ∧ lc1 ≤ maxLen) := ⟨hes1 ▸ hcr1.lies (Nat.le_refl _), q1, q2⟩
      clear hb5 hsd hes1 hcr1 HSA q1 q2
      go_wp2_with fail
      refine (HSB.out w5 HB5.out).mono ?_
      rintro e w6 ⟨hsd, hb6⟩
      have HB6 := hidE hb6
      obtain ⟨la2, lc2, es2, rfl, ⟨q1, q2⟩, hes2, hcr2⟩ : ∃ la lc es, e = .returned (.slice la ts.reverse.length lc) ∧ (ts.reverse.length ≤ lc ∧ lc ≤ maxLen) ∧ es.map Ent.t = srtL ts.reverse ∧ CopyRow w5.heap.size w6 la es := by
        rcases hsd with ⟨-, h⟩ | ⟨h, -⟩
        · exact h
        · exact absurd (fun t ht => HCH.out t (by simpa using ht)) h
      have HLS2 : Hid (ListLies w6.heap.size w6 la2 (srtL ts) ∧ ts.length ≤ lc2 ∧ lc2 ≤ maxLen) := ⟨by
        rw [← srtL_turned HCH.out, ← hes2]; exact hcr2.lies (Nat.le_refl _), by rw [← hlr]; exact q1, q2⟩
      rw [hlr]
      clear hb6 hsd hes2 hcr2 HSB q1 q2 hlr
      have HB6w : Hid (Below w.heap.size w w6) := below_on (below_on HB4.out HB5.out) HB6.out
      have HSL := hidE (srtL_length ts)
      have HSC := hidE (srtL_check HCH.out)
      have HSP := hidE (srtL_perm ts)
      have HSS := hidE (srtL_sorted (ts := ts) fun t ht => known_check (HCH.out t ht))
      have HMS : Hid (∀ t ∈ srtL ts, Modest t ∧ Ranged t ∧ t.total ≤ 800000) := fun t ht => HMA.out t (HSP.out.subset ht)
      have HLL : Hid (∀ W, Below w6.heap.size w6 W → Below w.heap.size w W ∧ ListLies D W la ts ∧ ListLies w6.heap.size W la1 (srtL ts) ∧ ListLies w6.heap.size W la2 (srtL ts) ∧ Tabs W ∧ D ≤ w6.heap.size) := fun W hb =>
        ⟨below_on HB6w.out hb, (HLA.out W (below_on HB6w.out hb)).1, ((HLS1.out.1.below HB6.out).grows HB6.out.size).below hb, HLS2.out.1.below hb, (HLA.out W (below_on HB6w.out hb)).2.2, (HLA.out w6 HB6w.out).2.1⟩
      obtain ⟨S, hS⟩ : ∃ S, srtL ts = S := ⟨_, rfl⟩
      rw [hS] at HSL HSC HSP HSS HMS HLL HLS1 HLS2
      have HHS := hidE hS
      clear hS
      have hq1 : ts.length ≤ lc1 := HLS1.out.2.1
      have hq2 : ts.length ≤ lc2 := HLS2.out.2.1
      go_wp2_with fail
      go_loopw [7] (fun i wr => ∃ j : Nat, j ≤ ts.length ∧ i = .int .i64 j ∧ Below w6.heap.size w6 wr) (fun i _ => ts.length - (intOf i).toNat)
      case atStart => exact ⟨0, Nat.zero_le _, rfl, Below.refl _ _⟩
      case round =>
        obtain ⟨j, hj, rfl, hbj⟩ := hrel
        obtain ⟨w7, rfl⟩ : ∃ x, x = wr := ⟨_, rfl⟩
        have HB7 := hidE hbj
        clear hbj
        by_cases hlt : j < ts.length
        · obtain ⟨A, hA⟩ : ∃ t, S[j]? = some t := ⟨_, List.getElem?_eq_getElem (by rw [HSL.out]; exact hlt)⟩
          have hAm : A ∈ S := List.mem_of_getElem? hA
          obtain ⟨-, -, hl1, hl2, -, hD6⟩ := HLL.out w7 HB7.out
          obtain ⟨g1, o1, rfl, hg1, hk1⟩ := hl1.resolve_left (by intro e; rw [e] at hA; simp at hA)
          obtain ⟨g2, o2, rfl, hg2, hk2⟩ := hl2.resolve_left (by intro e; rw [e] at hA; simp at hA)
          obtain ⟨bl, off, rfl, hbl, -⟩ := (HLL.out w7 HB7.out).2.1.resolve_left (by intro e; rw [e] at hlt; simp at hlt)
          have HA := hidE (And.intro hA (And.intro hAm (And.intro hg1 (And.intro hg2 (And.intro hbl hD6)))))
          obtain ⟨ak, ab, an, ax, aks, aus⟩ := A
          obtain ⟨aa, ac, al, ad', ⟨a0, a1, a2, a3, a4, a5⟩, hlA⟩ := hk1.cells hA
          have HLX := hidE hlA
          have hgs1 : g1 < w7.heap.size := lt_of_cell a0
          clear hA hAm hl1 hl2 hg1 hg2 hk1 hk2 hlA hD6 hbl
          go_wp2_with fail
          go_loopw [10, 8, 9] (fun i p q wr => ∃ m : Nat, m ≤ ts.length ∧ i = .int .i64 m ∧ p = .int .i64 (sameN (ts.take m) (.mk ak ab an ax aks aus)) ∧ q = .int .i64 (sameN (S.take m) (.mk ak ab an ax aks aus)) ∧ Below w7.heap.size w7 wr) (fun i _ _ _ => ts.length - (intOf i).toNat)
          case atStart => exact ⟨0, Nat.zero_le _, rfl, rfl, rfl, Below.refl _ _⟩
          case round =>
            obtain ⟨m, hm, rfl, rfl, rfl, hbm⟩ := hrel
            obtain ⟨w8, rfl⟩ : ∃ x, x = wr := ⟨_, rfl⟩
            have HB8 := hidE hbm
            have HB8' : Hid (Below w6.heap.size w6 w8) := below_on HB7.out hbm
            clear hbm
            obtain ⟨cA, hcA⟩ : ∃ x, sameN (ts.take m) (.mk ak ab an ax aks aus) = x := ⟨_, rfl⟩
            obtain ⟨cB, hcB⟩ : ∃ x, sameN (S.take m) (.mk ak ab an ax aks aus) = x := ⟨_, rfl⟩
            have hcl : cA ≤ 60 := by have := sameN_len (ts.take m) (.mk ak ab an ax aks aus); simp at this; omega
            have hcl' : cB ≤ 60 := by have := sameN_len (S.take m) (.mk ak ab an ax aks aus); simp at this; omega
            rw [hcA, hcB]
            have HCA := hidE (And.intro hcA hcB)
            clear hcA hcB
            by_cases hlm : m < ts.length
            · obtain ⟨⟨xk, xb, xn, xx, xks, xus⟩, hX⟩ : ∃ t, ts[m]? = some t := ⟨_, List.getElem?_eq_getElem hlm⟩
              obtain ⟨⟨yk, yb, yn, yx, yks, yus⟩, hY⟩ : ∃ t, S[m]? = some t := ⟨_, List.getElem?_eq_getElem (by rw [HSL.out]; exact hlm)⟩
              obtain ⟨hbw, hl0, hl1, hl2, htb, hD6⟩ := HLL.out w8 HB8'.out
              obtain ⟨bl', off', e1, hbl', hk0⟩ := hl0.resolve_left (by intro e; rw [e] at hlm; simp at hlm)
              cases e1
              obtain ⟨g1', o1', e1, hg1', hk1⟩ := hl1.resolve_left (by intro e; rw [e] at hY; simp at hY)
              cases e1
              obtain ⟨xa, xc, xl, xd, ⟨x0, x1, x2, x3, x4, x5⟩, hlX⟩ := hk0.cells hX
              obtain ⟨ya, yc, yl, yd, ⟨y0, y1, y2, y3, y4, y5⟩, hlY⟩ := hk1.cells hY
              have hlA : Lies w6.heap.size w8 (.agg #[.int .i64 ak, .bool ab, .int .i64 an, .string ax, .slice aa aks.length ac, .slice al aus.length ad']) (.mk ak ab an ax aks aus) := HLX.out.below (HB8.out.mono HB7.out.size)
              have b0 := (HB8.out.cell (p := ⟨g1, _, none⟩) hgs1).trans a0
              have b1 := (HB8.out.cell (p := ⟨g1, _, none⟩) hgs1).trans a1
              have b2 := (HB8.out.cell (p := ⟨g1, _, none⟩) hgs1).trans a2
              have b3 := (HB8.out.cell (p := ⟨g1, _, none⟩) hgs1).trans a3
              have b4 := (HB8.out.cell (p := ⟨g1, _, none⟩) hgs1).trans a4
              have b5 := (HB8.out.cell (p := ⟨g1, _, none⟩) hgs1).trans a5
              have hmX := (HMA.out _ (List.mem_of_getElem? hX)).1
              have hmY := (HMS.out _ (List.mem_of_getElem? hY)).1
              have hmA := (HMS.out _ HA.out.2.1).1
              have HQ1 : Hid (∀ W, Below w8.heap.size w8 W → Calls Tryz.prog 32 #[.agg #[.int .i64 xk, .bool xb, .int .i64 xn, .string xx, .slice xa xks.length xc, .slice xl xus.length xd], .agg #[.int .i64 ak, .bool ab, .int .i64 an, .string ax, .slice aa aks.length ac, .slice al aus.length ad']] W fun e w' => e = .returned (.bool (sameB (.mk xk xb xn xx xks xus) (.mk ak ab an ax aks aus))) ∧ Below W.heap.size W w') := fun W hb =>
                Same_any _ _ w6.heap.size _ _ W (Nat.le_trans HB8'.out.size hb.size) ((hlX.mono hD6).below (hb.mono HB8'.out.size)) (hlA.below (hb.mono HB8'.out.size)) (htb.below (hb)) hmX hmA
              have HQ2 : Hid (∀ W, Below w8.heap.size w8 W → Calls Tryz.prog 32 #[.agg #[.int .i64 yk, .bool yb, .int .i64 yn, .string yx, .slice ya yks.length yc, .slice yl yus.length yd], .agg #[.int .i64 ak, .bool ab, .int .i64 an, .string ax, .slice aa aks.length ac, .slice al aus.length ad']] W fun e w' => e = .returned (.bool (sameB (.mk yk yb yn yx yks yus) (.mk ak ab an ax aks aus))) ∧ Below W.heap.size W w') := fun W hb =>
                Same_any _ _ w6.heap.size _ _ W (Nat.le_trans HB8'.out.size hb.size) (hlY.below (hb.mono HB8'.out.size)) (hlA.below (hb.mono HB8'.out.size)) (htb.below (hb)) hmY hmA
              obtain ⟨p, hp⟩ : ∃ p, sameB (.mk xk xb xn xx xks xus) (.mk ak ab an ax aks aus) = p := ⟨_, rfl⟩
              obtain ⟨q, hq⟩ : ∃ q, sameB (.mk yk yb yn yx yks yus) (.mk ak ab an ax aks aus) = q := ⟨_, rfl⟩
              rw [hp] at HQ1
              rw [hq] at HQ2
              have HST : Hid (sameN (ts.take (m + 1)) (.mk ak ab an ax aks aus) = cA + (if p = true then 1 else 0) ∧ sameN (S.take (m + 1)) (.mk ak ab an ax aks aus) = cB + (if q = true then 1 else 0)) := ⟨by rw [sameN_take _ hX, HCA.out.1, hp], by rw [sameN_take _ hY, HCA.out.2, hq]⟩
              have HYC := hidE (And.intro y0 (And.intro y1 (And.intro y2 (And.intro y3 (And.intro y4 y5)))))
              have HBC := hidE (And.intro b0 (And.intro b1 (And.intro b2 (And.intro b3 (And.intro b4 b5)))))
              clear hX hY hbw hl0 hl1 hl2 htb hD6 hbl' hk0 hg1' hk1 hlX hlY hlA hmX hmY hmA hp hq y0 y1 y2 y3 y4 y5
              go_wp2_with fail
              have HC1 := hidE (HQ1.out w8.drew (Below.refl _ w8).drew)
              go_region_with (go_at_call 32; refine HC1.out.mono ?_; rintro e w9 ⟨rfl, hb9⟩)
              all_goals
                have HB9 : Hid (Below w8.heap.size w8 w9) := (Below.refl _ w8).drew.trans hb9
                clear hb9 HC1 x0 x1 x2 x3 x4 x5 b0 b1 b2 b3 b4 b5
                obtain ⟨y0, y1, y2, y3, y4, y5⟩ := HYC.out
                obtain ⟨b0, b1, b2, b3, b4, b5⟩ := HBC.out
                have hgs8 : g1 < w8.heap.size := lt_of_cell b0
                replace y0 := (HB9.out.cell (p := ⟨g1, _, none⟩) hgs8).trans y0
                replace y1 := (HB9.out.cell (p := ⟨g1, _, none⟩) hgs8).trans y1
                replace y2 := (HB9.out.cell (p := ⟨g1, _, none⟩) hgs8).trans y2
                replace y3 := (HB9.out.cell (p := ⟨g1, _, none⟩) hgs8).trans y3
                replace y4 := (HB9.out.cell (p := ⟨g1, _, none⟩) hgs8).trans y4
                replace y5 := (HB9.out.cell (p := ⟨g1, _, none⟩) hgs8).trans y5
                replace b0 := (HB9.out.cell (p := ⟨g1, _, none⟩) hgs8).trans b0
                replace b1 := (HB9.out.cell (p := ⟨g1, _, none⟩) hgs8).trans b1
                replace b2 := (HB9.out.cell (p := ⟨g1, _, none⟩) hgs8).trans b2
                replace b3 := (HB9.out.cell (p := ⟨g1, _, none⟩) hgs8).trans b3
                replace b4 := (HB9.out.cell (p := ⟨g1, _, none⟩) hgs8).trans b4
                replace b5 := (HB9.out.cell (p := ⟨g1, _, none⟩) hgs8).trans b5
                have HC2 := hidE (HQ2.out w9.drew HB9.out.drew)
                cases p
                all_goals
                  go_wp2_with fail
                  go_region_with (go_at_call 32; refine HC2.out.mono ?_; rintro e w10 ⟨rfl, hb10⟩)
                  all_goals
                    have HB10 : Hid (Below w7.heap.size w7 w10) := below_on (below_on HB8.out HB9.out.drew) hb10
                    clear hb10 y0 y1 y2 y3 y4 y5 b0 b1 b2 b3 b4 b5
                    cases q
                    all_goals
                      go_wp2_with fail
                      go_roundw
                      case rel => exact ⟨m + 1, by omega, by go_num, by rw [HST.out.1]; first | rfl | (congr 1) , by rw [HST.out.2]; first | rfl | (congr 1), HB10.out⟩
                      case measure => simp [intOf]; omega
            · have hmm : m = ts.length := by omega
              subst hmm
              have hcc : cB = cA := by
                have e1 := HCA.out.1
                have e2 := HCA.out.2
                rw [List.take_of_length_le (Nat.le_refl _)] at e1
                rw [List.take_of_length_le (by rw [HSL.out]; exact Nat.le_refl _)] at e2
                rw [← e1, ← e2]; exact sameN_perm HSP.out _
              rw [hcc]
              have hk0 : ((cA : Int) == 0) = false := by
                have h := sameN_pos (HSP.out.subset HA.out.2.1) (same_self (HSC.out _ HA.out.2.1))
                have e1 := HCA.out.1
                rw [List.take_of_length_le (Nat.le_refl _)] at e1
                rw [e1] at h
                simp; omega
              clear hcc hcl hcl' HCA
              obtain ⟨hA, hAm, hg1, hg2, hbl, hD6⟩ := HA.out
              obtain ⟨hbw, hl0, hl1, hl2, htb, -⟩ := HLL.out w8 HB8'.out
              obtain ⟨g1', o1', e1, -, hk1⟩ := hl1.resolve_left (by intro e; rw [e] at hA; simp at hA)
              cases e1
              obtain ⟨g2', o2', e1, -, hk2⟩ := hl2.resolve_left (by intro e; rw [e] at hA; simp at hA)
              cases e1
              obtain ⟨xa, xc, xl, xd, ⟨x0, x1, x2, x3, x4, x5⟩, hlX⟩ := hk1.cells hA
              obtain ⟨ya, yc, yl, yd, ⟨y0, y1, y2, y3, y4, y5⟩, hlY⟩ := hk2.cells hA
              have hcA := HSC.out _ hAm
              have hmA := (HMS.out _ hAm).1
              have hs1' : g1 < w8.heap.size := lt_of_cell x0
              have hs2' : g2 < w8.heap.size := lt_of_cell y0
              have HK1 : Hid (∀ W, Below w8.heap.size w8 W → Calls Tryz.prog 32 #[.agg #[.int .i64 ak, .bool ab, .int .i64 an, .string ax, .slice xa aks.length xc, .slice xl aus.length xd], .agg #[.int .i64 ak, .bool ab, .int .i64 an, .string ax, .slice ya aks.length yc, .slice yl aus.length yd]] W fun e w' => e = .returned (.bool true) ∧ Below W.heap.size W w') := fun W hb => by
                have := Same_any _ _ w6.heap.size _ _ W (Nat.le_trans HB8'.out.size hb.size) (hlX.below (hb.mono HB8'.out.size)) (hlY.below (hb.mono HB8'.out.size)) (htb.below hb) hmA hmA
                rwa [same_self hcA] at this
              cases j with
              | zero =>
                simp only [Nat.zero_mul, Nat.add_zero] at x0 x1 x2 x3 x4 x5 y0 y1 y2 y3 y4 y5
                have HW : Hid (∀ W, Below w8.heap.size w8 W → WorldS24f g1 o1 g2 o2 ts.length lc1 lc2 cA _ _ _ _ _ _ _ _ _ _ _ _ W) := fun W hb => ⟨(hb.cell (p := ⟨g1, _, none⟩) hs1').trans x0, (hb.cell (p := ⟨g1, _, none⟩) hs1').trans x1, (hb.cell (p := ⟨g1, _, none⟩) hs1').trans x2, (hb.cell (p := ⟨g1, _, none⟩) hs1').trans x3, (hb.cell (p := ⟨g1, _, none⟩) hs1').trans x4, (hb.cell (p := ⟨g1, _, none⟩) hs1').trans x5, (hb.cell (p := ⟨g2, _, none⟩) hs2').trans y0, (hb.cell (p := ⟨g2, _, none⟩) hs2').trans y1, (hb.cell (p := ⟨g2, _, none⟩) hs2').trans y2, (hb.cell (p := ⟨g2, _, none⟩) hs2').trans y3, (hb.cell (p := ⟨g2, _, none⟩) hs2').trans y4, (hb.cell (p := ⟨g2, _, none⟩) hs2').trans y5, HK1.out W hb, hk0, hlt, hq1, hq2⟩
                clear hA hAm hg1 hg2 hbl hD6 hbw hl0 hl1 hl2 htb hk1 hk2 x0 x1 x2 x3 x4 x5 y0 y1 y2 y3 y4 y5 hlX hlY hcA hmA hs1' hs2' hk0 a0 a1 a2 a3 a4 a5 hgs1
                go_upto_region 24 with fail
                
                show (Code.region 24 RS24f true).wp _ _ _ _
                refine regionS24f g1 o1 g2 o2 ts.length lc1 lc2 cA _ _ _ _ _ _ _ _ _ _ _ _ _ _ w8 rfl ⟨rfl, rfl, rfl, rfl, rfl⟩ HW.out ?_
                intro c w10 hS hb10 h129
                have HB10 : Hid (Below w6.heap.size w6 w10) := below_on HB8'.out hb10
                clear hb10
                have hl : c = ⟨#[Value.slice (some { block := bl, off := off }) ts.length lc, undef, u2, Value.slice ad ts.length cap, Value.int IntKind.i64 (-1), Value.slice (some { block := g1, off := o1 }) ts.length lc1, Value.slice (some { block := g2, off := o2 }) ts.length lc2, Value.int IntKind.i64 0, Value.int IntKind.i64 ↑cA, Value.int IntKind.i64 ↑cA, Value.int IntKind.i64 ↑ts.length, undef, undef, Value.slice (some { block := bl, off := off }) ts.length lc, Value.int IntKind.i64 ↑ts.length, Value.bool false, Value.bool false, Value.slice (some { block := bl, off := off }) ts.length lc, Value.bool true, Value.bool false, Value.bool false, undef, Value.slice (some { block := bl, off := off }) ts.length lc, Value.int IntKind.i64 ↑ts.length, Value.int IntKind.i64 (↑ts.length - 1), Value.int IntKind.i64 (-1), Value.bool false, u27, u28, u29, u30, u31, u32, u33, u34, u35, u36, u37, u38, u39, u40, u41, u42, u43, Value.slice (some { block := bl, off := off }) ts.length lc, Value.slice (some { block := g1, off := o1 }) ts.length lc1, Value.slice ad ts.length cap, Value.slice (some { block := g2, off := o2 }) ts.length lc2, Value.slice (some { block := g1, off := o1 }) ts.length lc1, Value.int IntKind.i64 ↑ts.length, Value.slice (some { block := bl, off := off }) ts.length lc, Value.int IntKind.i64 ↑ts.length, Value.bool false, Value.bool false, Value.slice (some { block := g2, off := o2 }) ts.length lc2, Value.int IntKind.i64 ↑ts.length, Value.slice (some { block := bl, off := off }) ts.length lc, Value.int IntKind.i64 ↑ts.length, Value.bool false, Value.bool false, Value.int IntKind.i64 0, Value.slice (some { block := g1, off := o1 }) ts.length lc1, Value.int IntKind.i64 ↑ts.length, Value.bool true, u64, u65, Value.int IntKind.i64 ↑ts.length, Value.slice (some { block := bl, off := off }) ts.length lc, Value.int IntKind.i64 ↑ts.length, Value.bool false, u70, u71, u72, u73, u74, u75, u76, u77, u78, u79, u80, u81, u82, u83, u84, u85, u86, u87, u88, u89, u90, u91, u92, u93, c.eval (.tmp 94), c.eval (.tmp 95), c.eval (.tmp 96), c.eval (.tmp 97), c.eval (.tmp 98), c.eval (.tmp 99), c.eval (.tmp 100), c.eval (.tmp 101), c.eval (.tmp 102), c.eval (.tmp 103), c.eval (.tmp 104), c.eval (.tmp 105), c.eval (.tmp 106), c.eval (.tmp 107), c.eval (.tmp 108), c.eval (.tmp 109), c.eval (.tmp 110), c.eval (.tmp 111), c.eval (.tmp 112), c.eval (.tmp 113), c.eval (.tmp 114), c.eval (.tmp 115), c.eval (.tmp 116), c.eval (.tmp 117), c.eval (.tmp 118), c.eval (.tmp 119), c.eval (.tmp 120), c.eval (.tmp 121), c.eval (.tmp 122), c.eval (.tmp 123), c.eval (.tmp 124), c.eval (.tmp 125), c.eval (.tmp 126), c.eval (.tmp 127), c.eval (.tmp 128), c.eval (.tmp 129), undef, undef, undef, undef, undef, undef, undef, undef, undef, undef, undef, undef], []⟩ := (same_lay hS).trans (by kernel_rfl)
                rw [h129] at hl
                generalize c.eval (.tmp 94) = y94 at hl
                generalize c.eval (.tmp 95) = y95 at hl
                generalize c.eval (.tmp 96) = y96 at hl
                generalize c.eval (.tmp 97) = y97 at hl
                generalize c.eval (.tmp 98) = y98 at hl
                generalize c.eval (.tmp 99) = y99 at hl
                generalize c.eval (.tmp 100) = y100 at hl
                generalize c.eval (.tmp 101) = y101 at hl
                generalize c.eval (.tmp 102) = y102 at hl
                generalize c.eval (.tmp 103) = y103 at hl
                generalize c.eval (.tmp 104) = y104 at hl
                generalize c.eval (.tmp 105) = y105 at hl
                generalize c.eval (.tmp 106) = y106 at hl
                generalize c.eval (.tmp 107) = y107 at hl
                generalize c.eval (.tmp 108) = y108 at hl
                generalize c.eval (.tmp 109) = y109 at hl
                generalize c.eval (.tmp 110) = y110 at hl
                generalize c.eval (.tmp 111) = y111 at hl
                generalize c.eval (.tmp 112) = y112 at hl
                generalize c.eval (.tmp 113) = y113 at hl
                generalize c.eval (.tmp 114) = y114 at hl
                generalize c.eval (.tmp 115) = y115 at hl
                generalize c.eval (.tmp 116) = y116 at hl
                generalize c.eval (.tmp 117) = y117 at hl
                generalize c.eval (.tmp 118) = y118 at hl
                generalize c.eval (.tmp 119) = y119 at hl
                generalize c.eval (.tmp 120) = y120 at hl
                generalize c.eval (.tmp 121) = y121 at hl
                generalize c.eval (.tmp 122) = y122 at hl
                generalize c.eval (.tmp 123) = y123 at hl
                generalize c.eval (.tmp 124) = y124 at hl
                generalize c.eval (.tmp 125) = y125 at hl
                generalize c.eval (.tmp 126) = y126 at hl
                generalize c.eval (.tmp 127) = y127 at hl
                generalize c.eval (.tmp 128) = y128 at hl
                clear hS h129
                subst hl
                clear HW HK1
                go_wp2_with fail
                go_roundw
                case rel => exact ⟨1, by omega, by go_num, HB10.out⟩
                case measure => simp [intOf]; omega
              | succ i =>
                obtain ⟨⟨zk, zb, zn, zx, zks, zus⟩, hZ⟩ : ∃ t, S[i]? = some t := ⟨_, List.getElem?_eq_getElem (by rw [HSL.out]; omega)⟩
                obtain ⟨za, zc, zl, zd, ⟨z0, z1, z2, z3, z4, z5⟩, hlZ⟩ := hk1.cells hZ
                have hcZ := HSC.out _ (List.mem_of_getElem? hZ)
                have hmZ := (HMS.out _ (List.mem_of_getElem? hZ)).1
                obtain ⟨cm, hcm⟩ : ∃ x, compN (.mk zk zb zn zx zks zus) (.mk ak ab an ax aks aus) = x := ⟨_, rfl⟩
                have hcm0 : ¬ (0 : Int) < cm := by
                  rw [← hcm, compN_fine hcZ hcA]
                  obtain ⟨i1, e1⟩ := List.getElem?_eq_some_iff.1 hZ
                  obtain ⟨i2, e2⟩ := List.getElem?_eq_some_iff.1 hA
                  have := List.pairwise_iff_getElem.1 HSS.out i (i + 1) i1 i2 (by omega)
                  rw [e1, e2] at this
                  unfold leT at this
                  omega
                have HK2 : Hid (∀ W, Below w8.heap.size w8 W → Calls Tryz.prog 31 #[.agg #[.int .i64 zk, .bool zb, .int .i64 zn, .string zx, .slice za zks.length zc, .slice zl zus.length zd], .agg #[.int .i64 ak, .bool ab, .int .i64 an, .string ax, .slice xa aks.length xc, .slice xl aus.length xd]] W fun e w' => e = .returned (.int .i64 cm) ∧ Below W.heap.size W w') := fun W hb => by
                  have := Compare_any _ _ w6.heap.size _ _ W (Nat.le_trans HB8'.out.size hb.size) (hlZ.below (hb.mono HB8'.out.size)) (hlX.below (hb.mono HB8'.out.size)) (htb.below hb) hmZ hmA
                  rwa [hcm] at this
                have HW : Hid (∀ W, Below w8.heap.size w8 W → WorldS24t g1 o1 g2 o2 ts.length lc1 lc2 cA i cm _ _ _ _ _ _ _ _ _ _ _ _ _ _ _ _ _ _ W) := fun W hb => ⟨(hb.cell (p := ⟨g1, _, none⟩) hs1').trans x0, (hb.cell (p := ⟨g1, _, none⟩) hs1').trans x1, (hb.cell (p := ⟨g1, _, none⟩) hs1').trans x2, (hb.cell (p := ⟨g1, _, none⟩) hs1').trans x3, (hb.cell (p := ⟨g1, _, none⟩) hs1').trans x4, (hb.cell (p := ⟨g1, _, none⟩) hs1').trans x5, (hb.cell (p := ⟨g2, _, none⟩) hs2').trans y0, (hb.cell (p := ⟨g2, _, none⟩) hs2').trans y1, (hb.cell (p := ⟨g2, _, none⟩) hs2').trans y2, (hb.cell (p := ⟨g2, _, none⟩) hs2').trans y3, (hb.cell (p := ⟨g2, _, none⟩) hs2').trans y4, (hb.cell (p := ⟨g2, _, none⟩) hs2').trans y5, HK1.out W hb, hk0, hlt, hq1, hq2, (hb.cell (p := ⟨g1, _, none⟩) hs1').trans z0, (hb.cell (p := ⟨g1, _, none⟩) hs1').trans z1, (hb.cell (p := ⟨g1, _, none⟩) hs1').trans z2, (hb.cell (p := ⟨g1, _, none⟩) hs1').trans z3, (hb.cell (p := ⟨g1, _, none⟩) hs1').trans z4, (hb.cell (p := ⟨g1, _, none⟩) hs1').trans z5, HK2.out W hb, hcm0, by omega⟩
                clear hA hAm hg1 hg2 hbl hD6 hbw hl0 hl1 hl2 htb hk1 hk2 x0 x1 x2 x3 x4 x5 y0 y1 y2 y3 y4 y5 z0 z1 z2 z3 z4 z5 hlX hlY hlZ hcA hmA hcZ hmZ hZ hcm hcm0 hs1' hs2' hk0 a0 a1 a2 a3 a4 a5 hgs1
                go_upto_region 24 with fail
                
                show (Code.region 24 RS24t true).wp _ _ _ _
                refine regionS24t g1 o1 g2 o2 ts.length lc1 lc2 cA i cm _ _ _ _ _ _ _ _ _ _ _ _ _ _ _ _ _ _ _ _ w8 rfl ⟨rfl, rfl, rfl, rfl, rfl⟩ HW.out ?_
                intro c w10 hS hb10 h129
                have HB10 : Hid (Below w6.heap.size w6 w10) := below_on HB8'.out hb10
                clear hb10
                have hl : c = ⟨#[Value.slice (some { block := bl, off := off }) ts.length lc, undef, u2, Value.slice ad ts.length cap, Value.int IntKind.i64 (-1), Value.slice (some { block := g1, off := o1 }) ts.length lc1, Value.slice (some { block := g2, off := o2 }) ts.length lc2, Value.int IntKind.i64 ↑(i + 1), Value.int IntKind.i64 ↑cA, Value.int IntKind.i64 ↑cA, Value.int IntKind.i64 ↑ts.length, undef, undef, Value.slice (some { block := bl, off := off }) ts.length lc, Value.int IntKind.i64 ↑ts.length, Value.bool false, Value.bool false, Value.slice (some { block := bl, off := off }) ts.length lc, Value.bool true, Value.bool false, Value.bool false, undef, Value.slice (some { block := bl, off := off }) ts.length lc, Value.int IntKind.i64 ↑ts.length, Value.int IntKind.i64 (↑ts.length - 1), Value.int IntKind.i64 (-1), Value.bool false, u27, u28, u29, u30, u31, u32, u33, u34, u35, u36, u37, u38, u39, u40, u41, u42, u43, Value.slice (some { block := bl, off := off }) ts.length lc, Value.slice (some { block := g1, off := o1 }) ts.length lc1, Value.slice ad ts.length cap, Value.slice (some { block := g2, off := o2 }) ts.length lc2, Value.slice (some { block := g1, off := o1 }) ts.length lc1, Value.int IntKind.i64 ↑ts.length, Value.slice (some { block := bl, off := off }) ts.length lc, Value.int IntKind.i64 ↑ts.length, Value.bool false, Value.bool false, Value.slice (some { block := g2, off := o2 }) ts.length lc2, Value.int IntKind.i64 ↑ts.length, Value.slice (some { block := bl, off := off }) ts.length lc, Value.int IntKind.i64 ↑ts.length, Value.bool false, Value.bool false, Value.int IntKind.i64 ↑(i + 1), Value.slice (some { block := g1, off := o1 }) ts.length lc1, Value.int IntKind.i64 ↑ts.length, Value.bool true, u64, u65, Value.int IntKind.i64 ↑ts.length, Value.slice (some { block := bl, off := off }) ts.length lc, Value.int IntKind.i64 ↑ts.length, Value.bool false, u70, u71, u72, u73, u74, u75, u76, u77, u78, u79, u80, u81, u82, u83, u84, u85, u86, u87, u88, u89, u90, u91, u92, u93, c.eval (.tmp 94), c.eval (.tmp 95), c.eval (.tmp 96), c.eval (.tmp 97), c.eval (.tmp 98), c.eval (.tmp 99), c.eval (.tmp 100), c.eval (.tmp 101), c.eval (.tmp 102), c.eval (.tmp 103), c.eval (.tmp 104), c.eval (.tmp 105), c.eval (.tmp 106), c.eval (.tmp 107), c.eval (.tmp 108), c.eval (.tmp 109), c.eval (.tmp 110), c.eval (.tmp 111), c.eval (.tmp 112), c.eval (.tmp 113), c.eval (.tmp 114), c.eval (.tmp 115), c.eval (.tmp 116), c.eval (.tmp 117), c.eval (.tmp 118), c.eval (.tmp 119), c.eval (.tmp 120), c.eval (.tmp 121), c.eval (.tmp 122), c.eval (.tmp 123), c.eval (.tmp 124), c.eval (.tmp 125), c.eval (.tmp 126), c.eval (.tmp 127), c.eval (.tmp 128), c.eval (.tmp 129), undef, undef, undef, undef, undef, undef, undef, undef, undef, undef, undef, undef], []⟩ := (same_lay hS).trans (by kernel_rfl)
                rw [h129] at hl
                generalize c.eval (.tmp 94) = y94 at hl
                generalize c.eval (.tmp 95) = y95 at hl
                generalize c.eval (.tmp 96) = y96 at hl
                generalize c.eval (.tmp 97) = y97 at hl
                generalize c.eval (.tmp 98) = y98 at hl
                generalize c.eval (.tmp 99) = y99 at hl
                generalize c.eval (.tmp 100) = y100 at hl
                generalize c.eval (.tmp 101) = y101 at hl
                generalize c.eval (.tmp 102) = y102 at hl
                generalize c.eval (.tmp 103) = y103 at hl
                generalize c.eval (.tmp 104) = y104 at hl
                generalize c.eval (.tmp 105) = y105 at hl
                generalize c.eval (.tmp 106) = y106 at hl
                generalize c.eval (.tmp 107) = y107 at hl
                generalize c.eval (.tmp 108) = y108 at hl
                generalize c.eval (.tmp 109) = y109 at hl
                generalize c.eval (.tmp 110) = y110 at hl
                generalize c.eval (.tmp 111) = y111 at hl
                generalize c.eval (.tmp 112) = y112 at hl
                generalize c.eval (.tmp 113) = y113 at hl
                generalize c.eval (.tmp 114) = y114 at hl
                generalize c.eval (.tmp 115) = y115 at hl
                generalize c.eval (.tmp 116) = y116 at hl
                generalize c.eval (.tmp 117) = y117 at hl
                generalize c.eval (.tmp 118) = y118 at hl
                generalize c.eval (.tmp 119) = y119 at hl
                generalize c.eval (.tmp 120) = y120 at hl
                generalize c.eval (.tmp 121) = y121 at hl
                generalize c.eval (.tmp 122) = y122 at hl
                generalize c.eval (.tmp 123) = y123 at hl
                generalize c.eval (.tmp 124) = y124 at hl
                generalize c.eval (.tmp 125) = y125 at hl
                generalize c.eval (.tmp 126) = y126 at hl
                generalize c.eval (.tmp 127) = y127 at hl
                generalize c.eval (.tmp 128) = y128 at hl
                clear hS h129
                subst hl
                clear HW HK1 HK2
                go_wp2_with fail
                go_roundw
                case rel => exact ⟨i + 1 + 1, by omega, by go_num, HB10.out⟩
                case measure => simp [intOf]; omega
        · obtain ⟨hbw, hl0, hl1, -, htb, hD6⟩ := HLL.out w7 HB7.out
          have HO1 := hidE (once_anyO ts D la lc w7 (Nat.le_trans hD6 HB7.out.size) hl0 h1 (by omega) (fun t ht => ⟨(HMA.out t ht).2.1, (HMA.out t ht).1, (HMA.out t ht).2.2⟩) htb (HP2.out w7 hbw).1 (HP2.out w7 hbw).2.1 (HP2.out w7 hbw).2.2)
          have HO2 : Hid (∀ W, Below w7.heap.size w7 W → Calls Tryz.prog 47 #[.slice la1 S.length lc1] W fun e w' => (((∀ t ∈ S, checkN t = 0) ∧ ∃ v xs, e = .returned v ∧ w'.ownsRow (W.heap.size + 1) 26 6 v (outL S).length xs ∧ RowO (W.heap.size + 1) v.ownBlock w' xs (outL S)) ∨ ((¬ ∀ t ∈ S, checkN t = 0) ∧ e = .returned (.slice none 0 0))) ∧ Below W.heap.size W w') := fun W hb => by
            obtain ⟨hbw', -, hl1', -, htb', -⟩ := HLL.out W (below_on HB7.out hb)
            exact once_anyO S w6.heap.size la1 lc1 W (Nat.le_trans HB7.out.size hb.size) hl1' (by rw [HSL.out]; exact hq1) (by rw [HSL.out]; omega) (fun t ht => ⟨(HMS.out t ht).2.1, (HMS.out t ht).1, (HMS.out t ht).2.2⟩) htb' (HP2.out W hbw').1 (HP2.out W hbw').2.1 (HP2.out W hbw').2.2
          rw [HSL.out] at HO2
          have HOL : Hid ((outL S).length = (outL ts).length) := outL_perm HCH.out HSP.out
          have HBW := hidE hbw
          clear hbw hl0 hl1 htb hD6
          go_wp2_with fail
          refine HO1.out.mono ?_
          rintro e w8 ⟨hoe, hb8⟩
          obtain ⟨v, xs, rfl, r1, -⟩ : ∃ v xs, e = .returned v ∧ w8.ownsRow (w7.heap.size + 1) 26 6 v (outL ts).length xs ∧ RowO (w7.heap.size + 1) v.ownBlock w8 xs (outL ts) := by
            rcases hoe with ⟨-, h⟩ | ⟨h, -⟩
            · exact h
            · exact absurd HCH.out h
          obtain ⟨ad1, cap1, rfl, -⟩ := row_slice r1
          have HB8 := hidE hb8
          clear hoe hb8 r1 HO1
          go_wp2_with fail
          refine (HO2.out w8 HB8.out).mono ?_
          rintro e w9 ⟨hoe, hb9⟩
          obtain ⟨v, xs, rfl, r1, -⟩ : ∃ v xs, e = .returned v ∧ w9.ownsRow (w8.heap.size + 1) 26 6 v (outL S).length xs ∧ RowO (w8.heap.size + 1) v.ownBlock w9 xs (outL S) := by
            rcases hoe with ⟨-, h⟩ | ⟨h, -⟩
            · exact h
            · exact absurd HSC.out h
          obtain ⟨ad2, cap2, rfl, -⟩ := row_slice r1
          have HB9 : Hid (Below w.heap.size w w9) := below_on (below_on HBW.out HB8.out) hb9
          rw [HOL.out]
          clear hoe hb9 r1 HO2
          obtain ⟨on, hon⟩ : ∃ x, (outL ts).length = x := ⟨_, rfl⟩
          rw [hon]
          clear hon HOL
          go_wp2_with fail
          refine (HWK.out w9 HB9.out).mono ?_
          rintro e w10 ⟨rfl, hb10⟩
          have HB10 : Hid (Below w.heap.size w w10) := below_on HB9.out hb10
          clear hb10
          go_wp2_with fail
          go_ret
          exact ⟨rfl, HB10.out⟩
end Go.Proofs.YtbpmhgcjefpigaaGreatDoor
