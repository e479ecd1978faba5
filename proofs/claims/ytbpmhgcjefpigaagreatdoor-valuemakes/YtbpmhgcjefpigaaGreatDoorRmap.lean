/- The document's own: a map of keys in any order, walked. -/
import Derived.Test.YtbpmhgcjefpigaaGreatDoorRmapl
namespace Go.Proofs.YtbpmhgcjefpigaaGreatDoor
open Go.RowKit Go.Shelf Go.WideShapes Go.Lib
set_option linter.unusedVariables false
set_option linter.unusedSimpArgs false
set_option maxRecDepth 100000 in
set_option maxHeartbeats 8000000 in
theorem refMap_any (ks : List ByteArray) (ts : List Tree) (B : Nat) (ka : Option Addr) (kc : Nat) (la : Option Addr) (lc : Nat) (w : World) (hB : B ≤ w.heap.size) (hk : KeysLie B w ka ks) (hl : ListLies B w la ts) (h1 : ks.length ≤ kc) (h3 : ts.length ≤ lc) (hn : ks.length ≤ 1000) (hm : ts.length ≤ 1000) :
    Calls Tryz.prog 51 #[.slice ka ks.length kc, .slice la ts.length lc] w fun e w' => RMapTo ks ts e w' ∧ Below w.heap.size w w' := by
  by_cases hlen : ks.length = ts.length
  rotate_left
  · have hne : ((ks.length : Int) != (ts.length : Int)) = true := by simp; omega
    have HNE := hidE hlen
    clear hlen hk hl
    go_enter Tryz.func51, Tryz.ntmps51
    go_wp2_with fail
    exact bodyPost_ret (v := .tuple #[.agg #[.int .i64 0, .bool false, .int .i64 0, .string ⟨#[]⟩, .slice none 0 0, .slice none 0 0], .int .i64 2]) (by simp [results, Tryz.results51, go_sem]) rfl ⟨.inr ⟨fun h => HNE.out h.1, rfl⟩, (Below.refl _ _).alloc (Nat.le_refl _) _⟩
  have HLEN := hidE hlen
  have hne : ((ks.length : Int) != (ts.length : Int)) = false := by simp; omega
  obtain ⟨W2, hW2⟩ : ∃ W2, (w.alloc (.cells #[.int .i64 0, .bool false, .int .i64 0, .string ⟨#[]⟩, .slice none 0 0, .slice none 0 0] 26)).alloc (.cells #[.int .i64 5, .bool false, .int .i64 0, .string ⟨#[]⟩, .slice none 0 0, .slice none 0 0] 26) = W2 := ⟨_, rfl⟩
  have HST : Hid (RMapAt w B ks ts 0 W2) := by
    have hb : Below W2.heap.size W2 W2 := Below.refl _ _
    have hs2 : W2.heap.size = w.heap.size + 2 := by rw [← hW2]; simp
    rw [← hW2] at hb
    obtain ⟨hbw, hq, hr⟩ := two_boxes hb
    obtain ⟨fz, fy⟩ := box_frozen hb
    rw [hW2] at hbw hq hr fz fy
    exact ⟨⟨.slice none 0 0, .slice none 0 0, [], [], hr 4 _ rfl, hr 5 _ rfl, World.ownsRow_nil _ _ _ _, World.ownsRow_nil _ _ _ _, .nil, by simp, .nil⟩, fun o v _ _ h => hr o v h, hq, fun o => ⟨fz o, fy o⟩, hbw, by omega⟩
  have HKL := hidE (And.intro hk hl)
  have HW2 := hidE hW2
  clear hW2 hk hl hlen
  go_enter Tryz.func51, Tryz.ntmps51
  go_wp2_with fail
  rw [HW2.out]
  go_loopw [7] (fun i wr => ∃ j : Nat, j ≤ ks.length ∧ i = .int .i64 j ∧ RMapAt w B ks ts j wr) (fun i _ => ks.length - (intOf i).toNat)
  case atStart => exact ⟨0, Nat.zero_le _, rfl, HST.out⟩
  case round =>
    obtain ⟨j, hj, rfl, hgo⟩ := hrel
    obtain ⟨w4, rfl⟩ : ∃ x, x = wr := ⟨_, rfl⟩
    have HGO := hidE hgo
    have hs4 := hgo.size
    clear hgo
    obtain ⟨kv, lv, xs, M, b4, b5, ok, ol, hrow, hperm, hup⟩ := HGO.out.rows
    obtain ⟨ad, cap, rfl, had⟩ := row_any ok
    obtain ⟨ad', cap', rfl, had'⟩ := row_any ol
    obtain ⟨nl, hnl⟩ : ∃ x, M.length = x := ⟨_, rfl⟩
    have hnj : nl ≤ j := by
      have := hperm.length_eq
      rw [hnl] at this
      simp at this; omega
    rw [hnl] at ok ol had had' b4 b5
    have hcap : nl ≤ cap := by
      rcases ok.2 with ⟨h, h0⟩ | ⟨g, cap, cur, h, _, _, h5, h6, _⟩
      · simp only [Value.slice.injEq] at h; omega
      · simp only [Value.slice.injEq] at h; omega
    have HR := hidE (And.intro ok (And.intro ol (And.intro hrow (And.intro hperm (And.intro hup (And.intro hnl (And.intro had had')))))))
    clear ok ol hrow hperm hup had had' hnl
    by_cases hlt : j < ks.length
    · have hltt : j < ts.length := by have := HLEN.out; omega
      obtain ⟨k, hkj⟩ : ∃ k, ks[j]? = some k := ⟨_, List.getElem?_eq_getElem hlt⟩
      obtain ⟨⟨a0, a1, a2, a3, a4, a5⟩, hx⟩ : ∃ t, ts[j]? = some t := ⟨_, List.getElem?_eq_getElem hltt⟩
      obtain ⟨b, off, rfl, hb, hkey⟩ := (HKL.out.1.below (HGO.out.below.mono hB)).resolve_left (by intro e; rw [e] at hlt; simp at hlt)
      have hkc : w4.cell? ⟨b, off + j, none⟩ = some (.string k) := by
        have := (hkey j hlt).1
        rwa [List.getD_eq_getElem?_getD, hkj] at this
      obtain ⟨lb, loff, rfl, hlb, hkl⟩ := (HKL.out.2.below (HGO.out.below.mono hB)).resolve_left (by intro e; rw [e] at hltt; simp at hltt)
      obtain ⟨ja, jc, jl, jd, ⟨c0, c1, c2, c3, c4, c5⟩, hlx⟩ := hkl.cells hx
      have HX := hidE (And.intro hkj (And.intro hx hlx))
      have HC := hidE (And.intro c0 (And.intro c1 (And.intro c2 (And.intro c3 (And.intro c4 c5)))))
      have hbw4 : b < w4.heap.size := lt_of_cell hkc
      have hlw4 : lb < w4.heap.size := lt_of_cell c0
      clear hkj hx hlx hkey hkl c0 c1 c2 c3 c4 c5
      go_wp2_with fail
      go_loopw [8] (fun a wi => ∃ q : Nat, q ≤ nl ∧ a = .int .i64 q ∧ (∀ i m, i < q → M[i]? = some m → cmpK m.1 k < 0) ∧ ∃ d, wi = w4.drewN d) (fun a _ => nl - (intOf a).toNat)
      case atStart => exact ⟨0, Nat.zero_le _, rfl, fun i m h => by omega, 0, rfl⟩
      case round =>
        obtain ⟨q, hq, rfl, hled, d, hwi⟩ := hrel
        subst hwi
        have HLED := hidE hled
        clear hled
        by_cases hql : q < nl
        · obtain ⟨g, rfl⟩ := HR.out.2.2.2.2.2.2.1 (by omega)
          obtain ⟨mk, hmk⟩ : ∃ m, M[q]? = some m := ⟨_, List.getElem?_eq_getElem (by rw [HR.out.2.2.2.2.2.1]; exact hql)⟩
          have hkq : w4.cell? ⟨g, q, none⟩ = some (.string mk.1) := owns_cell HR.out.1 q _ (by rw [List.getElem?_map, hmk]; rfl)
          obtain ⟨y, hy⟩ : ∃ y, mk.1 = y := ⟨_, rfl⟩
          rw [hy] at hkq
          have HMK := hidE (And.intro hmk hy)
          obtain ⟨bb, hbb⟩ : ∃ bb, Op.bytesLess y.toList k.toList = bb := ⟨_, rfl⟩
          have HLS : Hid (bb = decide (cmpK y k < 0)) := by rw [← hbb, ByteArray.toList_eq, ByteArray.toList_eq, less_cmp]; rfl
          clear hmk hy
          go_upto_region 8 with fail
          go_quiet (fail)
          cases bb with
          | true =>
            have HNEW : Hid (∀ i m, i < q + 1 → M[i]? = some m → cmpK m.1 k < 0) := fun i m hi hm => by
              by_cases e : i = q
              · subst e
                rw [HMK.out.1] at hm
                obtain rfl := Option.some.inj hm
                rw [HMK.out.2]
                have := HLS.out
                simpa using this.symm
              · exact HLED.out i m (by omega) hm
            clear hbb hkq
            go_wp2_with fail
            go_roundw
            case rel => exact ⟨q + 1, by omega, by go_num, HNEW.out, _, rfl⟩
            case measure => simp [intOf]; omega
          | false =>
            have HNL : Hid (¬ cmpK y k < 0) := by
              show ¬ cmpK y k < 0
              have := HLS.out
              simpa using this.symm
            clear hbb
            by_cases hyk : y = k
            · have hbe : (y.toList == k.toList) = true := by rw [hyk]; simp
              have HND : Hid (¬ ks.Nodup) := dup_pairs HX.out.1 HR.out.2.2.2.1 (List.mem_of_getElem? HMK.out.1) (by rw [HMK.out.2, hyk])
              have HBW := hidE HGO.out.below
              clear hyk
              go_upto_region 10 with fail
              go_quiet (fail)
              generalize hWb : World.drewN _ nq = Wb
              have hbb : Below w4.heap.size w4 Wb := by rw [← hWb]; exact below_drewN' (below_drewN' (below_drewN' (Below.refl _ _) _) _) _
              have hlow : w.heap.size < w4.heap.size := by omega
              have m0 := (hbb.cell (p := ⟨w.heap.size, 0, none⟩) hlow).trans (HGO.out.res 0 _ rfl)
              have m1 := (hbb.cell (p := ⟨w.heap.size, 1, none⟩) hlow).trans (HGO.out.res 1 _ rfl)
              have m2 := (hbb.cell (p := ⟨w.heap.size, 2, none⟩) hlow).trans (HGO.out.res 2 _ rfl)
              have m3 := (hbb.cell (p := ⟨w.heap.size, 3, none⟩) hlow).trans (HGO.out.res 3 _ rfl)
              have m4 := (hbb.cell (p := ⟨w.heap.size, 4, none⟩) hlow).trans (HGO.out.res 4 _ rfl)
              have m5 := (hbb.cell (p := ⟨w.heap.size, 5, none⟩) hlow).trans (HGO.out.res 5 _ rfl)
              have n0 := (hbb.frozen (p := ⟨w.heap.size, 0, none⟩) hlow).trans (HGO.out.frz 0).1
              have n1 := (hbb.frozen (p := ⟨w.heap.size, 1, none⟩) hlow).trans (HGO.out.frz 1).1
              have n2 := (hbb.frozen (p := ⟨w.heap.size, 2, none⟩) hlow).trans (HGO.out.frz 2).1
              have n3 := (hbb.frozen (p := ⟨w.heap.size, 3, none⟩) hlow).trans (HGO.out.frz 3).1
              have n4 := (hbb.frozen (p := ⟨w.heap.size, 4, none⟩) hlow).trans (HGO.out.frz 4).1
              have n5 := (hbb.frozen (p := ⟨w.heap.size, 5, none⟩) hlow).trans (HGO.out.frz 5).1
              have HBB : Hid (Below w.heap.size w Wb) := HBW.out.trans (hbb.mono HBW.out.size)
              clear hWb hbb
              go_wp2_with fail
              have HFB : Hid (Below w.heap.size w (six Wb w.heap.size 0 (.int .i64 0) (.bool false) (.int .i64 0) (.string ⟨#[]⟩) (.slice none 0 0) (.slice none 0 0))) := six_below HBB.out (Nat.le_refl _) _ _ _ _ _ _
              exact bodyPost_ret (v := .tuple #[.agg #[.int .i64 0, .bool false, .int .i64 0, .string ⟨#[]⟩, .slice none 0 0, .slice none 0 0], .int .i64 2]) (by simp [results, Tryz.results51, go_sem, m0, m1, m2, m3, m4, m5]) rfl ⟨.inr ⟨fun h => HND.out h.2, rfl⟩, HFB.out⟩
            · have hbe : (y.toList == k.toList) = false := by
                rw [beq_eq_false_iff_ne]
                intro e
                apply hyk
                have e2 : y.data.toList = k.data.toList := by simpa [ByteArray.toList_eq] using e
                obtain ⟨⟨a⟩⟩ := y
                obtain ⟨⟨b⟩⟩ := k
                simpa using e2
              have HGT : Hid (∀ m, M[q]? = some m → cmpK k m.1 < 0) := fun m hm => by
                rw [HMK.out.1] at hm
                obtain rfl := Option.some.inj hm
                rw [HMK.out.2]
                have h1 := HNL.out
                have h2 := cmpK_turn y k
                have h3 : cmpK y k ≠ 0 := fun h => hyk (cmpK_one h)
                omega
              clear hyk
              go_upto_region 10 with fail
              go_quiet (fail)
              generalize hW5 : World.drewN _ nq = W5
              have hb45 : Below w4.heap.size w4 W5 := by rw [← hW5]; exact below_drewN' (below_drewN' (below_drewN' (Below.refl _ _) _) _) _
              clear hW5
              obtain ⟨ok, ol, hrow, hperm, hup, hnl, had0, had1⟩ := HR.out
              have hxl : xs.length = nl * 6 := ol.1
              have hyl : (M.map fun p => Value.string p.1).length = nl := by simpa using hnl
              have hbx : w.heap.size + 1 < w4.heap.size := by omega
              have HBX : Hid (∀ W, Below w4.heap.size w4 W → W.cell? ⟨w.heap.size + 1, 4, none⟩ = some (.slice (some ⟨g, 0, none⟩) nl cap) ∧ W.cell? ⟨w.heap.size + 1, 5, none⟩ = some (.slice ad' nl cap') ∧ W.cell? ⟨b, off + j, none⟩ = some (.string k) ∧ W.ownsRow (w.heap.size + 2) 9 1 (.slice (some ⟨g, 0, none⟩) nl cap) nl (M.map fun p => Value.string p.1) ∧ W.ownsRow (w.heap.size + 2) 26 6 (.slice ad' nl cap') nl xs) := fun W hb =>
                ⟨(hb.cell (p := ⟨w.heap.size + 1, 4, none⟩) hbx).trans b4, (hb.cell (p := ⟨w.heap.size + 1, 5, none⟩) hbx).trans b5, (hb.cell (p := ⟨b, off + j, none⟩) hbw4).trans hkc, own_keep ok hb, own_keep ol hb⟩
              have hm1 : ((M.map fun p => Value.string p.1).take (q * 1)).length = q := by rw [List.length_take, hyl]; omega
              have hm2 : ((M.map fun p => Value.string p.1).drop (q * 1)).length = nl - q := by rw [List.length_drop, hyl]; omega
              have hm3 : (xs.take (q * 6)).length = q * 6 := by rw [List.length_take, hxl]; omega
              have hm4 : (xs.drop (q * 6)).length = (nl - q) * 6 := by rw [List.length_drop, hxl]; omega
              have hstr : ∀ u ∈ (M.map fun p => Value.string p.1), u.oneCell' = true := fun u hu => by
                obtain ⟨p, _, rfl⟩ := List.mem_map.1 hu
                rfl
              have ho1 : ∀ u ∈ (M.map fun p => Value.string p.1).take (q * 1), u.oneCell' = true := fun u hu => hstr u (List.mem_of_mem_take hu)
              have ho2 : ∀ u ∈ (M.map fun p => Value.string p.1).drop (q * 1), u.oneCell' = true := fun u hu => hstr u (List.mem_of_mem_drop hu)
              have ho3 : ∀ u ∈ xs.take (q * 6), u.oneCell' = true := fun u hu => hrow.one u (List.mem_of_mem_take hu)
              have ho4 : ∀ u ∈ xs.drop (q * 6), u.oneCell' = true := fun u hu => hrow.one u (List.mem_of_mem_drop hu)
              have HM := hidE (And.intro hm1 (And.intro hm2 (And.intro hm3 (And.intro hm4 (And.intro ho1 (And.intro ho2 (And.intro ho3 ho4)))))))
              obtain ⟨e4, e5, ekc, ok5, ol5⟩ := HBX.out W5 hb45
              have hs5 := hb45.size
              have hq1 : 0 + q ≤ 1000000 := by omega
              clear ok ol hrow hperm hup hnl had0 had1 hxl hyl hm1 hm2 hm3 hm4 hstr ho1 ho2 ho3 ho4 b4 b5 hkc e5 ekc ol5
              go_upto_region 13 with (first
                | (refine op_slice_hi (e := 9) (size := 1) under23 size23 W5 rfl _ _ rfl (w.heap.size + 2) nl q _ _ rfl rfl ok5 hq ?_; intro s1 hs1)
                | (at_builtin; refine op_append9 W5 rfl _ _ rfl w4.heap.size 0 q (.slice none 0 0) s1 [] _ rfl rfl (World.ownsRow_nil _ _ _ _) hs1 HM.out.1 HM.out.2.2.2.2.1 hq1 hs5 ?_; intro v6 w6 o6 g6 p6))
              have hb46 : Below w4.heap.size w4 w6 := hb45.grown g6 hs5 (fun q h => by cases h)
              obtain ⟨W7, hW7⟩ : ∃ W7, w6.alloc (.cells #[.string k] 9) = W7 := ⟨_, rfl⟩
              have hb67 : Below w6.heap.size w6 W7 := hW7 ▸ (Below.refl _ _).alloc (Nat.le_refl _) _
              have hb47 : Below w4.heap.size w4 W7 := below_on hb46 hb67
              have o67 := own_keep o6 hb67
              have hsk : SliceIs W7 (.slice (some ⟨w6.heap.size, 0, none⟩) 1 1) 1 [.string k] := ⟨_, _, rfl, .inr ⟨w6.heap.size, 0, rfl, fun i u hu => by rw [← hW7, Nat.zero_add]; exact cell_new _ _ _ i _ (by simpa using hu)⟩⟩
              have hone1 : ∀ u ∈ ([.string k] : List Value), u.oneCell' = true := fun u hu => by
                simp only [List.mem_cons, List.not_mem_nil, or_false] at hu
                subst hu; rfl
              obtain ⟨e4, e5, ekc, ok6, ol6⟩ := HBX.out w6 hb46
              have hs7 := hb47.size
              have hq2 : 0 + q + 1 ≤ 1000000 := by omega
              have HW7 := hidE hW7
              have H7 := hidE hb47
              clear hs1 g6 p6 o6 hW7 hb67 hb47 hb45 hb46 e4 e5 ok6 ol6 ok5 hs5
              go_upto_region 14 with (at_builtin; rw [HW7.out]; refine op_append9 W7 rfl _ _ rfl w4.heap.size (0 + q) 1 v6 _ _ [.string k] rfl rfl o67 hsk rfl hone1 hq2 hs7 ?_; intro v8 w8 o8 g8 p8)
              have hb48 : Below w4.heap.size w4 w8 := H7.out.grown g8 hs7 (fun p h => (o67.lt p h).1)
              obtain ⟨e4, e5, ekc, ok8, ol8⟩ := HBX.out w8 hb48
              have hs8 := hb48.size
              have hq3 : 0 + q + 1 + (nl - q) ≤ 1000000 := by omega
              clear g8 p8 o67 hsk hone1 hs7 H7 HW7 e5 ekc ol8
              go_upto_region 15 with (first
                | (refine op_slice_lo (e := 9) (size := 1) under23 size23 w8 rfl _ _ rfl (w.heap.size + 2) nl q _ _ rfl rfl ok8 hq ?_; intro s2 hs2)
                | (at_builtin; refine op_append9 w8 rfl _ _ rfl w4.heap.size (0 + q + 1) (nl - q) v8 s2 _ _ rfl rfl o8 hs2 HM.out.2.1 HM.out.2.2.2.2.2.1 hq3 hs8 ?_; intro v9 w9 o9 g9 p9))
              have hb49 : Below w4.heap.size w4 w9 := hb48.grown g9 hs8 (fun p h => (o8.lt p h).1)
              obtain ⟨e4, e5, ekc, ok9, ol9⟩ := HBX.out w9 hb49
              have hs9 := hb49.size
              clear g9 p9 o8 hs2 hs8 hb48 e4 ekc ok9 ok8
              go_upto_region 16 with (first
                | (refine op_slice_hi (e := 26) (size := 6) under24 size24 w9 rfl _ _ rfl (w.heap.size + 2) nl q _ _ rfl rfl ol9 hq ?_; intro s3 hs3)
                | (at_builtin; refine op_append26 w9 rfl _ _ rfl w4.heap.size 0 q (.slice none 0 0) s3 [] _ rfl rfl (World.ownsRow_nil _ _ _ _) hs3 HM.out.2.2.1 HM.out.2.2.2.2.2.2.1 hq1 hs9 ?_; intro v10 w10 o10 g10 p10))
              have hb410 : Below w4.heap.size w4 w10 := hb49.grown g10 hs9 (fun q h => by cases h)
              have o9a := o9.kept g10 (by
                cases h : v9.ownBlock with
                | none => exact .inl rfl
                | some q => exact .inr (by simp [Value.ownBlock]))
              have hv9 : ∀ p, v9.ownBlock = some p → p < w9.heap.size := fun p h => (o9.lt p h).2
              obtain ⟨W11, hW11⟩ : ∃ W11, w10.alloc (.cells #[.int .i64 a0, .bool a1, .int .i64 a2, .string a3, .slice ja a4.length jc, .slice jl a5.length jd] 26) = W11 := ⟨_, rfl⟩
              have hb1011 : Below w10.heap.size w10 W11 := hW11 ▸ (Below.refl _ _).alloc (Nat.le_refl _) _
              have hb411 : Below w4.heap.size w4 W11 := below_on hb410 hb1011
              have o1011 := own_keep o10 hb1011
              have o9b := own_keep o9a hb1011
              have hsx : SliceIs W11 (.slice (some ⟨w10.heap.size, 0, none⟩) 1 1) 1 [.int .i64 a0, .bool a1, .int .i64 a2, .string a3, .slice ja a4.length jc, .slice jl a5.length jd] := ⟨_, _, rfl, .inr ⟨w10.heap.size, 0, rfl, fun i u hu => by rw [← hW11, Nat.zero_add]; exact cell_new _ _ _ i _ (by simpa using hu)⟩⟩
              have hone6 : ∀ u ∈ ([.int .i64 a0, .bool a1, .int .i64 a2, .string a3, .slice ja a4.length jc, .slice jl a5.length jd] : List Value), u.oneCell' = true := fun u hu => by
                simp only [List.mem_cons, List.not_mem_nil, or_false] at hu
                rcases hu with rfl | rfl | rfl | rfl | rfl | rfl <;> rfl
              obtain ⟨c0, c1, c2, c3, c4, c5⟩ := HC.out
              replace c0 := (hb410.cell (p := ⟨lb, _, none⟩) hlw4).trans c0
              replace c1 := (hb410.cell (p := ⟨lb, _, none⟩) hlw4).trans c1
              replace c2 := (hb410.cell (p := ⟨lb, _, none⟩) hlw4).trans c2
              replace c3 := (hb410.cell (p := ⟨lb, _, none⟩) hlw4).trans c3
              replace c4 := (hb410.cell (p := ⟨lb, _, none⟩) hlw4).trans c4
              replace c5 := (hb410.cell (p := ⟨lb, _, none⟩) hlw4).trans c5
              have hs11 := hb411.size
              have hs910 : w9.heap.size ≤ W11.heap.size := Nat.le_trans g10.size hb1011.size
              have HW11 := hidE hW11
              have H11 := hidE (And.intro hb411 (And.intro hv9 (And.intro p10 (And.intro o9b hs910))))
              clear hs3 g10 o10 o9 o9a o9b hW11 hb1011 hb411 hb49 hb410 e5 ol9 hs9 hv9 p10 hs910
              go_upto_region 17 with (at_builtin; rw [HW11.out]; refine op_append26 W11 rfl _ _ rfl w4.heap.size (0 + q) 1 v10 _ _ [.int .i64 a0, .bool a1, .int .i64 a2, .string a3, .slice ja a4.length jc, .slice jl a5.length jd] rfl rfl o1011 hsx rfl hone6 hq2 hs11 ?_; intro v12 w12 o12 g12 p12)
              obtain ⟨hb411, hv9, p10, o9b, hs910⟩ := H11.out
              have hb412 : Below w4.heap.size w4 w12 := hb411.grown g12 hs11 (fun p h => (o1011.lt p h).1)
              have hn10 : ∀ p, v9.ownBlock = some p → v10.ownBlock ≠ some p := fun p h e => by
                have := hv9 p h
                rcases p10 with e1 | e1
                · rw [e1] at e; cases e
                · rw [e1] at e
                  have := Option.some.inj e
                  omega
              have o9c := o9b.kept g12 (by
                cases h : v9.ownBlock with
                | none => exact .inl rfl
                | some q => exact .inr (fun e => hn10 q h e.symm))
              have hn12 : ∀ p, v9.ownBlock = some p → v12.ownBlock ≠ some p := fun p h e => by
                rcases p12 with e1 | e1
                · rw [e1] at e; exact hn10 p h e
                · rw [e1] at e
                  have := Option.some.inj e
                  have := hv9 p h
                  omega
              obtain ⟨e4, e5, ekc, ok12, ol12⟩ := HBX.out w12 hb412
              have hs12 := hb412.size
              have H12 := hidE (And.intro hb412 (And.intro o9c hn12))
              clear g12 p12 o1011 hsx hone6 hs11 H11 HW11 e4 ekc ok12 c0 c1 c2 c3 c4 c5 hb411 hv9 p10 o9b hs910 hb412 hn10 o9c hn12
              go_upto_region 18 with (first
                | (refine op_slice_lo (e := 26) (size := 6) under24 size24 w12 rfl _ _ rfl (w.heap.size + 2) nl q _ _ rfl rfl ol12 hq ?_; intro s4 hs4)
                | (at_builtin; refine op_append26 w12 rfl _ _ rfl w4.heap.size (0 + q + 1) (nl - q) v12 s4 _ _ rfl rfl o12 hs4 HM.out.2.2.2.1 HM.out.2.2.2.2.2.2.2 hq3 hs12 ?_; intro v13 w13 o13 g13 p13))
              obtain ⟨hb412, o9c, hn12⟩ := H12.out
              have hb413 : Below w4.heap.size w4 w13 := hb412.grown g13 hs12 (fun p h => (o12.lt p h).1)
              have o9d := o9c.kept g13 (by
                cases h : v9.ownBlock with
                | none => exact .inl rfl
                | some q => exact .inr (fun e => hn12 q h e.symm))
              obtain ⟨ad9, cap9, rfl, -⟩ := row_any o9d
              obtain ⟨ad13, cap13, rfl, -⟩ := row_any o13
              obtain ⟨e4, e5, ekc, ok13, ol13⟩ := HBX.out w13 hb413
              have f4 := (hb413.frozen (p := ⟨w.heap.size + 1, 4, none⟩) hbx).trans (HGO.out.frz 4).2
              have f5 := (hb413.frozen (p := ⟨w.heap.size + 1, 5, none⟩) hbx).trans (HGO.out.frz 5).2
              have HNEW : Hid (RMapAt w B ks ts (j + 1) ((w13.setCell ⟨w.heap.size + 1, 4, none⟩ (.slice ad9 (0 + q + 1 + (nl - q)) cap9)).setCell ⟨w.heap.size + 1, 5, none⟩ (.slice ad13 (0 + q + 1 + (nl - q)) cap13))) := by
                obtain ⟨ok, ol, hrow, hperm, hup, hnl, had0, had1⟩ := HR.out
                obtain ⟨hkj, hx, hlx⟩ := HX.out
                obtain ⟨hp', hu'⟩ := ins_pairs hkj hx hperm hup (by rw [hnl]; exact hq) HLED.out HGT.out
                have hl' : (M.take q ++ [(k, Tree.mk a0 a1 a2 a3 a4 a5)] ++ M.drop q).length = 0 + q + 1 + (nl - q) := by simp [hnl]; omega
                have hc4 : (w13.setCell ⟨w.heap.size + 1, 4, none⟩ (.slice ad9 (0 + q + 1 + (nl - q)) cap9)).cell? ⟨w.heap.size + 1, 4, none⟩ = some (.slice ad9 (0 + q + 1 + (nl - q)) cap9) := World.cell?_setCell_same _ _ _ e4
                have hc5 : (w13.setCell ⟨w.heap.size + 1, 4, none⟩ (.slice ad9 (0 + q + 1 + (nl - q)) cap9)).cell? ⟨w.heap.size + 1, 5, none⟩ = some (.slice ad' nl cap') := (World.cell?_setCell_other _ _ _ _ (fun e => by simp only [Addr.mk.injEq] at e; omega)).trans e5
                have hD : B ≤ w4.heap.size := Nat.le_trans hB HGO.out.below.size
                have hbn : Below w.heap.size w4 ((w13.setCell ⟨w.heap.size + 1, 4, none⟩ (.slice ad9 (0 + q + 1 + (nl - q)) cap9)).setCell ⟨w.heap.size + 1, 5, none⟩ (.slice ad13 (0 + q + 1 + (nl - q)) cap13)) := ((hb413.mono HGO.out.below.size).setCell (p := ⟨w.heap.size + 1, 4, none⟩) (by show w.heap.size ≤ w.heap.size + 1; omega) _).setCell (p := ⟨w.heap.size + 1, 5, none⟩) (by show w.heap.size ≤ w.heap.size + 1; omega) _
                refine ⟨⟨.slice ad9 (0 + q + 1 + (nl - q)) cap9, .slice ad13 (0 + q + 1 + (nl - q)) cap13, [] ++ xs.take (q * 6) ++ [.int .i64 a0, .bool a1, .int .i64 a2, .string a3, .slice ja a4.length jc, .slice jl a5.length jd] ++ xs.drop (q * 6), M.take q ++ [(k, Tree.mk a0 a1 a2 a3 a4 a5)] ++ M.drop q, ?_, World.cell?_setCell_same _ _ _ hc5, ?_, ?_, ?_, hp', hu'⟩, fun o v h4 h5 h => ?_, fun o v h => ?_, fun o => ⟨?_, ?_⟩, HGO.out.below.trans hbn, Nat.le_trans HGO.out.size hbn.size⟩
                · exact (World.cell?_setCell_other _ _ _ _ (fun e => by simp only [Addr.mk.injEq] at e; omega)).trans hc4
                · rw [hl']
                  have e : (M.take q ++ [(k, Tree.mk a0 a1 a2 a3 a4 a5)] ++ M.drop q).map (fun p => Value.string p.1) = [] ++ (M.map fun p => Value.string p.1).take (q * 1) ++ [.string k] ++ (M.map fun p => Value.string p.1).drop (q * 1) := by simp [List.map_take, List.map_drop]
                  rw [e]
                  exact owns_set (owns_set (owns_mono o9d (by omega)) (by omega)) (by omega)
                · rw [hl']
                  exact owns_set (owns_set (owns_mono o13 (by omega)) (by omega)) (by omega)
                · have e : (M.take q ++ [(k, Tree.mk a0 a1 a2 a3 a4 a5)] ++ M.drop q).map Prod.snd = (M.map Prod.snd).take q ++ [Tree.mk a0 a1 a2 a3 a4 a5] ++ (M.map Prod.snd).drop q := by simp [List.map_take, List.map_drop]
                  rw [e]
                  have hr := hrow.stay (hbn.mono hB)
                  exact ((hr.takeL q).append (.cons (hlx.below (hbn.mono hB)) .nil)).append (hr.dropL q)
                · rw [World.cell?_setCell_other _ _ _ _ (fun e => by simp only [Addr.mk.injEq] at e; omega), World.cell?_setCell_other _ _ _ _ (fun e => by simp only [Addr.mk.injEq] at e; omega), hb413.cell (p := ⟨w.heap.size + 1, o, none⟩) hbx]
                  exact HGO.out.box o v h4 h5 h
                · rw [World.cell?_setCell_other _ _ _ _ (fun e => by simp only [Addr.mk.injEq] at e; omega), World.cell?_setCell_other _ _ _ _ (fun e => by simp only [Addr.mk.injEq] at e; omega), hb413.cell (p := ⟨w.heap.size, o, none⟩) (by show w.heap.size < _; omega)]
                  exact HGO.out.res o v h
                · rw [World.frozen?_setCell, World.frozen?_setCell, hb413.frozen (p := ⟨w.heap.size, o, none⟩) (by show w.heap.size < _; omega)]
                  exact (HGO.out.frz o).1
                · rw [World.frozen?_setCell, World.frozen?_setCell, hb413.frozen (p := ⟨w.heap.size + 1, o, none⟩) hbx]
                  exact (HGO.out.frz o).2
              clear g13 p13 o12 hs4 hs12 H12 ekc ok13 ol13 ol12 hb412 o9c hn12 o9d o13 hb413
              go_wp2_with fail
              go_roundw
              case rel => exact ⟨j + 1, by omega, by go_num, by have h := HNEW.out; simp only [Nat.zero_add] at h; exact h⟩
              case measure => simp [intOf]; omega
        · have HGT : Hid (∀ m, M[q]? = some m → cmpK k m.1 < 0) := fun m hm => by
            obtain ⟨h, _⟩ := List.getElem?_eq_some_iff.1 hm
            rw [HR.out.2.2.2.2.2.1] at h
            omega
          go_upto_region 8 with fail
          go_quiet (fail)
          go_upto_region 10 with fail
          go_quiet (fail)
          generalize hW5 : World.drewN _ nq = W5
          have hb45 : Below w4.heap.size w4 W5 := by rw [← hW5]; exact below_drewN' (below_drewN' (below_drewN' (Below.refl _ _) _) _) _
          clear hW5
          obtain ⟨ok, ol, hrow, hperm, hup, hnl, had0, had1⟩ := HR.out
          have hxl : xs.length = nl * 6 := ol.1
          have hyl : (M.map fun p => Value.string p.1).length = nl := by simpa using hnl
          have hbx : w.heap.size + 1 < w4.heap.size := by omega
          have HBX : Hid (∀ W, Below w4.heap.size w4 W → W.cell? ⟨w.heap.size + 1, 4, none⟩ = some (.slice ad nl cap) ∧ W.cell? ⟨w.heap.size + 1, 5, none⟩ = some (.slice ad' nl cap') ∧ W.cell? ⟨b, off + j, none⟩ = some (.string k) ∧ W.ownsRow (w.heap.size + 2) 9 1 (.slice ad nl cap) nl (M.map fun p => Value.string p.1) ∧ W.ownsRow (w.heap.size + 2) 26 6 (.slice ad' nl cap') nl xs) := fun W hb =>
            ⟨(hb.cell (p := ⟨w.heap.size + 1, 4, none⟩) hbx).trans b4, (hb.cell (p := ⟨w.heap.size + 1, 5, none⟩) hbx).trans b5, (hb.cell (p := ⟨b, off + j, none⟩) hbw4).trans hkc, own_keep ok hb, own_keep ol hb⟩
          have hm1 : ((M.map fun p => Value.string p.1).take (q * 1)).length = q := by rw [List.length_take, hyl]; omega
          have hm2 : ((M.map fun p => Value.string p.1).drop (q * 1)).length = nl - q := by rw [List.length_drop, hyl]; omega
          have hm3 : (xs.take (q * 6)).length = q * 6 := by rw [List.length_take, hxl]; omega
          have hm4 : (xs.drop (q * 6)).length = (nl - q) * 6 := by rw [List.length_drop, hxl]; omega
          have hstr : ∀ u ∈ (M.map fun p => Value.string p.1), u.oneCell' = true := fun u hu => by
            obtain ⟨p, _, rfl⟩ := List.mem_map.1 hu
            rfl
          have ho1 : ∀ u ∈ (M.map fun p => Value.string p.1).take (q * 1), u.oneCell' = true := fun u hu => hstr u (List.mem_of_mem_take hu)
          have ho2 : ∀ u ∈ (M.map fun p => Value.string p.1).drop (q * 1), u.oneCell' = true := fun u hu => hstr u (List.mem_of_mem_drop hu)
          have ho3 : ∀ u ∈ xs.take (q * 6), u.oneCell' = true := fun u hu => hrow.one u (List.mem_of_mem_take hu)
          have ho4 : ∀ u ∈ xs.drop (q * 6), u.oneCell' = true := fun u hu => hrow.one u (List.mem_of_mem_drop hu)
          have HM := hidE (And.intro hm1 (And.intro hm2 (And.intro hm3 (And.intro hm4 (And.intro ho1 (And.intro ho2 (And.intro ho3 ho4)))))))
          obtain ⟨e4, e5, ekc, ok5, ol5⟩ := HBX.out W5 hb45
          have hs5 := hb45.size
          have hq1 : 0 + q ≤ 1000000 := by omega
          clear ok ol hrow hperm hup hnl had0 had1 hxl hyl hm1 hm2 hm3 hm4 hstr ho1 ho2 ho3 ho4 b4 b5 hkc e5 ekc ol5
          go_upto_region 13 with (first
            | (refine op_slice_hi (e := 9) (size := 1) under23 size23 W5 rfl _ _ rfl (w.heap.size + 2) nl q _ _ rfl rfl ok5 hq ?_; intro s1 hs1)
            | (at_builtin; refine op_append9 W5 rfl _ _ rfl w4.heap.size 0 q (.slice none 0 0) s1 [] _ rfl rfl (World.ownsRow_nil _ _ _ _) hs1 HM.out.1 HM.out.2.2.2.2.1 hq1 hs5 ?_; intro v6 w6 o6 g6 p6))
          have hb46 : Below w4.heap.size w4 w6 := hb45.grown g6 hs5 (fun q h => by cases h)
          obtain ⟨W7, hW7⟩ : ∃ W7, w6.alloc (.cells #[.string k] 9) = W7 := ⟨_, rfl⟩
          have hb67 : Below w6.heap.size w6 W7 := hW7 ▸ (Below.refl _ _).alloc (Nat.le_refl _) _
          have hb47 : Below w4.heap.size w4 W7 := below_on hb46 hb67
          have o67 := own_keep o6 hb67
          have hsk : SliceIs W7 (.slice (some ⟨w6.heap.size, 0, none⟩) 1 1) 1 [.string k] := ⟨_, _, rfl, .inr ⟨w6.heap.size, 0, rfl, fun i u hu => by rw [← hW7, Nat.zero_add]; exact cell_new _ _ _ i _ (by simpa using hu)⟩⟩
          have hone1 : ∀ u ∈ ([.string k] : List Value), u.oneCell' = true := fun u hu => by
            simp only [List.mem_cons, List.not_mem_nil, or_false] at hu
            subst hu; rfl
          obtain ⟨e4, e5, ekc, ok6, ol6⟩ := HBX.out w6 hb46
          have hs7 := hb47.size
          have hq2 : 0 + q + 1 ≤ 1000000 := by omega
          have HW7 := hidE hW7
          have H7 := hidE hb47
          clear hs1 g6 p6 o6 hW7 hb67 hb47 hb45 hb46 e4 e5 ok6 ol6 ok5 hs5
          go_upto_region 14 with (at_builtin; rw [HW7.out]; refine op_append9 W7 rfl _ _ rfl w4.heap.size (0 + q) 1 v6 _ _ [.string k] rfl rfl o67 hsk rfl hone1 hq2 hs7 ?_; intro v8 w8 o8 g8 p8)
          have hb48 : Below w4.heap.size w4 w8 := H7.out.grown g8 hs7 (fun p h => (o67.lt p h).1)
          obtain ⟨e4, e5, ekc, ok8, ol8⟩ := HBX.out w8 hb48
          have hs8 := hb48.size
          have hq3 : 0 + q + 1 + (nl - q) ≤ 1000000 := by omega
          clear g8 p8 o67 hsk hone1 hs7 H7 HW7 e5 ekc ol8
          go_upto_region 15 with (first
            | (refine op_slice_lo (e := 9) (size := 1) under23 size23 w8 rfl _ _ rfl (w.heap.size + 2) nl q _ _ rfl rfl ok8 hq ?_; intro s2 hs2)
            | (at_builtin; refine op_append9 w8 rfl _ _ rfl w4.heap.size (0 + q + 1) (nl - q) v8 s2 _ _ rfl rfl o8 hs2 HM.out.2.1 HM.out.2.2.2.2.2.1 hq3 hs8 ?_; intro v9 w9 o9 g9 p9))
          have hb49 : Below w4.heap.size w4 w9 := hb48.grown g9 hs8 (fun p h => (o8.lt p h).1)
          obtain ⟨e4, e5, ekc, ok9, ol9⟩ := HBX.out w9 hb49
          have hs9 := hb49.size
          clear g9 p9 o8 hs2 hs8 hb48 e4 ekc ok9 ok8
          go_upto_region 16 with (first
            | (refine op_slice_hi (e := 26) (size := 6) under24 size24 w9 rfl _ _ rfl (w.heap.size + 2) nl q _ _ rfl rfl ol9 hq ?_; intro s3 hs3)
            | (at_builtin; refine op_append26 w9 rfl _ _ rfl w4.heap.size 0 q (.slice none 0 0) s3 [] _ rfl rfl (World.ownsRow_nil _ _ _ _) hs3 HM.out.2.2.1 HM.out.2.2.2.2.2.2.1 hq1 hs9 ?_; intro v10 w10 o10 g10 p10))
          have hb410 : Below w4.heap.size w4 w10 := hb49.grown g10 hs9 (fun q h => by cases h)
          have o9a := o9.kept g10 (by
            cases h : v9.ownBlock with
            | none => exact .inl rfl
            | some q => exact .inr (by simp [Value.ownBlock]))
          have hv9 : ∀ p, v9.ownBlock = some p → p < w9.heap.size := fun p h => (o9.lt p h).2
          obtain ⟨W11, hW11⟩ : ∃ W11, w10.alloc (.cells #[.int .i64 a0, .bool a1, .int .i64 a2, .string a3, .slice ja a4.length jc, .slice jl a5.length jd] 26) = W11 := ⟨_, rfl⟩
          have hb1011 : Below w10.heap.size w10 W11 := hW11 ▸ (Below.refl _ _).alloc (Nat.le_refl _) _
          have hb411 : Below w4.heap.size w4 W11 := below_on hb410 hb1011
          have o1011 := own_keep o10 hb1011
          have o9b := own_keep o9a hb1011
          have hsx : SliceIs W11 (.slice (some ⟨w10.heap.size, 0, none⟩) 1 1) 1 [.int .i64 a0, .bool a1, .int .i64 a2, .string a3, .slice ja a4.length jc, .slice jl a5.length jd] := ⟨_, _, rfl, .inr ⟨w10.heap.size, 0, rfl, fun i u hu => by rw [← hW11, Nat.zero_add]; exact cell_new _ _ _ i _ (by simpa using hu)⟩⟩
          have hone6 : ∀ u ∈ ([.int .i64 a0, .bool a1, .int .i64 a2, .string a3, .slice ja a4.length jc, .slice jl a5.length jd] : List Value), u.oneCell' = true := fun u hu => by
            simp only [List.mem_cons, List.not_mem_nil, or_false] at hu
            rcases hu with rfl | rfl | rfl | rfl | rfl | rfl <;> rfl
          obtain ⟨c0, c1, c2, c3, c4, c5⟩ := HC.out
          replace c0 := (hb410.cell (p := ⟨lb, _, none⟩) hlw4).trans c0
          replace c1 := (hb410.cell (p := ⟨lb, _, none⟩) hlw4).trans c1
          replace c2 := (hb410.cell (p := ⟨lb, _, none⟩) hlw4).trans c2
          replace c3 := (hb410.cell (p := ⟨lb, _, none⟩) hlw4).trans c3
          replace c4 := (hb410.cell (p := ⟨lb, _, none⟩) hlw4).trans c4
          replace c5 := (hb410.cell (p := ⟨lb, _, none⟩) hlw4).trans c5
          have hs11 := hb411.size
          have hs910 : w9.heap.size ≤ W11.heap.size := Nat.le_trans g10.size hb1011.size
          have HW11 := hidE hW11
          have H11 := hidE (And.intro hb411 (And.intro hv9 (And.intro p10 (And.intro o9b hs910))))
          clear hs3 g10 o10 o9 o9a o9b hW11 hb1011 hb411 hb49 hb410 e5 ol9 hs9 hv9 p10 hs910
          go_upto_region 17 with (at_builtin; rw [HW11.out]; refine op_append26 W11 rfl _ _ rfl w4.heap.size (0 + q) 1 v10 _ _ [.int .i64 a0, .bool a1, .int .i64 a2, .string a3, .slice ja a4.length jc, .slice jl a5.length jd] rfl rfl o1011 hsx rfl hone6 hq2 hs11 ?_; intro v12 w12 o12 g12 p12)
          obtain ⟨hb411, hv9, p10, o9b, hs910⟩ := H11.out
          have hb412 : Below w4.heap.size w4 w12 := hb411.grown g12 hs11 (fun p h => (o1011.lt p h).1)
          have hn10 : ∀ p, v9.ownBlock = some p → v10.ownBlock ≠ some p := fun p h e => by
            have := hv9 p h
            rcases p10 with e1 | e1
            · rw [e1] at e; cases e
            · rw [e1] at e
              have := Option.some.inj e
              omega
          have o9c := o9b.kept g12 (by
            cases h : v9.ownBlock with
            | none => exact .inl rfl
            | some q => exact .inr (fun e => hn10 q h e.symm))
          have hn12 : ∀ p, v9.ownBlock = some p → v12.ownBlock ≠ some p := fun p h e => by
            rcases p12 with e1 | e1
            · rw [e1] at e; exact hn10 p h e
            · rw [e1] at e
              have := Option.some.inj e
              have := hv9 p h
              omega
          obtain ⟨e4, e5, ekc, ok12, ol12⟩ := HBX.out w12 hb412
          have hs12 := hb412.size
          have H12 := hidE (And.intro hb412 (And.intro o9c hn12))
          clear g12 p12 o1011 hsx hone6 hs11 H11 HW11 e4 ekc ok12 c0 c1 c2 c3 c4 c5 hb411 hv9 p10 o9b hs910 hb412 hn10 o9c hn12
          go_upto_region 18 with (first
            | (refine op_slice_lo (e := 26) (size := 6) under24 size24 w12 rfl _ _ rfl (w.heap.size + 2) nl q _ _ rfl rfl ol12 hq ?_; intro s4 hs4)
            | (at_builtin; refine op_append26 w12 rfl _ _ rfl w4.heap.size (0 + q + 1) (nl - q) v12 s4 _ _ rfl rfl o12 hs4 HM.out.2.2.2.1 HM.out.2.2.2.2.2.2.2 hq3 hs12 ?_; intro v13 w13 o13 g13 p13))
          obtain ⟨hb412, o9c, hn12⟩ := H12.out
          have hb413 : Below w4.heap.size w4 w13 := hb412.grown g13 hs12 (fun p h => (o12.lt p h).1)
          have o9d := o9c.kept g13 (by
            cases h : v9.ownBlock with
            | none => exact .inl rfl
            | some q => exact .inr (fun e => hn12 q h e.symm))
          obtain ⟨ad9, cap9, rfl, -⟩ := row_any o9d
          obtain ⟨ad13, cap13, rfl, -⟩ := row_any o13
          obtain ⟨e4, e5, ekc, ok13, ol13⟩ := HBX.out w13 hb413
          have f4 := (hb413.frozen (p := ⟨w.heap.size + 1, 4, none⟩) hbx).trans (HGO.out.frz 4).2
          have f5 := (hb413.frozen (p := ⟨w.heap.size + 1, 5, none⟩) hbx).trans (HGO.out.frz 5).2
          have HNEW : Hid (RMapAt w B ks ts (j + 1) ((w13.setCell ⟨w.heap.size + 1, 4, none⟩ (.slice ad9 (0 + q + 1 + (nl - q)) cap9)).setCell ⟨w.heap.size + 1, 5, none⟩ (.slice ad13 (0 + q + 1 + (nl - q)) cap13))) := by
            obtain ⟨ok, ol, hrow, hperm, hup, hnl, had0, had1⟩ := HR.out
            obtain ⟨hkj, hx, hlx⟩ := HX.out
            obtain ⟨hp', hu'⟩ := ins_pairs hkj hx hperm hup (by rw [hnl]; exact hq) HLED.out HGT.out
            have hl' : (M.take q ++ [(k, Tree.mk a0 a1 a2 a3 a4 a5)] ++ M.drop q).length = 0 + q + 1 + (nl - q) := by simp [hnl]; omega
            have hc4 : (w13.setCell ⟨w.heap.size + 1, 4, none⟩ (.slice ad9 (0 + q + 1 + (nl - q)) cap9)).cell? ⟨w.heap.size + 1, 4, none⟩ = some (.slice ad9 (0 + q + 1 + (nl - q)) cap9) := World.cell?_setCell_same _ _ _ e4
            have hc5 : (w13.setCell ⟨w.heap.size + 1, 4, none⟩ (.slice ad9 (0 + q + 1 + (nl - q)) cap9)).cell? ⟨w.heap.size + 1, 5, none⟩ = some (.slice ad' nl cap') := (World.cell?_setCell_other _ _ _ _ (fun e => by simp only [Addr.mk.injEq] at e; omega)).trans e5
            have hD : B ≤ w4.heap.size := Nat.le_trans hB HGO.out.below.size
            have hbn : Below w.heap.size w4 ((w13.setCell ⟨w.heap.size + 1, 4, none⟩ (.slice ad9 (0 + q + 1 + (nl - q)) cap9)).setCell ⟨w.heap.size + 1, 5, none⟩ (.slice ad13 (0 + q + 1 + (nl - q)) cap13)) := ((hb413.mono HGO.out.below.size).setCell (p := ⟨w.heap.size + 1, 4, none⟩) (by show w.heap.size ≤ w.heap.size + 1; omega) _).setCell (p := ⟨w.heap.size + 1, 5, none⟩) (by show w.heap.size ≤ w.heap.size + 1; omega) _
            refine ⟨⟨.slice ad9 (0 + q + 1 + (nl - q)) cap9, .slice ad13 (0 + q + 1 + (nl - q)) cap13, [] ++ xs.take (q * 6) ++ [.int .i64 a0, .bool a1, .int .i64 a2, .string a3, .slice ja a4.length jc, .slice jl a5.length jd] ++ xs.drop (q * 6), M.take q ++ [(k, Tree.mk a0 a1 a2 a3 a4 a5)] ++ M.drop q, ?_, World.cell?_setCell_same _ _ _ hc5, ?_, ?_, ?_, hp', hu'⟩, fun o v h4 h5 h => ?_, fun o v h => ?_, fun o => ⟨?_, ?_⟩, HGO.out.below.trans hbn, Nat.le_trans HGO.out.size hbn.size⟩
            · exact (World.cell?_setCell_other _ _ _ _ (fun e => by simp only [Addr.mk.injEq] at e; omega)).trans hc4
            · rw [hl']
              have e : (M.take q ++ [(k, Tree.mk a0 a1 a2 a3 a4 a5)] ++ M.drop q).map (fun p => Value.string p.1) = [] ++ (M.map fun p => Value.string p.1).take (q * 1) ++ [.string k] ++ (M.map fun p => Value.string p.1).drop (q * 1) := by simp [List.map_take, List.map_drop]
              rw [e]
              exact owns_set (owns_set (owns_mono o9d (by omega)) (by omega)) (by omega)
            · rw [hl']
              exact owns_set (owns_set (owns_mono o13 (by omega)) (by omega)) (by omega)
            · have e : (M.take q ++ [(k, Tree.mk a0 a1 a2 a3 a4 a5)] ++ M.drop q).map Prod.snd = (M.map Prod.snd).take q ++ [Tree.mk a0 a1 a2 a3 a4 a5] ++ (M.map Prod.snd).drop q := by simp [List.map_take, List.map_drop]
              rw [e]
              have hr := hrow.stay (hbn.mono hB)
              exact ((hr.takeL q).append (.cons (hlx.below (hbn.mono hB)) .nil)).append (hr.dropL q)
            · rw [World.cell?_setCell_other _ _ _ _ (fun e => by simp only [Addr.mk.injEq] at e; omega), World.cell?_setCell_other _ _ _ _ (fun e => by simp only [Addr.mk.injEq] at e; omega), hb413.cell (p := ⟨w.heap.size + 1, o, none⟩) hbx]
              exact HGO.out.box o v h4 h5 h
            · rw [World.cell?_setCell_other _ _ _ _ (fun e => by simp only [Addr.mk.injEq] at e; omega), World.cell?_setCell_other _ _ _ _ (fun e => by simp only [Addr.mk.injEq] at e; omega), hb413.cell (p := ⟨w.heap.size, o, none⟩) (by show w.heap.size < _; omega)]
              exact HGO.out.res o v h
            · rw [World.frozen?_setCell, World.frozen?_setCell, hb413.frozen (p := ⟨w.heap.size, o, none⟩) (by show w.heap.size < _; omega)]
              exact (HGO.out.frz o).1
            · rw [World.frozen?_setCell, World.frozen?_setCell, hb413.frozen (p := ⟨w.heap.size + 1, o, none⟩) hbx]
              exact (HGO.out.frz o).2
          clear g13 p13 o12 hs4 hs12 H12 ekc ok13 ol13 ol12 hb412 o9c hn12 o9d o13 hb413
          go_wp2_with fail
          go_roundw
          case rel => exact ⟨j + 1, by omega, by go_num, by have h := HNEW.out; simp only [Nat.zero_add] at h; exact h⟩
          case measure => simp [intOf]; omega
    · obtain rfl : j = ks.length := by omega
      obtain ⟨ok, ol, hrow, hperm, hup, hnl, -, -⟩ := HR.out
      have hzip : (ks.take ks.length).zip (ts.take ks.length) = ks.zip ts := by rw [List.take_of_length_le (Nat.le_refl _), List.take_of_length_le (by have := HLEN.out; omega)]
      rw [hzip] at hperm
      have HMO : Hid (MapOf ks ts M) := ⟨hperm, hup⟩
      have y0 := HGO.out.box 0 _ (by decide) (by decide) rfl
      have y1 := HGO.out.box 1 _ (by decide) (by decide) rfl
      have y2 := HGO.out.box 2 _ (by decide) (by decide) rfl
      have y3 := HGO.out.box 3 _ (by decide) (by decide) rfl
      have m0 := HGO.out.res 0 _ rfl
      have m1 := HGO.out.res 1 _ rfl
      have m2 := HGO.out.res 2 _ rfl
      have m3 := HGO.out.res 3 _ rfl
      have m4 := HGO.out.res 4 _ rfl
      have m5 := HGO.out.res 5 _ rfl
      have n0 := (HGO.out.frz 0).1
      have n1 := (HGO.out.frz 1).1
      have n2 := (HGO.out.frz 2).1
      have n3 := (HGO.out.frz 3).1
      have n4 := (HGO.out.frz 4).1
      have n5 := (HGO.out.frz 5).1
      have HFB : Hid (Below w.heap.size w (six w4 w.heap.size 0 (.int .i64 5) (.bool false) (.int .i64 0) (.string ⟨#[]⟩) (.slice ad nl cap) (.slice ad' nl cap'))) := six_below HGO.out.below (Nat.le_refl _) _ _ _ _ _ _
      have HFL := hidE (rmap_lies (A := w.heap.size + 2) (B := B) (w' := six w4 w.heap.size 0 (.int .i64 5) (.bool false) (.int .i64 0) (.string ⟨#[]⟩) (.slice ad nl cap) (.slice ad' nl cap')) hnl ok ol hrow (by omega) (by omega) (fun p hp => by
        have hpk : p.1 ∈ ks := (HMO.out.keys HLEN.out).subset (List.mem_map_of_mem hp)
        obtain ⟨i, hi⟩ := List.mem_iff_getElem?.1 hpk
        obtain ⟨hi1, hi2⟩ := List.getElem?_eq_some_iff.1 hi
        rcases HKL.out.1 with e | ⟨_, _, _, _, h⟩
        · rw [e] at hi1; simp at hi1
        · have := (h i hi1).2
          rwa [List.getD_eq_getElem?_getD, hi] at this) (fun q hq => six_heap (by omega)) ((six_below (Below.refl _ _) (Nat.le_refl _) _ _ _ _ _ _).mono hB))
      clear ok ol hrow hperm hup hnl hzip
      go_wp2_with fail
      exact bodyPost_ret (v := .tuple #[.agg #[.int .i64 5, .bool false, .int .i64 0, .string ⟨#[]⟩, .slice ad nl cap, .slice ad' nl cap'], .int .i64 0]) (by simp [results, Tryz.results51, go_sem, m0, m1, m2, m3, m4, m5]) rfl ⟨.inl ⟨⟨HLEN.out, HMO.out.nodup HLEN.out⟩, _, _, rfl, HMO.out, HFL.out⟩, HFB.out⟩
end Go.Proofs.YtbpmhgcjefpigaaGreatDoor
