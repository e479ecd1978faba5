/- The reference's From. -/
import Derived.Test.YthfilnflgahcjaaGreatDoorJoin32
import Derived.Test.YthfilnflgahcjaaGreatDoorJoin30
import Derived.Test.YthfilnflgahcjaaGreatDoorJoin2
import Derived.Test.YthfilnflgahcjaaGreatDoorCalm6
namespace Go.Proofs.YthfilnflgahcjaaGreatDoor
open Go.RowKit Go.Shelf Go.Maps
set_option linter.unusedVariables false
set_option linter.unusedSimpArgs false
attribute [local go_sem] Oper.semAt_some
theorem upC_eq (w : World) : upC w = fun w' => ∃ u : Up w, w' = u.x := rfl
set_option maxRecDepth 100000 in
set_option maxHeartbeats 16000000 in
theorem rfrom_any (s : StatP) (vl vt ve vk vs : Value) (lab : ByteArray) (dir : Int) (ls : List ByteArray) (B : Nat) (w : World) (hB : B ≤ w.heap.size) (h : StatL B w vl vt ve vk s) (hs : SRow 1 strE B w vs ls) (hlab : okS lab) (hok : ∀ x ∈ ls, okS x) (hl : ls.length ≤ 100000) : Calls Tryz.prog 29 #[statV s vl vt ve vk, .string lab, .int .i64 dir, vs] w fun e w' => e = .returned (.int .i64 (rfromI s lab dir ls)) ∧ Below w.heap.size w w' := by
  obtain ⟨T, hT⟩ : ∃ T, (if ls = [] then s.types.map (fun x => x.1) else ls) = T := ⟨_, rfl⟩
  have HTO : ∀ x ∈ T, okS x := by
    intro x hx
    rw [← hT] at hx
    split at hx
    · obtain ⟨y, hy, rfl⟩ := List.mem_map.1 hx
      exact h.ot y hy
    · exact hok x hx
  have HTL : T.length ≤ 100000 := by
    rw [← hT]
    split
    · rw [List.length_map]; exact h.nt
    · exact hl
  have HEN : Hid (∀ W x o, Below w.heap.size w W → x ∈ T → Calls Tryz.prog 23 #[statV s vl vt ve vk, .string x, .string lab, .bool o] W fun e w' => e = .returned (.int .i64 (rendI s x lab o)) ∧ Below W.heap.size W w') := fun W x o hb hx => rend_any s vl vt ve vk x lab o B W (Nat.le_trans hB hb.size) (h.keep (hb.mono hB)) (HTO x hx) hlab
  have HL : Hid (∀ W, Below w.heap.size w W → Calls Tryz.prog 18 #[statV s vl vt ve vk, .slice (some ⟨W.heap.size, 0, none⟩) 1 1] (W.alloc (.cells #[.string lab] 9)) fun e w' => e = .returned (.int .i64 (rlabelledI s [lab])) ∧ Below (W.alloc (.cells #[.string lab] 9)).heap.size (W.alloc (.cells #[.string lab] 9)) w') := fun W hb => rlabelled_any s vl vt ve vk _ [lab] _ _ (Nat.le_refl _) ((h.up (hb.mono hB) (Nat.le_trans hB hb.size)).up (below_new _ _) (below_new W _).size) (srow_new (k := 1) (enc := strE) (fun _ => rfl) W [lab] #[.string lab] 9 rfl (show 1 ≤ 9223372036854775807 by decide)) (fun x hx => by simp only [List.mem_cons, List.not_mem_nil, or_false] at hx; rw [hx]; exact hlab)
  have HFR : rfromI s lab dir ls = shareI (plusI (fromL s lab dir [] T)) (rlabelledI s [lab]) := by
    unfold rfromI
    rw [hT]
  rw [HFR]
  clear HFR
  generalize rlabelledI s [lab] = L at *
  have HSH : Hid (∀ a W, Calls Tryz.prog 33 #[.int .i64 a, .int .i64 L] W fun e w' => e = .returned (.int .i64 (shareI a L)) ∧ w' = W) := fun a W => rshare_any a L W
  have HS := hidE (fun W (hb : Below w.heap.size w W) => (hs.keep (hb.mono hB)).mono (Nat.le_trans hB hb.size))
  have HTY := hidE h.ht
  have HNT := h.nt
  obtain ⟨F, hF⟩ : ∃ F, fromL s lab dir [] T = F := ⟨_, rfl⟩
  rw [hF]
  have HF := hidE hF
  clear hF
  obtain ⟨S, hS⟩ : ∃ S, s = S := ⟨_, rfl⟩
  obtain ⟨E, hE⟩ : ∃ E : ByteArray → Bool → Int, (fun x o => rendI s x lab o) = E := ⟨_, rfl⟩
  have HE2 : Hid (∀ x, fromE s lab dir x = (if 0 ≤ dir then [E x true] else []) ++ (if dir ≤ 0 then [E x false] else [])) := fun x => by rw [← hE]; rfl
  have HEN2 : Hid (∀ W x o, Below w.heap.size w W → x ∈ T → Calls Tryz.prog 23 #[statV s vl vt ve vk, .string x, .string lab, .bool o] W fun e w' => e = .returned (.int .i64 (E x o)) ∧ Below W.heap.size W w') := by rw [← hE]; exact HEN.out
  clear HEN hE
  obtain ⟨la, lc, rfl, _⟩ := h.hl
  obtain ⟨ta, tc, rfl, t1, t2, t3⟩ := h.ht
  obtain ⟨ea, ec, rfl, _⟩ := h.he
  obtain ⟨ka, kc, rfl, _⟩ := h.hk
  obtain ⟨sa, sc, rfl, _⟩ := hs
  have HT3 := hidE t3
  obtain ⟨TS, hTS⟩ : ∃ q, s.types = q := ⟨_, rfl⟩
  rw [hTS] at HT3 HNT hT HTY
  unfold statV at *
  rw [hTS] at HEN2 HL t1 ⊢
  obtain ⟨mt, hmt⟩ : ∃ q, TS.length = q := ⟨_, rfl⟩
  have HMT := hidE hmt
  rw [hmt] at HEN2 HL t1 HNT ⊢
  generalize s.nodes = n at *
  generalize s.rels = r at *
  generalize s.labels.length = l1 at *
  generalize s.ends.length = l3 at *
  generalize s.keys.length = l4 at *
  clear h hok hS hTS t3 hmt
  by_cases h0 : ls = []
  · subst h0
    rw [if_pos rfl] at hT
    simp only [List.length_nil]
    clear HS
    have HTT := hidE hT
    clear hT
    go_enter Tryz.func29, Tryz.ntmps29
    go_upto_region 1 with fail
    have HW0 := hidE (below_new w (.cells #[.int .i64 n, .int .i64 r, .slice la l1 lc, .slice ta mt tc, .slice ea l3 ec, .slice ka l4 kc] 33))
    have HX0 := hidE (sbox_new w (.int .i64 n) (.int .i64 r) (.slice la l1 lc) (.slice ta mt tc) (.slice ea l3 ec) (.slice ka l4 kc) 33)
    generalize w.alloc (.cells #[.int .i64 n, .int .i64 r, .slice la l1 lc, .slice ta mt tc, .slice ea l3 ec, .slice ka l4 kc] 33) = W1 at *
    go_wp2_with fail
    go_loopw [9, 10] (fun v i wr => ∃ j : Nat, j ≤ mt ∧ i = .int .i64 j ∧ Below W1.heap.size W1 wr ∧ ORow 9 1 strE W1.heap.size wr v ((TS.take j).map (fun x : ByteArray × Int => x.1))) (fun _ i _ => mt - (intOf i).toNat)
    case atStart => exact ⟨0, Nat.zero_le _, rfl, Below.refl _ _, orow_nil _ _ _ _ _⟩
    case round =>
      obtain ⟨j, hj, rfl, hbr, hor⟩ := hrel
      have HBR := hidE hbr
      have HOR := hidE hor
      have HB1 := hidE (Below.on HW0.out hbr)
      have HX1 := hidE (HX0.out.keep hbr)
      clear hbr hor
      have e3 := HX1.out.c3
      by_cases hlt : j < mt
      · have hlt' : (j : Int) < mt := by omega
        obtain ⟨⟨y, q⟩, hx⟩ : ∃ q, TS[j]? = some q := ⟨_, List.getElem?_eq_getElem (by have := HMT.out; omega)⟩
        obtain ⟨bl, off, rfl, hbl, hc⟩ := HT3.out.resolve_left (by intro e; rw [e] at hx; simp at hx)
        have c0 := (HB1.out.cell (p := ⟨bl, off + j * 2 + 0, none⟩) (Nat.lt_of_lt_of_le hbl hB)).trans (hc j (y, q) hx 0 _ rfl)
        rw [Nat.add_zero] at c0
        simp only at c0
        have HX := hidE hx
        clear hx hc
        obtain ⟨v6, W6, p1, p2, p3, p4⟩ := append_one (ty := 43) (c := 1) (bl := wr.heap.size) (off := 0) (x := y) elem43 (fun x => rfl) one_str (HOR.out.below ((Below.refl _ _).alloc (Nat.le_refl _) (.cells #[.string y] 9))) (fun jj u hu => by
          rw [Nat.zero_add]
          exact cell_new _ _ _ _ _ (by simpa [strE] using hu)) (by rw [List.length_map, List.length_take]; omega) (Nat.le_trans HBR.out.size (by simp))
        have HP := hidE (And.intro p2 p3)
        clear p2 p3 p4
        go_wp2_with (first
          | (at_builtin; refine Lib.wpList_append_run _ rfl _ _ _ _ rfl _ _ rfl rfl _ _ p1 ?_))
        go_roundw
        case rel =>
          obtain ⟨p2, p3⟩ := HP.out
          refine ⟨j + 1, by omega, by go_num, ?_, ?_⟩
          · exact (HBR.out.alloc HBR.out.size _).trans p3
          · rw [List.take_add_one, HX.out, List.map_append]
            exact p2
        case measure => simp [intOf]; omega
      · have hlt' : ¬ (j : Int) < mt := by omega
        have HL2 := HOR.out
        rw [List.take_of_length_le (by have := HMT.out; omega), HTT.out] at HL2
        have HTW := hidE (ORow.srow (enc := strE) (k := 1) (fun _ => rfl) HL2)
        obtain ⟨va, vc, rfl⟩ := HL2.slice
        clear HL2 HOR HT3 HTY
        go_upto_region 8 with fail
        clear e3
        obtain ⟨lT, hlT⟩ : ∃ q, T.length = q := ⟨_, rfl⟩
        rw [hlT] at HTW HTL ⊢
        have HMM := hidE hlT
        have HTR := hidE HTW.out
        obtain ⟨_, _, ev, v2, v3, v4⟩ := HTW.out
        injection ev with ea1 ea2 ea3
        subst ea1 ea3
        have H4 := hidE v4
        rw [hlT] at v2
        clear v4 ea2 hlT
        obtain ⟨W2, hW2⟩ : ∃ W, W = wr := ⟨_, rfl⟩
        subst hW2
        have HBW := HB1
        have HXW := HX1
        clear HB1 HX1
        go_wp2_with fail
        go_loopw [11, 12] (fun v i wr => ∃ (xs : List Int) (j : Nat), j ≤ lT ∧ xs.length ≤ 2 * j ∧ i = .int .i64 j ∧ ORow 2 1 intE W2.heap.size wr v xs ∧ xs ++ fromL s lab dir (T.take j) (T.drop j) = F ∧ Below W2.heap.size W2 wr) (fun _ i _ => lT - (intOf i).toNat)
        case atStart => exact ⟨[], 0, Nat.zero_le _, Nat.zero_le _, rfl, orow_nil _ _ _ _ _, HF.out, Below.refl _ _⟩
        case round =>
          obtain ⟨xs, j, hj, hxl, rfl, hor, hrs, hbr⟩ := hrel
          have HRS := hidE hrs
          have HBR := hidE hbr
          have HOR := hidE hor
          have HB1 := hidE (Below.on HBW.out hbr)
          have HX1 := hidE (HXW.out.keep hbr)
          have HT1 := hidE (HTR.out.keep hbr)
          clear hrs hbr hor
          by_cases hlt : j < lT
          · have hlt' : (j : Int) < lT := by omega
            obtain ⟨x, hx⟩ : ∃ q, T[j]? = some q := ⟨_, List.getElem?_eq_getElem (by have := HMM.out; omega)⟩
            obtain ⟨bl, off, rfl, hbl, hc⟩ := H4.out.resolve_left (by intro e; rw [e] at hx; simp at hx)
            have c2 := hc j x hx 0 _ rfl
            rw [Nat.mul_one, Nat.add_zero] at c2
            have cx := (HBR.out.cell (p := ⟨bl, off + j, none⟩) hbl).trans c2
            have HC2 := hidE c2
            clear c2
            have HRS2 := HRS.out
            rw [fromL_at (s := s) (lab := lab) (dir := dir) hx] at HRS2
            replace HRS2 := hidE HRS2
            have HHAS : Hid (∀ W, Below wr.heap.size wr W → Calls Tryz.prog 49 #[.slice (some ⟨bl, off, none⟩) j vc, .string x] W fun e w' => e = .returned (.bool (rhasB x (T.take j))) ∧ Below W.heap.size W w') := fun W hb => (rhas_any (T.take j) x _ _ W (srow_take (HT1.out.keep (hb.mono HBR.out.size)) hj)).mono fun e w' h => ⟨h.1, by rw [h.2]; exact Below.refl _ _⟩
            have HEX : Hid (∀ W o, Below w.heap.size w W → Calls Tryz.prog 23 #[.agg #[.int .i64 n, .int .i64 r, .slice la l1 lc, .slice ta mt tc, .slice ea l3 ec, .slice ka l4 kc], .string x, .string lab, .bool o] W fun e w' => e = .returned (.int .i64 (E x o)) ∧ Below W.heap.size W w') := fun W o hb => HEN2.out W x o hb (List.mem_of_getElem? hx)
            clear hx hc
            obtain ⟨hb, hhb⟩ : ∃ b, rhasB x (T.take j) = b := ⟨_, rfl⟩
            rw [hhb] at HHAS HRS2
            clear hhb
            have fx : ∀ u : Up wr, u.x.cell? ⟨bl, off + j, none⟩ = some (.string x) := fun u => u.cell cx
            have up_ne : Nonempty (Up wr) := ⟨⟨wr, Below.refl _ _⟩⟩
            go_upto_region 12 with fail
            refine wp_up (by kernel_rfl) (by kernel_rfl) ?_
            repeat (go_big_quiet_step (first | (go_at_call 49; exact Up.call (HHAS.out _ (Up.b _)))))
            refine wpQuiet_nil ?_
            rintro w4 ⟨⟨W4, hb4⟩, rfl⟩
            have HB4 := hidE (Below.on HBR.out hb4)
            have HB5 := hidE (Below.on HB1.out hb4)
            have HX4 := hidE (HX1.out.keep hb4)
            have HO4 := hidE (HOR.out.below hb4)
            have cx4 := (hb4.cell (p := ⟨bl, off + j, none⟩) (Nat.lt_of_lt_of_le hbl HBR.out.size)).trans cx
            clear fx up_ne hb4 HHAS cx HX1 HBR HB1 HRS HOR HT1
            cases hb
            · have HRS3 : Hid (xs ++ (fromE s lab dir x ++ fromL s lab dir (T.take (j + 1)) (T.drop (j + 1))) = F) := HRS2.out
              have HEE := HE2.out x
              clear HRS2 cx4 HX4
              by_cases d1 : 0 ≤ dir
              · go_upto_region 14 with fail
                have HDr := hidE (Below.on HB4.out ((Below.refl _ w4).drew))
                have HXt := hidE (HXW.out.keep HDr.out)
                have f0 : ∀ u : Up w4.drew, u.x.cell? ⟨w.heap.size, 0, none⟩ = some (.int .i64 n) := fun u => u.cell HXt.out.c0
                have f1 : ∀ u : Up w4.drew, u.x.cell? ⟨w.heap.size, 1, none⟩ = some (.int .i64 r) := fun u => u.cell HXt.out.c1
                have f2 : ∀ u : Up w4.drew, u.x.cell? ⟨w.heap.size, 2, none⟩ = some (.slice la l1 lc) := fun u => u.cell HXt.out.c2
                have f3 : ∀ u : Up w4.drew, u.x.cell? ⟨w.heap.size, 3, none⟩ = some (.slice ta mt tc) := fun u => u.cell HXt.out.c3
                have f4 : ∀ u : Up w4.drew, u.x.cell? ⟨w.heap.size, 4, none⟩ = some (.slice ea l3 ec) := fun u => u.cell HXt.out.c4
                have f5 : ∀ u : Up w4.drew, u.x.cell? ⟨w.heap.size, 5, none⟩ = some (.slice ka l4 kc) := fun u => u.cell HXt.out.c5
                have fx : ∀ u : Up w4.drew, u.x.cell? ⟨bl, off + j, none⟩ = some (.string x) := fun u => u.cell ((HDr.out.cell (p := ⟨bl, off + j, none⟩) hbl).trans HC2.out)
                have up_ne : Nonempty (Up w4.drew) := ⟨⟨w4.drew, Below.refl _ _⟩⟩
                have HBo := hidE (Below.on HBW.out HB4.out)
                have HXC : Hid (∀ W, Below w.heap.size w W → Calls Tryz.prog 23 #[.agg #[.int .i64 n, .int .i64 r, .slice la l1 lc, .slice ta mt tc, .slice ea l3 ec, .slice ka l4 kc], .string x, .string lab, .bool true] W fun e w' => e = .returned (.int .i64 (E x true)) ∧ Below W.heap.size W w') := fun W hb => HEX.out W true hb
                refine wp_calm [([0, 1, 2, 3, 4, 5, 6], 7), ([], 8)] [] [9, 10] (by kernel_rfl) (by kernel_rfl) ?_
                simp only [wpCalm, wpLoud, pickL, nthL, upC_eq]
                repeat (go_big_quiet_step (fail))
                refine wpQuiet_nil ?_
                have HDo := hidE (Below.on HBo.out ((Below.refl _ w4).drew))
                go_wp2_with (first | (go_at_call 23; refine (HXC.out _ HDo.out).mono ?_; rintro e wa ⟨rfl, hba⟩))
                refine ⟨hba, wpQuiet_nil ?_⟩
                have hda : Below w4.heap.size w4 wa := Below.on ((Below.refl _ w4).drew) hba
                have HOq := hidE (HO4.out.below hda)
                have HBq := hidE (Below.on HB4.out hda)
                clear hda HDo HDr
                clear f0 f1 f2 f3 f4 f5 fx up_ne HXC HXt HBo hba
                obtain ⟨va, Qa, p1, p2, p3, p4⟩ := append_one (ty := 44) (c := 1) (bl := wa.heap.size) (off := 0) (x := E x true) elem44 (fun x => rfl) one_int (HOq.out.below ((Below.refl _ _).alloc (Nat.le_refl _) (.cells #[.int .i64 (E x true)] 2))) (fun jj u hu => by
                  rw [Nat.zero_add]
                  exact cell_new _ _ _ _ _ (by simpa [intE] using hu)) (by first | omega | (simp; omega)) (Nat.le_trans HBq.out.size (by simp))
                have HOa := hidE p2
                have HBa := hidE ((HBq.out.alloc HBq.out.size _).trans p3)
                clear p2 p3 p4 HOq HBq
                go_wp2_with fail
                refine ⟨(Below.refl _ _).alloc (Nat.le_refl _) _, wpQuiet_nil ?_⟩
                go_upto_region 15 with (first
                  | (at_builtin; refine Lib.wpList_append_run _ rfl _ _ _ _ rfl _ _ rfl rfl _ _ p1 ?_))
                clear p1
                by_cases d2 : dir ≤ 0
                · go_upto_region 16 with fail
                  have HDr := hidE (Below.on HBa.out ((Below.refl _ Qa).drew))
                  have HXt := hidE (HXW.out.keep HDr.out)
                  have f0 : ∀ u : Up Qa.drew, u.x.cell? ⟨w.heap.size, 0, none⟩ = some (.int .i64 n) := fun u => u.cell HXt.out.c0
                  have f1 : ∀ u : Up Qa.drew, u.x.cell? ⟨w.heap.size, 1, none⟩ = some (.int .i64 r) := fun u => u.cell HXt.out.c1
                  have f2 : ∀ u : Up Qa.drew, u.x.cell? ⟨w.heap.size, 2, none⟩ = some (.slice la l1 lc) := fun u => u.cell HXt.out.c2
                  have f3 : ∀ u : Up Qa.drew, u.x.cell? ⟨w.heap.size, 3, none⟩ = some (.slice ta mt tc) := fun u => u.cell HXt.out.c3
                  have f4 : ∀ u : Up Qa.drew, u.x.cell? ⟨w.heap.size, 4, none⟩ = some (.slice ea l3 ec) := fun u => u.cell HXt.out.c4
                  have f5 : ∀ u : Up Qa.drew, u.x.cell? ⟨w.heap.size, 5, none⟩ = some (.slice ka l4 kc) := fun u => u.cell HXt.out.c5
                  have fx : ∀ u : Up Qa.drew, u.x.cell? ⟨bl, off + j, none⟩ = some (.string x) := fun u => u.cell ((HDr.out.cell (p := ⟨bl, off + j, none⟩) hbl).trans HC2.out)
                  have up_ne : Nonempty (Up Qa.drew) := ⟨⟨Qa.drew, Below.refl _ _⟩⟩
                  have HBo := hidE (Below.on HBW.out HBa.out)
                  have HXC : Hid (∀ W, Below w.heap.size w W → Calls Tryz.prog 23 #[.agg #[.int .i64 n, .int .i64 r, .slice la l1 lc, .slice ta mt tc, .slice ea l3 ec, .slice ka l4 kc], .string x, .string lab, .bool false] W fun e w' => e = .returned (.int .i64 (E x false)) ∧ Below W.heap.size W w') := fun W hb => HEX.out W false hb
                  refine wp_calm [([0, 1, 2, 3, 4, 5, 6], 7), ([], 8)] [] [9, 10] (by kernel_rfl) (by kernel_rfl) ?_
                  simp only [wpCalm, wpLoud, pickL, nthL, upC_eq]
                  repeat (go_big_quiet_step (fail))
                  refine wpQuiet_nil ?_
                  have HDo := hidE (Below.on HBo.out ((Below.refl _ Qa).drew))
                  go_wp2_with (first | (go_at_call 23; refine (HXC.out _ HDo.out).mono ?_; rintro e wb ⟨rfl, hbb⟩))
                  refine ⟨hbb, wpQuiet_nil ?_⟩
                  have hdb : Below Qa.heap.size Qa wb := Below.on ((Below.refl _ Qa).drew) hbb
                  have HOq := hidE (HOa.out.below hdb)
                  have HBq := hidE (Below.on HBa.out hdb)
                  clear hdb HDo HDr
                  clear f0 f1 f2 f3 f4 f5 fx up_ne HXC HXt HBo hbb
                  obtain ⟨vb, Qb, p1, p2, p3, p4⟩ := append_one (ty := 44) (c := 1) (bl := wb.heap.size) (off := 0) (x := E x false) elem44 (fun x => rfl) one_int (HOq.out.below ((Below.refl _ _).alloc (Nat.le_refl _) (.cells #[.int .i64 (E x false)] 2))) (fun jj u hu => by
                    rw [Nat.zero_add]
                    exact cell_new _ _ _ _ _ (by simpa [intE] using hu)) (by first | omega | (simp; omega)) (Nat.le_trans HBq.out.size (by simp))
                  have HOb := hidE p2
                  have HBb := hidE ((HBq.out.alloc HBq.out.size _).trans p3)
                  clear p2 p3 p4 HOq HBq
                  go_wp2_with fail
                  refine ⟨(Below.refl _ _).alloc (Nat.le_refl _) _, wpQuiet_nil ?_⟩
                  go_upto_region 11 with (first
                    | (at_builtin; refine Lib.wpList_append_run _ rfl _ _ _ _ rfl _ _ rfl rfl _ _ p1 ?_))
                  clear p1
                  go_wp2_with fail
                  go_roundw
                  case rel =>
                    have HQ := HRS3.out
                    rw [HEE, if_pos d1, if_pos d2] at HQ
                    refine ⟨(xs ++ [E x true]) ++ [E x false], j + 1, by omega, by simp; omega, by go_num, HOb.out, ?_, HBb.out⟩
                    rw [← HQ]
                    simp only [List.append_assoc, List.singleton_append, List.cons_append, List.nil_append]
                  case measure => simp [intOf]; omega
                · go_wp2_with fail
                  go_roundw
                  case rel =>
                    have HQ := HRS3.out
                    rw [HEE, if_pos d1, if_neg d2] at HQ
                    refine ⟨xs ++ [E x true], j + 1, by omega, by simp; omega, by go_num, HOa.out, ?_, HBa.out⟩
                    rw [← HQ]
                    simp only [List.append_assoc, List.singleton_append, List.cons_append, List.nil_append, List.append_nil]
                  case measure => simp [intOf]; omega
              · have d2 : dir ≤ 0 := by omega
                go_upto_region 16 with fail
                have HDr := hidE (Below.on HB4.out ((Below.refl _ w4).drew))
                have HXt := hidE (HXW.out.keep HDr.out)
                have f0 : ∀ u : Up w4.drew, u.x.cell? ⟨w.heap.size, 0, none⟩ = some (.int .i64 n) := fun u => u.cell HXt.out.c0
                have f1 : ∀ u : Up w4.drew, u.x.cell? ⟨w.heap.size, 1, none⟩ = some (.int .i64 r) := fun u => u.cell HXt.out.c1
                have f2 : ∀ u : Up w4.drew, u.x.cell? ⟨w.heap.size, 2, none⟩ = some (.slice la l1 lc) := fun u => u.cell HXt.out.c2
                have f3 : ∀ u : Up w4.drew, u.x.cell? ⟨w.heap.size, 3, none⟩ = some (.slice ta mt tc) := fun u => u.cell HXt.out.c3
                have f4 : ∀ u : Up w4.drew, u.x.cell? ⟨w.heap.size, 4, none⟩ = some (.slice ea l3 ec) := fun u => u.cell HXt.out.c4
                have f5 : ∀ u : Up w4.drew, u.x.cell? ⟨w.heap.size, 5, none⟩ = some (.slice ka l4 kc) := fun u => u.cell HXt.out.c5
                have fx : ∀ u : Up w4.drew, u.x.cell? ⟨bl, off + j, none⟩ = some (.string x) := fun u => u.cell ((HDr.out.cell (p := ⟨bl, off + j, none⟩) hbl).trans HC2.out)
                have up_ne : Nonempty (Up w4.drew) := ⟨⟨w4.drew, Below.refl _ _⟩⟩
                have HBo := hidE (Below.on HBW.out HB4.out)
                have HXC : Hid (∀ W, Below w.heap.size w W → Calls Tryz.prog 23 #[.agg #[.int .i64 n, .int .i64 r, .slice la l1 lc, .slice ta mt tc, .slice ea l3 ec, .slice ka l4 kc], .string x, .string lab, .bool false] W fun e w' => e = .returned (.int .i64 (E x false)) ∧ Below W.heap.size W w') := fun W hb => HEX.out W false hb
                refine wp_calm [([0, 1, 2, 3, 4, 5, 6], 7), ([], 8)] [] [9, 10] (by kernel_rfl) (by kernel_rfl) ?_
                simp only [wpCalm, wpLoud, pickL, nthL, upC_eq]
                repeat (go_big_quiet_step (fail))
                refine wpQuiet_nil ?_
                have HDo := hidE (Below.on HBo.out ((Below.refl _ w4).drew))
                go_wp2_with (first | (go_at_call 23; refine (HXC.out _ HDo.out).mono ?_; rintro e wb ⟨rfl, hbb⟩))
                refine ⟨hbb, wpQuiet_nil ?_⟩
                have hdb : Below w4.heap.size w4 wb := Below.on ((Below.refl _ w4).drew) hbb
                have HOq := hidE (HO4.out.below hdb)
                have HBq := hidE (Below.on HB4.out hdb)
                clear hdb HDo HDr
                clear f0 f1 f2 f3 f4 f5 fx up_ne HXC HXt HBo hbb
                obtain ⟨vb, Qb, p1, p2, p3, p4⟩ := append_one (ty := 44) (c := 1) (bl := wb.heap.size) (off := 0) (x := E x false) elem44 (fun x => rfl) one_int (HOq.out.below ((Below.refl _ _).alloc (Nat.le_refl _) (.cells #[.int .i64 (E x false)] 2))) (fun jj u hu => by
                  rw [Nat.zero_add]
                  exact cell_new _ _ _ _ _ (by simpa [intE] using hu)) (by first | omega | (simp; omega)) (Nat.le_trans HBq.out.size (by simp))
                have HOb := hidE p2
                have HBb := hidE ((HBq.out.alloc HBq.out.size _).trans p3)
                clear p2 p3 p4 HOq HBq
                go_wp2_with fail
                refine ⟨(Below.refl _ _).alloc (Nat.le_refl _) _, wpQuiet_nil ?_⟩
                go_upto_region 11 with (first
                  | (at_builtin; refine Lib.wpList_append_run _ rfl _ _ _ _ rfl _ _ rfl rfl _ _ p1 ?_))
                clear p1
                go_wp2_with fail
                go_roundw
                case rel =>
                  have HQ := HRS3.out
                  rw [HEE, if_neg (by omega), if_pos d2] at HQ
                  refine ⟨xs ++ [E x false], j + 1, by omega, by simp; omega, by go_num, HOb.out, ?_, HBb.out⟩
                  rw [← HQ]
                  simp only [List.append_assoc, List.singleton_append, List.cons_append, List.nil_append, List.append_nil]
                case measure => simp [intOf]; omega
            · clear cx4
              go_wp2_with fail
              go_roundw
              case rel => exact ⟨xs, j + 1, by omega, by omega, by go_num, HO4.out, by have := HRS2.out; simpa using this, HB4.out⟩
              case measure => simp [intOf]; omega
          · have HFX : Hid (xs = F) := by
              show _ = _
              rw [← HRS.out, List.drop_of_length_le (by have := HMM.out; omega)]
              rw [show fromL s lab dir (List.take j T) [] = [] from rfl, List.append_nil]
            have hlt' : ¬ (j : Int) < lT := by omega
            rw [HFX.out] at HOR
            have HPL : Hid (∀ W, Below wr.heap.size wr W → Calls Tryz.prog 35 #[_] W fun e w' => e = .returned (.int .i64 (plusI F)) ∧ w' = W) := fun W hb => rplus_any F _ _ W hb.size ((ORow.srow (enc := intE) (k := 1) (fun _ => rfl) HOR.out).keep hb)
            obtain ⟨va1, vc1, rfl⟩ := HOR.out.slice
            have D1 := hidE ((Below.refl wr.heap.size wr).drew)
            have D2 := hidE (Below.on D1.out (below_new wr.drew (.cells #[.string lab] 9)))
            have D3 := hidE (Below.on HB1.out D1.out)
            have D4 := hidE (Below.on HB1.out D2.out)
            have HLL : Hid (Calls Tryz.prog 18 #[.agg #[.int .i64 n, .int .i64 r, .slice la l1 lc, .slice ta mt tc, .slice ea l3 ec, .slice ka l4 kc], .slice (some ⟨wr.heap.size, 0, none⟩) 1 1] (wr.alloc (.cells #[.string lab] 9)).drew fun e w' => e = .returned (.int .i64 L) ∧ Below (wr.alloc (.cells #[.string lab] 9)).drew.heap.size (wr.alloc (.cells #[.string lab] 9)).drew w') := HL.out wr.drew D3.out
            have D4' : Hid (Below w.heap.size w (wr.alloc (.cells #[.string lab] 9)).drew) := D4.out
            have D5 : Hid (Below wr.heap.size wr.drew (wr.alloc (.cells #[.string lab] 9)).drew) := below_new wr.drew (.cells #[.string lab] 9)
            have HXd := hidE (HX1.out.keep D1.out)
            have HXe := hidE (HX1.out.keep D2.out)
            obtain ⟨_, x0, x1, x2, x3, x4, x5⟩ := HXd.out
            obtain ⟨_, y0, y1, y2, y3, y4, y5⟩ := HXe.out
            clear HEN2 HE2 HL HF HRS HT1 HTR HXW HBW HX1
            go_upto_region 17 with fail
            have f0 : ∀ u : Up wr.drew, u.x.cell? ⟨w.heap.size, 0, none⟩ = some (.int .i64 n) := fun u => u.cell x0
            have f1 : ∀ u : Up wr.drew, u.x.cell? ⟨w.heap.size, 1, none⟩ = some (.int .i64 r) := fun u => u.cell x1
            have f2 : ∀ u : Up wr.drew, u.x.cell? ⟨w.heap.size, 2, none⟩ = some (.slice la l1 lc) := fun u => u.cell x2
            have f3 : ∀ u : Up wr.drew, u.x.cell? ⟨w.heap.size, 3, none⟩ = some (.slice ta mt tc) := fun u => u.cell x3
            have f4 : ∀ u : Up wr.drew, u.x.cell? ⟨w.heap.size, 4, none⟩ = some (.slice ea l3 ec) := fun u => u.cell x4
            have f5 : ∀ u : Up wr.drew, u.x.cell? ⟨w.heap.size, 5, none⟩ = some (.slice ka l4 kc) := fun u => u.cell x5
            have up_ne : Nonempty (Up wr.drew) := ⟨⟨wr.drew, Below.refl _ _⟩⟩
            refine wp_calm2 [([0], 1, true), ([2, 3], 4, false), ([], 5, false)] [] [6, 7] (by kernel_rfl) (by kernel_rfl) ?_
            simp only [wpCalm2, wpStill, wpLoud, pickL, nthL, upC_eq]
            repeat (go_big_quiet_step (fail))
            refine wpQuiet_nil ⟨.int .i64 (plusI F), by rfl, fun u => ?_, ?_⟩
            · go_wp2_with (go_at_call 35; refine (HPL.out _ (Below.on D1.out (Up.b _))).mono ?_; rintro e _ ⟨rfl, rfl⟩)
              try exact ⟨rfl, rfl⟩
            · simp only [Act.put, List.setIfInBounds_toArray, List.set_cons_succ, List.set_cons_zero]
              repeat (go_big_quiet_step (fail))
              refine wpQuiet_nil ?_
              go_wp2_with fail
              refine ⟨D5.out, wpQuiet_nil ?_⟩
              clear f0 f1 f2 f3 f4 f5 up_ne
              go_wp2_with (go_at_call 18; refine HLL.out.mono ?_; rintro e w9 ⟨rfl, hb9⟩; have HB9 := hidE (Below.on D4'.out hb9))
              refine ⟨by first | exact hb9 | simpa using hb9, wpQuiet_nil ?_⟩
              clear hb9
              go_wp2_with (go_at_call 33; refine (HSH.out _ _).mono ?_; rintro e _ ⟨rfl, rfl⟩)
              go_ret
              exact ⟨rfl, HB9.out⟩
  · rw [if_neg h0] at hT
    subst hT
    have h00 : ¬ ls.length = 0 := fun e => h0 (List.eq_nil_of_length_eq_zero e)
    have hbq : ((ls.length : Int) == 0) = false := beq_eq_false_iff_ne.2 (by omega)
    go_enter Tryz.func29, Tryz.ntmps29
    go_upto_region 1 with fail
    have HW0 := hidE (below_new w (.cells #[.int .i64 n, .int .i64 r, .slice la l1 lc, .slice ta mt tc, .slice ea l3 ec, .slice ka l4 kc] 33))
    have HX1 := hidE (sbox_new w (.int .i64 n) (.int .i64 r) (.slice la l1 lc) (.slice ta mt tc) (.slice ea l3 ec) (.slice ka l4 kc) 33)
    generalize hwr : w.alloc (.cells #[.int .i64 n, .int .i64 r, .slice la l1 lc, .slice ta mt tc, .slice ea l3 ec, .slice ka l4 kc] 33) = wr at *
    clear hwr
    have HB1 := HW0
    have HTW := hidE (HS.out wr HB1.out)
    go_upto_region 8 with fail
    try rw [hbq]
    clear hbq HS HT3 HTY h00 h0
    obtain ⟨lT, hlT⟩ : ∃ q, ls.length = q := ⟨_, rfl⟩
    rw [hlT] at HTW HTL ⊢
    have HMM := hidE hlT
    have HTR := hidE HTW.out
    obtain ⟨_, _, ev, v2, v3, v4⟩ := HTW.out
    injection ev with ea1 ea2 ea3
    subst ea1 ea3
    have H4 := hidE v4
    rw [hlT] at v2
    clear v4 ea2 hlT
    obtain ⟨W2, hW2⟩ : ∃ W, W = wr := ⟨_, rfl⟩
    subst hW2
    have HBW := HB1
    have HXW := HX1
    clear HB1 HX1
    go_wp2_with fail
    go_loopw [11, 12] (fun v i wr => ∃ (xs : List Int) (j : Nat), j ≤ lT ∧ xs.length ≤ 2 * j ∧ i = .int .i64 j ∧ ORow 2 1 intE W2.heap.size wr v xs ∧ xs ++ fromL s lab dir (ls.take j) (ls.drop j) = F ∧ Below W2.heap.size W2 wr) (fun _ i _ => lT - (intOf i).toNat)
    case atStart => exact ⟨[], 0, Nat.zero_le _, Nat.zero_le _, rfl, orow_nil _ _ _ _ _, HF.out, Below.refl _ _⟩
    case round =>
      obtain ⟨xs, j, hj, hxl, rfl, hor, hrs, hbr⟩ := hrel
      have HRS := hidE hrs
      have HBR := hidE hbr
      have HOR := hidE hor
      have HB1 := hidE (Below.on HBW.out hbr)
      have HX1 := hidE (HXW.out.keep hbr)
      have HT1 := hidE (HTR.out.keep hbr)
      clear hrs hbr hor
      by_cases hlt : j < lT
      · have hlt' : (j : Int) < lT := by omega
        obtain ⟨x, hx⟩ : ∃ q, ls[j]? = some q := ⟨_, List.getElem?_eq_getElem (by have := HMM.out; omega)⟩
        obtain ⟨bl, off, rfl, hbl, hc⟩ := H4.out.resolve_left (by intro e; rw [e] at hx; simp at hx)
        have c2 := hc j x hx 0 _ rfl
        rw [Nat.mul_one, Nat.add_zero] at c2
        have cx := (HBR.out.cell (p := ⟨bl, off + j, none⟩) hbl).trans c2
        have HC2 := hidE c2
        clear c2
        have HRS2 := HRS.out
        rw [fromL_at (s := s) (lab := lab) (dir := dir) hx] at HRS2
        replace HRS2 := hidE HRS2
        have HHAS : Hid (∀ W, Below wr.heap.size wr W → Calls Tryz.prog 49 #[.slice (some ⟨bl, off, none⟩) j sc, .string x] W fun e w' => e = .returned (.bool (rhasB x (ls.take j))) ∧ Below W.heap.size W w') := fun W hb => (rhas_any (ls.take j) x _ _ W (srow_take (HT1.out.keep (hb.mono HBR.out.size)) hj)).mono fun e w' h => ⟨h.1, by rw [h.2]; exact Below.refl _ _⟩
        have HEX : Hid (∀ W o, Below w.heap.size w W → Calls Tryz.prog 23 #[.agg #[.int .i64 n, .int .i64 r, .slice la l1 lc, .slice ta mt tc, .slice ea l3 ec, .slice ka l4 kc], .string x, .string lab, .bool o] W fun e w' => e = .returned (.int .i64 (E x o)) ∧ Below W.heap.size W w') := fun W o hb => HEN2.out W x o hb (List.mem_of_getElem? hx)
        clear hx hc
        obtain ⟨hb, hhb⟩ : ∃ b, rhasB x (ls.take j) = b := ⟨_, rfl⟩
        rw [hhb] at HHAS HRS2
        clear hhb
        have fx : ∀ u : Up wr, u.x.cell? ⟨bl, off + j, none⟩ = some (.string x) := fun u => u.cell cx
        have up_ne : Nonempty (Up wr) := ⟨⟨wr, Below.refl _ _⟩⟩
        go_upto_region 12 with fail
        refine wp_up (by kernel_rfl) (by kernel_rfl) ?_
        repeat (go_big_quiet_step (first | (go_at_call 49; exact Up.call (HHAS.out _ (Up.b _)))))
        refine wpQuiet_nil ?_
        rintro w4 ⟨⟨W4, hb4⟩, rfl⟩
        have HB4 := hidE (Below.on HBR.out hb4)
        have HB5 := hidE (Below.on HB1.out hb4)
        have HX4 := hidE (HX1.out.keep hb4)
        have HO4 := hidE (HOR.out.below hb4)
        have cx4 := (hb4.cell (p := ⟨bl, off + j, none⟩) (Nat.lt_of_lt_of_le hbl HBR.out.size)).trans cx
        clear fx up_ne hb4 HHAS cx HX1 HBR HB1 HRS HOR HT1
        cases hb
        · have HRS3 : Hid (xs ++ (fromE s lab dir x ++ fromL s lab dir (ls.take (j + 1)) (ls.drop (j + 1))) = F) := HRS2.out
          have HEE := HE2.out x
          clear HRS2 cx4 HX4
          by_cases d1 : 0 ≤ dir
          · go_upto_region 14 with fail
            have HDr := hidE (Below.on HB4.out ((Below.refl _ w4).drew))
            have HXt := hidE (HXW.out.keep HDr.out)
            have f0 : ∀ u : Up w4.drew, u.x.cell? ⟨w.heap.size, 0, none⟩ = some (.int .i64 n) := fun u => u.cell HXt.out.c0
            have f1 : ∀ u : Up w4.drew, u.x.cell? ⟨w.heap.size, 1, none⟩ = some (.int .i64 r) := fun u => u.cell HXt.out.c1
            have f2 : ∀ u : Up w4.drew, u.x.cell? ⟨w.heap.size, 2, none⟩ = some (.slice la l1 lc) := fun u => u.cell HXt.out.c2
            have f3 : ∀ u : Up w4.drew, u.x.cell? ⟨w.heap.size, 3, none⟩ = some (.slice ta mt tc) := fun u => u.cell HXt.out.c3
            have f4 : ∀ u : Up w4.drew, u.x.cell? ⟨w.heap.size, 4, none⟩ = some (.slice ea l3 ec) := fun u => u.cell HXt.out.c4
            have f5 : ∀ u : Up w4.drew, u.x.cell? ⟨w.heap.size, 5, none⟩ = some (.slice ka l4 kc) := fun u => u.cell HXt.out.c5
            have fx : ∀ u : Up w4.drew, u.x.cell? ⟨bl, off + j, none⟩ = some (.string x) := fun u => u.cell ((HDr.out.cell (p := ⟨bl, off + j, none⟩) hbl).trans HC2.out)
            have up_ne : Nonempty (Up w4.drew) := ⟨⟨w4.drew, Below.refl _ _⟩⟩
            have HBo := hidE (Below.on HBW.out HB4.out)
            have HXC : Hid (∀ W, Below w.heap.size w W → Calls Tryz.prog 23 #[.agg #[.int .i64 n, .int .i64 r, .slice la l1 lc, .slice ta mt tc, .slice ea l3 ec, .slice ka l4 kc], .string x, .string lab, .bool true] W fun e w' => e = .returned (.int .i64 (E x true)) ∧ Below W.heap.size W w') := fun W hb => HEX.out W true hb
            refine wp_calm [([0, 1, 2, 3, 4, 5, 6], 7), ([], 8)] [] [9, 10] (by kernel_rfl) (by kernel_rfl) ?_
            simp only [wpCalm, wpLoud, pickL, nthL, upC_eq]
            repeat (go_big_quiet_step (fail))
            refine wpQuiet_nil ?_
            have HDo := hidE (Below.on HBo.out ((Below.refl _ w4).drew))
            go_wp2_with (first | (go_at_call 23; refine (HXC.out _ HDo.out).mono ?_; rintro e wa ⟨rfl, hba⟩))
            refine ⟨hba, wpQuiet_nil ?_⟩
            have hda : Below w4.heap.size w4 wa := Below.on ((Below.refl _ w4).drew) hba
            have HOq := hidE (HO4.out.below hda)
            have HBq := hidE (Below.on HB4.out hda)
            clear hda HDo HDr
            clear f0 f1 f2 f3 f4 f5 fx up_ne HXC HXt HBo hba
            obtain ⟨va, Qa, p1, p2, p3, p4⟩ := append_one (ty := 44) (c := 1) (bl := wa.heap.size) (off := 0) (x := E x true) elem44 (fun x => rfl) one_int (HOq.out.below ((Below.refl _ _).alloc (Nat.le_refl _) (.cells #[.int .i64 (E x true)] 2))) (fun jj u hu => by
              rw [Nat.zero_add]
              exact cell_new _ _ _ _ _ (by simpa [intE] using hu)) (by first | omega | (simp; omega)) (Nat.le_trans HBq.out.size (by simp))
            have HOa := hidE p2
            have HBa := hidE ((HBq.out.alloc HBq.out.size _).trans p3)
            clear p2 p3 p4 HOq HBq
            go_wp2_with fail
            refine ⟨(Below.refl _ _).alloc (Nat.le_refl _) _, wpQuiet_nil ?_⟩
            go_upto_region 15 with (first
              | (at_builtin; refine Lib.wpList_append_run _ rfl _ _ _ _ rfl _ _ rfl rfl _ _ p1 ?_))
            clear p1
            by_cases d2 : dir ≤ 0
            · go_upto_region 16 with fail
              have HDr := hidE (Below.on HBa.out ((Below.refl _ Qa).drew))
              have HXt := hidE (HXW.out.keep HDr.out)
              have f0 : ∀ u : Up Qa.drew, u.x.cell? ⟨w.heap.size, 0, none⟩ = some (.int .i64 n) := fun u => u.cell HXt.out.c0
              have f1 : ∀ u : Up Qa.drew, u.x.cell? ⟨w.heap.size, 1, none⟩ = some (.int .i64 r) := fun u => u.cell HXt.out.c1
              have f2 : ∀ u : Up Qa.drew, u.x.cell? ⟨w.heap.size, 2, none⟩ = some (.slice la l1 lc) := fun u => u.cell HXt.out.c2
              have f3 : ∀ u : Up Qa.drew, u.x.cell? ⟨w.heap.size, 3, none⟩ = some (.slice ta mt tc) := fun u => u.cell HXt.out.c3
              have f4 : ∀ u : Up Qa.drew, u.x.cell? ⟨w.heap.size, 4, none⟩ = some (.slice ea l3 ec) := fun u => u.cell HXt.out.c4
              have f5 : ∀ u : Up Qa.drew, u.x.cell? ⟨w.heap.size, 5, none⟩ = some (.slice ka l4 kc) := fun u => u.cell HXt.out.c5
              have fx : ∀ u : Up Qa.drew, u.x.cell? ⟨bl, off + j, none⟩ = some (.string x) := fun u => u.cell ((HDr.out.cell (p := ⟨bl, off + j, none⟩) hbl).trans HC2.out)
              have up_ne : Nonempty (Up Qa.drew) := ⟨⟨Qa.drew, Below.refl _ _⟩⟩
              have HBo := hidE (Below.on HBW.out HBa.out)
              have HXC : Hid (∀ W, Below w.heap.size w W → Calls Tryz.prog 23 #[.agg #[.int .i64 n, .int .i64 r, .slice la l1 lc, .slice ta mt tc, .slice ea l3 ec, .slice ka l4 kc], .string x, .string lab, .bool false] W fun e w' => e = .returned (.int .i64 (E x false)) ∧ Below W.heap.size W w') := fun W hb => HEX.out W false hb
              refine wp_calm [([0, 1, 2, 3, 4, 5, 6], 7), ([], 8)] [] [9, 10] (by kernel_rfl) (by kernel_rfl) ?_
              simp only [wpCalm, wpLoud, pickL, nthL, upC_eq]
              repeat (go_big_quiet_step (fail))
              refine wpQuiet_nil ?_
              have HDo := hidE (Below.on HBo.out ((Below.refl _ Qa).drew))
              go_wp2_with (first | (go_at_call 23; refine (HXC.out _ HDo.out).mono ?_; rintro e wb ⟨rfl, hbb⟩))
              refine ⟨hbb, wpQuiet_nil ?_⟩
              have hdb : Below Qa.heap.size Qa wb := Below.on ((Below.refl _ Qa).drew) hbb
              have HOq := hidE (HOa.out.below hdb)
              have HBq := hidE (Below.on HBa.out hdb)
              clear hdb HDo HDr
              clear f0 f1 f2 f3 f4 f5 fx up_ne HXC HXt HBo hbb
              obtain ⟨vb, Qb, p1, p2, p3, p4⟩ := append_one (ty := 44) (c := 1) (bl := wb.heap.size) (off := 0) (x := E x false) elem44 (fun x => rfl) one_int (HOq.out.below ((Below.refl _ _).alloc (Nat.le_refl _) (.cells #[.int .i64 (E x false)] 2))) (fun jj u hu => by
                rw [Nat.zero_add]
                exact cell_new _ _ _ _ _ (by simpa [intE] using hu)) (by first | omega | (simp; omega)) (Nat.le_trans HBq.out.size (by simp))
              have HOb := hidE p2
              have HBb := hidE ((HBq.out.alloc HBq.out.size _).trans p3)
              clear p2 p3 p4 HOq HBq
              go_wp2_with fail
              refine ⟨(Below.refl _ _).alloc (Nat.le_refl _) _, wpQuiet_nil ?_⟩
              go_upto_region 11 with (first
                | (at_builtin; refine Lib.wpList_append_run _ rfl _ _ _ _ rfl _ _ rfl rfl _ _ p1 ?_))
              clear p1
              go_wp2_with fail
              go_roundw
              case rel =>
                have HQ := HRS3.out
                rw [HEE, if_pos d1, if_pos d2] at HQ
                refine ⟨(xs ++ [E x true]) ++ [E x false], j + 1, by omega, by simp; omega, by go_num, HOb.out, ?_, HBb.out⟩
                rw [← HQ]
                simp only [List.append_assoc, List.singleton_append, List.cons_append, List.nil_append]
              case measure => simp [intOf]; omega
            · go_wp2_with fail
              go_roundw
              case rel =>
                have HQ := HRS3.out
                rw [HEE, if_pos d1, if_neg d2] at HQ
                refine ⟨xs ++ [E x true], j + 1, by omega, by simp; omega, by go_num, HOa.out, ?_, HBa.out⟩
                rw [← HQ]
                simp only [List.append_assoc, List.singleton_append, List.cons_append, List.nil_append, List.append_nil]
              case measure => simp [intOf]; omega
          · have d2 : dir ≤ 0 := by omega
            go_upto_region 16 with fail
            have HDr := hidE (Below.on HB4.out ((Below.refl _ w4).drew))
            have HXt := hidE (HXW.out.keep HDr.out)
            have f0 : ∀ u : Up w4.drew, u.x.cell? ⟨w.heap.size, 0, none⟩ = some (.int .i64 n) := fun u => u.cell HXt.out.c0
            have f1 : ∀ u : Up w4.drew, u.x.cell? ⟨w.heap.size, 1, none⟩ = some (.int .i64 r) := fun u => u.cell HXt.out.c1
            have f2 : ∀ u : Up w4.drew, u.x.cell? ⟨w.heap.size, 2, none⟩ = some (.slice la l1 lc) := fun u => u.cell HXt.out.c2
            have f3 : ∀ u : Up w4.drew, u.x.cell? ⟨w.heap.size, 3, none⟩ = some (.slice ta mt tc) := fun u => u.cell HXt.out.c3
            have f4 : ∀ u : Up w4.drew, u.x.cell? ⟨w.heap.size, 4, none⟩ = some (.slice ea l3 ec) := fun u => u.cell HXt.out.c4
            have f5 : ∀ u : Up w4.drew, u.x.cell? ⟨w.heap.size, 5, none⟩ = some (.slice ka l4 kc) := fun u => u.cell HXt.out.c5
            have fx : ∀ u : Up w4.drew, u.x.cell? ⟨bl, off + j, none⟩ = some (.string x) := fun u => u.cell ((HDr.out.cell (p := ⟨bl, off + j, none⟩) hbl).trans HC2.out)
            have up_ne : Nonempty (Up w4.drew) := ⟨⟨w4.drew, Below.refl _ _⟩⟩
            have HBo := hidE (Below.on HBW.out HB4.out)
            have HXC : Hid (∀ W, Below w.heap.size w W → Calls Tryz.prog 23 #[.agg #[.int .i64 n, .int .i64 r, .slice la l1 lc, .slice ta mt tc, .slice ea l3 ec, .slice ka l4 kc], .string x, .string lab, .bool false] W fun e w' => e = .returned (.int .i64 (E x false)) ∧ Below W.heap.size W w') := fun W hb => HEX.out W false hb
            refine wp_calm [([0, 1, 2, 3, 4, 5, 6], 7), ([], 8)] [] [9, 10] (by kernel_rfl) (by kernel_rfl) ?_
            simp only [wpCalm, wpLoud, pickL, nthL, upC_eq]
            repeat (go_big_quiet_step (fail))
            refine wpQuiet_nil ?_
            have HDo := hidE (Below.on HBo.out ((Below.refl _ w4).drew))
            go_wp2_with (first | (go_at_call 23; refine (HXC.out _ HDo.out).mono ?_; rintro e wb ⟨rfl, hbb⟩))
            refine ⟨hbb, wpQuiet_nil ?_⟩
            have hdb : Below w4.heap.size w4 wb := Below.on ((Below.refl _ w4).drew) hbb
            have HOq := hidE (HO4.out.below hdb)
            have HBq := hidE (Below.on HB4.out hdb)
            clear hdb HDo HDr
            clear f0 f1 f2 f3 f4 f5 fx up_ne HXC HXt HBo hbb
            obtain ⟨vb, Qb, p1, p2, p3, p4⟩ := append_one (ty := 44) (c := 1) (bl := wb.heap.size) (off := 0) (x := E x false) elem44 (fun x => rfl) one_int (HOq.out.below ((Below.refl _ _).alloc (Nat.le_refl _) (.cells #[.int .i64 (E x false)] 2))) (fun jj u hu => by
              rw [Nat.zero_add]
              exact cell_new _ _ _ _ _ (by simpa [intE] using hu)) (by first | omega | (simp; omega)) (Nat.le_trans HBq.out.size (by simp))
            have HOb := hidE p2
            have HBb := hidE ((HBq.out.alloc HBq.out.size _).trans p3)
            clear p2 p3 p4 HOq HBq
            go_wp2_with fail
            refine ⟨(Below.refl _ _).alloc (Nat.le_refl _) _, wpQuiet_nil ?_⟩
            go_upto_region 11 with (first
              | (at_builtin; refine Lib.wpList_append_run _ rfl _ _ _ _ rfl _ _ rfl rfl _ _ p1 ?_))
            clear p1
            go_wp2_with fail
            go_roundw
            case rel =>
              have HQ := HRS3.out
              rw [HEE, if_neg (by omega), if_pos d2] at HQ
              refine ⟨xs ++ [E x false], j + 1, by omega, by simp; omega, by go_num, HOb.out, ?_, HBb.out⟩
              rw [← HQ]
              simp only [List.append_assoc, List.singleton_append, List.cons_append, List.nil_append, List.append_nil]
            case measure => simp [intOf]; omega
        · clear cx4
          go_wp2_with fail
          go_roundw
          case rel => exact ⟨xs, j + 1, by omega, by omega, by go_num, HO4.out, by have := HRS2.out; simpa using this, HB4.out⟩
          case measure => simp [intOf]; omega
      · have HFX : Hid (xs = F) := by
          show _ = _
          rw [← HRS.out, List.drop_of_length_le (by have := HMM.out; omega)]
          rw [show fromL s lab dir (List.take j ls) [] = [] from rfl, List.append_nil]
        have hlt' : ¬ (j : Int) < lT := by omega
        rw [HFX.out] at HOR
        have HPL : Hid (∀ W, Below wr.heap.size wr W → Calls Tryz.prog 35 #[_] W fun e w' => e = .returned (.int .i64 (plusI F)) ∧ w' = W) := fun W hb => rplus_any F _ _ W hb.size ((ORow.srow (enc := intE) (k := 1) (fun _ => rfl) HOR.out).keep hb)
        obtain ⟨va1, vc1, rfl⟩ := HOR.out.slice
        have D1 := hidE ((Below.refl wr.heap.size wr).drew)
        have D2 := hidE (Below.on D1.out (below_new wr.drew (.cells #[.string lab] 9)))
        have D3 := hidE (Below.on HB1.out D1.out)
        have D4 := hidE (Below.on HB1.out D2.out)
        have HLL : Hid (Calls Tryz.prog 18 #[.agg #[.int .i64 n, .int .i64 r, .slice la l1 lc, .slice ta mt tc, .slice ea l3 ec, .slice ka l4 kc], .slice (some ⟨wr.heap.size, 0, none⟩) 1 1] (wr.alloc (.cells #[.string lab] 9)).drew fun e w' => e = .returned (.int .i64 L) ∧ Below (wr.alloc (.cells #[.string lab] 9)).drew.heap.size (wr.alloc (.cells #[.string lab] 9)).drew w') := HL.out wr.drew D3.out
        have D4' : Hid (Below w.heap.size w (wr.alloc (.cells #[.string lab] 9)).drew) := D4.out
        have D5 : Hid (Below wr.heap.size wr.drew (wr.alloc (.cells #[.string lab] 9)).drew) := below_new wr.drew (.cells #[.string lab] 9)
        have HXd := hidE (HX1.out.keep D1.out)
        have HXe := hidE (HX1.out.keep D2.out)
        obtain ⟨_, x0, x1, x2, x3, x4, x5⟩ := HXd.out
        obtain ⟨_, y0, y1, y2, y3, y4, y5⟩ := HXe.out
        clear HEN2 HE2 HL HF HRS HT1 HTR HXW HBW HX1
        go_upto_region 17 with fail
        have f0 : ∀ u : Up wr.drew, u.x.cell? ⟨w.heap.size, 0, none⟩ = some (.int .i64 n) := fun u => u.cell x0
        have f1 : ∀ u : Up wr.drew, u.x.cell? ⟨w.heap.size, 1, none⟩ = some (.int .i64 r) := fun u => u.cell x1
        have f2 : ∀ u : Up wr.drew, u.x.cell? ⟨w.heap.size, 2, none⟩ = some (.slice la l1 lc) := fun u => u.cell x2
        have f3 : ∀ u : Up wr.drew, u.x.cell? ⟨w.heap.size, 3, none⟩ = some (.slice ta mt tc) := fun u => u.cell x3
        have f4 : ∀ u : Up wr.drew, u.x.cell? ⟨w.heap.size, 4, none⟩ = some (.slice ea l3 ec) := fun u => u.cell x4
        have f5 : ∀ u : Up wr.drew, u.x.cell? ⟨w.heap.size, 5, none⟩ = some (.slice ka l4 kc) := fun u => u.cell x5
        have up_ne : Nonempty (Up wr.drew) := ⟨⟨wr.drew, Below.refl _ _⟩⟩
        refine wp_calm2 [([0], 1, true), ([2, 3], 4, false), ([], 5, false)] [] [6, 7] (by kernel_rfl) (by kernel_rfl) ?_
        simp only [wpCalm2, wpStill, wpLoud, pickL, nthL, upC_eq]
        repeat (go_big_quiet_step (fail))
        refine wpQuiet_nil ⟨.int .i64 (plusI F), by rfl, fun u => ?_, ?_⟩
        · go_wp2_with (go_at_call 35; refine (HPL.out _ (Below.on D1.out (Up.b _))).mono ?_; rintro e _ ⟨rfl, rfl⟩)
          try exact ⟨rfl, rfl⟩
        · simp only [Act.put, List.setIfInBounds_toArray, List.set_cons_succ, List.set_cons_zero]
          repeat (go_big_quiet_step (fail))
          refine wpQuiet_nil ?_
          go_wp2_with fail
          refine ⟨D5.out, wpQuiet_nil ?_⟩
          clear f0 f1 f2 f3 f4 f5 up_ne
          go_wp2_with (go_at_call 18; refine HLL.out.mono ?_; rintro e w9 ⟨rfl, hb9⟩; have HB9 := hidE (Below.on D4'.out hb9))
          refine ⟨by first | exact hb9 | simpa using hb9, wpQuiet_nil ?_⟩
          clear hb9
          go_wp2_with (go_at_call 33; refine (HSH.out _ _).mono ?_; rintro e _ ⟨rfl, rfl⟩)
          go_ret
          exact ⟨rfl, HB9.out⟩
end Go.Proofs.YthfilnflgahcjaaGreatDoor
