/- The program's Text. -/
import Derived.Test.YthfilnflgahcjaaGreatDoorJoin29
import Derived.Test.YthfilnflgahcjaaGreatDoorJoin4
namespace Go.Proofs.YthfilnflgahcjaaGreatDoor
open Go.RowKit Go.Shelf Go.Maps
set_option linter.unusedVariables false
set_option linter.unusedSimpArgs false
attribute [local go_sem] Oper.semAt_some
theorem upC_eqT (w : World) : upC w = fun w' => ∃ u : Up w, w' = u.x := rfl
theorem way_any (o : Bool) (w : World) : Calls Tryz.prog 74 #[.bool o] w fun e w' => e = .returned (.string (wayT o)) ∧ w' = w := by
  cases o
  · go_enter Tryz.func74, Tryz.ntmps74
    go_wp2_with fail
    go_ret
    exact ⟨rfl, rfl⟩
  · go_enter Tryz.func74, Tryz.ntmps74
    go_wp2_with fail
    go_ret
    exact ⟨rfl, rfl⟩
set_option maxRecDepth 100000 in
set_option maxHeartbeats 16000000 in
theorem text_any (s : StatP) (vl vt ve vk : Value) (B : Nat) (w : World) (hB : B ≤ w.heap.size) (hE : Env2 w) (h : StatL B w vl vt ve vk s) (hw : StatW s) (k1 : s.labels.length ≤ 900000) (k2 : s.types.length ≤ 900000) (k3 : s.ends.length ≤ 900000) (k4 : s.keys.length ≤ 900000) :
    Calls Tryz.prog 36 #[statV s vl vt ve vk] w fun e w' => e = .returned (.string ⟨(textL s).toArray⟩) ∧ Below w.heap.size w w' := by
  have HNUM : Hid (∀ W n, Below w.heap.size w W → W64 n → Calls Tryz.prog 72 #[.int .i64 n] W fun e w' => e = .returned (.string (numT n)) ∧ Below W.heap.size W w') := fun W n hb hn => digits_any n hn W (hE.below hb)
  have HNAM : Hid (∀ W x, Below w.heap.size w W → x.size ≤ 3000 → Calls Tryz.prog 73 #[.string x] W fun e w' => e = .returned (.string (nameT x)) ∧ Below W.heap.size W w') := fun W x hb hx => nam_any x (by omega) W (hE.below hb)
  have HLINE : Hid (∀ (b : Nat) (W : World) (l : List UInt8) (ws : List ByteArray) (n : Nat) (cs : Array Value), BldI b b l W → cs.toList = ws.map Value.string → n = ws.length → ws.length ≤ 5 → 1 ≤ ws.length → l.length ≤ 100000000000 → (lineB ws).length ≤ 100000 → Calls Tryz.prog 69 #[.slice (some ⟨W.heap.size, 0, none⟩) n n, .pointer (some ⟨b, 0, none⟩)] (W.alloc (.cells cs 9)) fun e w' => e = .returned (.tuple #[]) ∧ BldI b b (l ++ lineB ws) w' ∧ Below b W w') := fun b W l ws n cs hb hc hn h5 h1 hl hz => by
    subst hn
    have hlt := hb.lt
    refine (line_any b b W.heap.size ws.length l ws (W.alloc (.cells cs 9)) (by simp; omega) (hb.keep (below_new _ _)) (by simp) (fun j x hx => ?_) h5 (Nat.le_refl _) hl hz).mono ?_
    · rw [Nat.zero_add]
      refine cell_new _ _ _ _ _ ?_
      rw [← Array.getElem?_toList, hc, List.getElem?_map, hx]; rfl
    · rintro e w' ⟨g1, g2, g3⟩
      exact ⟨g1, g2, ((below_new W (.cells cs 9)).mono (by omega)).trans g3⟩
  have HP0 := hidE (head_len hw)
  have HP1 := hidE (txt1_len hw k1)
  have HP2 := hidE (txt2_len hw k1 k2)
  have HP3 := hidE (txt3_len hw k1 k2 k3)
  have HW := hidE hw
  have K := hidE (And.intro k1 (And.intro k2 (And.intro k3 k4)))
  obtain ⟨la, lc, rfl, a1, a2, a3⟩ := h.hl
  obtain ⟨ta, tc, rfl, b1, b2, b3⟩ := h.ht
  obtain ⟨ea, ec, rfl, c1, c2, c3⟩ := h.he
  obtain ⟨ka, kc, rfl, d1, d2, d3⟩ := h.hk
  have HL3 := hidE a3
  have HT3 := hidE b3
  have HE3 := hidE c3
  have HK3 := hidE d3
  unfold statV
  obtain ⟨m1, hm1⟩ : ∃ m, s.labels.length = m := ⟨_, rfl⟩
  obtain ⟨m2, hm2⟩ : ∃ m, s.types.length = m := ⟨_, rfl⟩
  obtain ⟨m3, hm3⟩ : ∃ m, s.ends.length = m := ⟨_, rfl⟩
  obtain ⟨m4, hm4⟩ : ∃ m, s.keys.length = m := ⟨_, rfl⟩
  have HM := hidE (And.intro hm1 (And.intro hm2 (And.intro hm3 hm4)))
  rw [hm1] at a1 ⊢
  rw [hm2] at b1 ⊢
  rw [hm3] at c1 ⊢
  rw [hm4] at d1 ⊢
  obtain ⟨sn, hsn⟩ : ∃ n, s.nodes = n := ⟨_, rfl⟩
  obtain ⟨sr, hsr⟩ : ∃ n, s.rels = n := ⟨_, rfl⟩
  have HSN := hidE (And.intro hsn hsr)
  rw [hsn, hsr]
  have hwn : W64 sn := hsn ▸ hw.n
  have hwr : W64 sr := hsr ▸ hw.r
  obtain ⟨dn, hdn⟩ : ∃ t, numT sn = t := ⟨_, rfl⟩
  obtain ⟨dr, hdr⟩ : ∃ t, numT sr = t := ⟨_, rfl⟩
  have hzn : dn.size ≤ 21 := hdn ▸ numT_len hwn
  have hzr : dr.size ≤ 21 := hdr ▸ numT_len hwr
  have HQN : Hid (∀ W, Below w.heap.size w W → Calls Tryz.prog 72 #[.int .i64 sn] W fun e w' => e = .returned (.string dn) ∧ Below W.heap.size W w') := fun W hb => by rw [← hdn]; exact HNUM.out W sn hb hwn
  have HQR : Hid (∀ W, Below w.heap.size w W → Calls Tryz.prog 72 #[.int .i64 sr] W fun e w' => e = .returned (.string dr) ∧ Below W.heap.size W w') := fun W hb => by rw [← hdr]; exact HNUM.out W sr hb hwr
  have HDD := hidE (And.intro hdn hdr)
  have hl1 : (lineB [⟨#[110, 111, 100, 101, 115]⟩, dn]).length ≤ 100 := by rw [line2_len]; have : (⟨#[110, 111, 100, 101, 115]⟩ : ByteArray).size = 5 := rfl; omega
  have hl2 : (lineB [⟨#[114, 101, 108, 115]⟩, dr]).length ≤ 100 := by rw [line2_len]; have : (⟨#[114, 101, 108, 115]⟩ : ByteArray).size = 4 := rfl; omega
  have HL12 := hidE (And.intro hl1 hl2)
  clear hl1 hl2 hsn hsr hwn hwr hdn hdr h hw k1 k2 k3 k4 hm1 hm2 hm3 hm4 a3 b3 c3 d3 hE hzn hzr
  go_enter Tryz.func36, Tryz.ntmps36
  go_upto_region 3 with fail
  have HX0 := hidE (sbox_new w (.int .i64 sn) (.int .i64 sr) (.slice la m1 lc) (.slice ta m2 tc) (.slice ea m3 ec) (.slice ka m4 kc) 33)
  obtain ⟨V, hV⟩ : ∃ V, w.alloc (.cells #[.int .i64 sn, .int .i64 sr, .slice la m1 lc, .slice ta m2 tc, .slice ea m3 ec, .slice ka m4 kc] 33) = V := ⟨_, rfl⟩
  have hVz : V.heap.size = w.heap.size + 1 := by rw [← hV]; simp
  have HV := hidE (below_new w (.cells #[.int .i64 sn, .int .i64 sr, .slice la m1 lc, .slice ta m2 tc, .slice ea m3 ec, .slice ka m4 kc] 33))
  rw [hV] at HX0 HV
  have HB0 := hidE (bld_new V)
  have HV1 := hidE (below_new V (.cells #[.pointer none, .slice none 0 0] 118))
  rw [hV]
  obtain ⟨b, hb⟩ : ∃ b, w.heap.size + 1 = b := ⟨_, rfl⟩
  rw [hVz, hb] at HB0
  try rw [hb]
  have HX1 := hidE (HX0.out.keep HV1.out)
  have hwb : w.heap.size < b := by omega
  have HVW := hidE (Below.on HV.out HV1.out)
  have hbV : b ≤ V.heap.size := by omega
  have HBb : Hid (b ≤ (V.alloc (.cells #[.pointer none, .slice none 0 0] 118)).heap.size) := by show _ ≤ _; simp; omega
  clear hV hVz HX0 HV HV1
  generalize V.alloc (.cells #[.pointer none, .slice none 0 0] 118) = W1 at *
  have x0 := HX1.out.c0
  have x1 := HX1.out.c1
  go_wp2_with (go_at_call 72; refine (HQN.out _ HVW.out).mono ?_; rintro e W2 ⟨rfl, hb2⟩)
  have HB2 := hidE (hb2.mono HBb.out)
  have HC2 := hidE (HB0.out.keep hb2)
  clear hb2 x0 x1
  refine (HLINE.out b W2 [] [⟨#[110, 111, 100, 101, 115]⟩, dn] 2 _ HC2.out rfl rfl (by simp) (by simp) (by simp) (by have := HL12.out.1; omega)).mono ?_
  rintro e W3 ⟨rfl, h3, hb3⟩
  have HC3 := hidE h3
  have HB3 := hidE (HB2.out.trans hb3)
  have x1 := (HB3.out.cell (p := ⟨w.heap.size, 1, none⟩) hwb).trans HX1.out.c1
  have HBw3 : Hid (Below w.heap.size w W3) := HVW.out.trans (HB3.out.mono (Nat.le_of_lt hwb))
  clear h3 hb3
  go_upto_region 4 with fail
  go_wp2_with (go_at_call 72; refine (HQR.out _ HBw3.out).mono ?_; rintro e W4 ⟨rfl, hb4⟩)
  have HC4 := hidE (HC3.out.keep hb4)
  have HB4 := hidE (HB3.out.trans (hb4.mono (Nat.le_trans HBb.out HB3.out.size)))
  clear hb4 x1
  refine (HLINE.out b W4 _ [⟨#[114, 101, 108, 115]⟩, dr] 2 _ HC4.out rfl rfl (by simp) (by simp) (by have := HL12.out.1; rw [List.nil_append]; omega) (by have := HL12.out.2; omega)).mono ?_
  rintro e w2 ⟨rfl, h5, hb5⟩
  have HB2' : Hid (Below b W1 w2) := HB4.out.trans hb5
  have HH0 : Hid (BldI b b (headL s) w2) := by
    show BldI _ _ _ _
    unfold headL
    rw [HSN.out.1, HSN.out.2, HDD.out.1, HDD.out.2]
    simpa using h5
  clear h5 hb5 HC4 HB4 HC3 HB3 HBw3 HC2 HB2 HQN HQR HDD HL12 HB0
  have e0 := (HB2'.out.cell (p := ⟨w.heap.size, 2, none⟩) hwb).trans HX1.out.c2
  go_wp2_with fail
  go_loopw [29] (fun i wr => ∃ (j : Nat), j ≤ m1 ∧ i = .int .i64 j ∧ BldI b b ((headL s) ++ (s.labels.take j).flatMap labLine) wr ∧ Below b W1 wr) (fun i _ => m1 - (intOf i).toNat)
  case atStart => exact ⟨0, Nat.zero_le _, rfl, by rw [List.take_zero]; simpa using HH0.out, HB2'.out⟩
  case round =>
    clear e0 HH0 HB2'
    obtain ⟨j, hj, rfl, htr, hbr⟩ := hrel
    have HTR := hidE htr
    have HBR := hidE hbr
    have HB3 : Hid (Below w.heap.size w wr) := HVW.out.trans (hbr.mono (Nat.le_of_lt hwb))
    clear htr hbr
    have HTS : Hid (((headL s) ++ (s.labels.take j).flatMap labLine).length ≤ 60000000000) := by
      show _ ≤ _
      rw [List.length_append]
      have h1 := HP0.out
      have h2 := flat_take_len (f := labLine) j fun x hx => labLine_len (HW.out.l x hx)
      have h3 := K.out.1
      omega
    by_cases hlt : j < m1
    · have hlt' : (j : Int) < m1 := by omega
      obtain ⟨⟨x, q⟩, hx⟩ : ∃ q, s.labels[j]? = some q := ⟨_, List.getElem?_eq_getElem (by have := HM.out.1; omega)⟩
      have hwx := HW.out.l _ (List.mem_of_getElem? hx)
      have hln := labLine_len hwx
      obtain ⟨bl, off, rfl, hbl, hc⟩ := HL3.out.resolve_left (by intro e; rw [e] at hx; simp at hx)
      have c0 := (HB3.out.cell (p := ⟨bl, off + j * 2 + 0, none⟩) (Nat.lt_of_lt_of_le hbl hB)).trans (hc j _ hx 0 _ rfl)
      have c1 := (HB3.out.cell (p := ⟨bl, off + j * 2 + 1, none⟩) (Nat.lt_of_lt_of_le hbl hB)).trans (hc j _ hx 1 _ rfl)
      rw [Nat.add_zero] at c0
      simp only at c0 c1
      have HFS := hidE (flat_step (f := labLine) hx)
      obtain ⟨n, hn⟩ : ∃ t, nameT x = t := ⟨_, rfl⟩
      have Hn : Hid (∀ W, Below w.heap.size w W → Calls Tryz.prog 73 #[.string x] W fun e w' => e = .returned (.string n) ∧ Below W.heap.size W w') := fun W hb => by rw [← hn]; exact HNAM.out W x hb hwx.1
      obtain ⟨d, hd⟩ : ∃ t, numT q = t := ⟨_, rfl⟩
      have Hd : Hid (∀ W, Below w.heap.size w W → Calls Tryz.prog 72 #[.int .i64 q] W fun e w' => e = .returned (.string d) ∧ Below W.heap.size W w') := fun W hb => by rw [← hd]; exact HNUM.out W q hb hwx.2
      have HFE : Hid (labLine (x, q) = lineB [⟨#[108, 97, 98, 101, 108]⟩, n, d]) := by
        show _ = _
        unfold labLine
        simp only
        rw [hn, hd]
      rw [HFE.out] at hln
      clear hx hc hwx hn hd
      go_upto_region 8 with fail
      have HB5 := hidE (Below.on HB3.out (below_new wr (.cells #[.string x, .int .i64 q] 42)))
      have HB6 := hidE (below_new wr (.cells #[.string x, .int .i64 q] 42))
      have d0 : (wr.alloc (.cells #[.string x, .int .i64 q] 42)).cell? ⟨wr.heap.size, 0, none⟩ = some (.string x) := cell_new _ _ _ _ _ rfl
      have d1 : (wr.alloc (.cells #[.string x, .int .i64 q] 42)).cell? ⟨wr.heap.size, 1, none⟩ = some (.int .i64 q) := cell_new _ _ _ _ _ rfl
      clear c0 c1
      generalize wr.alloc (.cells #[.string x, .int .i64 q] 42) = U2 at *
      have g0 : ∀ u : Up U2.drew, u.x.cell? ⟨wr.heap.size, 0, none⟩ = some (.string x) := fun u => u.cell (show U2.drew.cell? _ = _ from d0)
      have g1 : ∀ u : Up U2.drew, u.x.cell? ⟨wr.heap.size, 1, none⟩ = some (.int .i64 q) := fun u => u.cell (show U2.drew.cell? _ = _ from d1)
      have up_ne : Nonempty (Up U2.drew) := ⟨⟨U2.drew, Below.refl _ _⟩⟩
      clear d0 d1
      have HD0 := hidE (HB5.out.drew)
      have HKP := hidE (HB6.out.drew)
      refine wp_calm [([0, 1, 2, 4, 5], 3), ([], 6), ([], 7)] [] [8] (by kernel_rfl) (by kernel_rfl) ?_
      simp only [wpCalm, wpLoud, pickL, nthL, upC_eqT]
      repeat (go_big_quiet_step (fail))
      refine wpQuiet_nil ?_
      clear up_ne g0 g1
      go_wp2_with (go_at_call 73; refine (Hn.out _ HD0.out).mono ?_; rintro e u50 ⟨rfl, y0⟩; have HY0 := hidE y0; clear y0)
      have HD1 := hidE (Below.on HD0.out HY0.out)
      replace HKP := hidE (Below.on HKP.out HY0.out)
      refine ⟨HY0.out, wpQuiet_nil ?_⟩
      clear HY0
      go_wp2_with (go_at_call 72; refine (Hd.out _ HD1.out).mono ?_; rintro e u51 ⟨rfl, y1⟩; have HY1 := hidE y1; clear y1)
      have HD2 := hidE (Below.on HD1.out HY1.out)
      replace HKP := hidE (Below.on HKP.out HY1.out)
      refine ⟨HY1.out, wpQuiet_nil ?_⟩
      clear HY1
      go_wp2_with fail
      refine ⟨below_new _ _, wpQuiet_nil ?_⟩
      go_wp2_with (go_at_call 69; refine (HLINE.out b u51 _ [⟨#[108, 97, 98, 101, 108]⟩, n, d] 3 _ (HTR.out.keep HKP.out) rfl rfl (by simp) (by simp) (by have := HTS.out; omega) (by omega)).mono ?_; rintro e w4 ⟨rfl, y8, y9⟩; have HT4 := hidE y8; have HB4 := hidE y9; clear y8 y9)
      have hbwr : b ≤ wr.heap.size := Nat.le_trans HBb.out HBR.out.size
      have HB7 : Hid (Below b W1 w4) := HBR.out.trans ((HKP.out.mono hbwr).trans HB4.out)
      clear hbwr hln
      go_roundw
      case rel =>
        refine ⟨j + 1, by omega, by go_num, ?_, HB7.out⟩
        rw [HFS.out, ← List.append_assoc, HFE.out]
        exact HT4.out
      case measure => simp [intOf]; omega
    · have hlt' : ¬ (j : Int) < m1 := by omega
      have HH1 : Hid (BldI b b (txt1 s) wr) := by
        have h := HTR.out
        rw [List.take_of_length_le (by have := HM.out.1; omega)] at h
        exact h
      have HBX1 := hidE HBR.out
      have HBY1 := hidE HB3.out
      clear HTR HBR HB3 HTS
      have e0 := (HBX1.out.cell (p := ⟨w.heap.size, 3, none⟩) hwb).trans HX1.out.c3
      go_wp2_with fail
      go_loopw [46] (fun i wr => ∃ (j : Nat), j ≤ m2 ∧ i = .int .i64 j ∧ BldI b b ((txt1 s) ++ (s.types.take j).flatMap typLine) wr ∧ Below b W1 wr) (fun i _ => m2 - (intOf i).toNat)
      case atStart => exact ⟨0, Nat.zero_le _, rfl, by rw [List.take_zero]; simpa using HH1.out, HBX1.out⟩
      case round =>
        clear e0 HH1 HBX1
        obtain ⟨j, hj, rfl, htr, hbr⟩ := hrel
        have HTR := hidE htr
        have HBR := hidE hbr
        have HB3 : Hid (Below w.heap.size w wr) := HVW.out.trans (hbr.mono (Nat.le_of_lt hwb))
        clear htr hbr
        have HTS : Hid (((txt1 s) ++ (s.types.take j).flatMap typLine).length ≤ 60000000000) := by
          show _ ≤ _
          rw [List.length_append]
          have h1 := HP1.out
          have h2 := flat_take_len (f := typLine) j fun x hx => typLine_len (HW.out.t x hx)
          have h3 := K.out.2.1
          omega
        by_cases hlt : j < m2
        · have hlt' : (j : Int) < m2 := by omega
          obtain ⟨⟨x, q⟩, hx⟩ : ∃ q, s.types[j]? = some q := ⟨_, List.getElem?_eq_getElem (by have := HM.out.2.1; omega)⟩
          have hwx := HW.out.t _ (List.mem_of_getElem? hx)
          have hln := typLine_len hwx
          obtain ⟨bl, off, rfl, hbl, hc⟩ := HT3.out.resolve_left (by intro e; rw [e] at hx; simp at hx)
          have c0 := (HB3.out.cell (p := ⟨bl, off + j * 2 + 0, none⟩) (Nat.lt_of_lt_of_le hbl hB)).trans (hc j _ hx 0 _ rfl)
          have c1 := (HB3.out.cell (p := ⟨bl, off + j * 2 + 1, none⟩) (Nat.lt_of_lt_of_le hbl hB)).trans (hc j _ hx 1 _ rfl)
          rw [Nat.add_zero] at c0
          simp only at c0 c1
          have HFS := hidE (flat_step (f := typLine) hx)
          obtain ⟨n, hn⟩ : ∃ t, nameT x = t := ⟨_, rfl⟩
          have Hn : Hid (∀ W, Below w.heap.size w W → Calls Tryz.prog 73 #[.string x] W fun e w' => e = .returned (.string n) ∧ Below W.heap.size W w') := fun W hb => by rw [← hn]; exact HNAM.out W x hb hwx.1
          obtain ⟨d, hd⟩ : ∃ t, numT q = t := ⟨_, rfl⟩
          have Hd : Hid (∀ W, Below w.heap.size w W → Calls Tryz.prog 72 #[.int .i64 q] W fun e w' => e = .returned (.string d) ∧ Below W.heap.size W w') := fun W hb => by rw [← hd]; exact HNUM.out W q hb hwx.2
          have HFE : Hid (typLine (x, q) = lineB [⟨#[116, 121, 112, 101]⟩, n, d]) := by
            show _ = _
            unfold typLine
            simp only
            rw [hn, hd]
          rw [HFE.out] at hln
          clear hx hc hwx hn hd
          go_upto_region 13 with fail
          have HB5 := hidE (Below.on HB3.out (below_new wr (.cells #[.string x, .int .i64 q] 62)))
          have HB6 := hidE (below_new wr (.cells #[.string x, .int .i64 q] 62))
          have d0 : (wr.alloc (.cells #[.string x, .int .i64 q] 62)).cell? ⟨wr.heap.size, 0, none⟩ = some (.string x) := cell_new _ _ _ _ _ rfl
          have d1 : (wr.alloc (.cells #[.string x, .int .i64 q] 62)).cell? ⟨wr.heap.size, 1, none⟩ = some (.int .i64 q) := cell_new _ _ _ _ _ rfl
          clear c0 c1
          generalize wr.alloc (.cells #[.string x, .int .i64 q] 62) = U2 at *
          have g0 : ∀ u : Up U2.drew, u.x.cell? ⟨wr.heap.size, 0, none⟩ = some (.string x) := fun u => u.cell (show U2.drew.cell? _ = _ from d0)
          have g1 : ∀ u : Up U2.drew, u.x.cell? ⟨wr.heap.size, 1, none⟩ = some (.int .i64 q) := fun u => u.cell (show U2.drew.cell? _ = _ from d1)
          have up_ne : Nonempty (Up U2.drew) := ⟨⟨U2.drew, Below.refl _ _⟩⟩
          clear d0 d1
          have HD0 := hidE (HB5.out.drew)
          have HKP := hidE (HB6.out.drew)
          refine wp_calm [([0, 1, 2, 4, 5], 3), ([], 6), ([], 7)] [] [8] (by kernel_rfl) (by kernel_rfl) ?_
          simp only [wpCalm, wpLoud, pickL, nthL, upC_eqT]
          repeat (go_big_quiet_step (fail))
          refine wpQuiet_nil ?_
          clear up_ne g0 g1
          go_wp2_with (go_at_call 73; refine (Hn.out _ HD0.out).mono ?_; rintro e u50 ⟨rfl, y0⟩; have HY0 := hidE y0; clear y0)
          have HD1 := hidE (Below.on HD0.out HY0.out)
          replace HKP := hidE (Below.on HKP.out HY0.out)
          refine ⟨HY0.out, wpQuiet_nil ?_⟩
          clear HY0
          go_wp2_with (go_at_call 72; refine (Hd.out _ HD1.out).mono ?_; rintro e u51 ⟨rfl, y1⟩; have HY1 := hidE y1; clear y1)
          have HD2 := hidE (Below.on HD1.out HY1.out)
          replace HKP := hidE (Below.on HKP.out HY1.out)
          refine ⟨HY1.out, wpQuiet_nil ?_⟩
          clear HY1
          go_wp2_with fail
          refine ⟨below_new _ _, wpQuiet_nil ?_⟩
          go_wp2_with (go_at_call 69; refine (HLINE.out b u51 _ [⟨#[116, 121, 112, 101]⟩, n, d] 3 _ (HTR.out.keep HKP.out) rfl rfl (by simp) (by simp) (by have := HTS.out; omega) (by omega)).mono ?_; rintro e w4 ⟨rfl, y8, y9⟩; have HT4 := hidE y8; have HB4 := hidE y9; clear y8 y9)
          have hbwr : b ≤ wr.heap.size := Nat.le_trans HBb.out HBR.out.size
          have HB7 : Hid (Below b W1 w4) := HBR.out.trans ((HKP.out.mono hbwr).trans HB4.out)
          clear hbwr hln
          go_roundw
          case rel =>
            refine ⟨j + 1, by omega, by go_num, ?_, HB7.out⟩
            rw [HFS.out, ← List.append_assoc, HFE.out]
            exact HT4.out
          case measure => simp [intOf]; omega
        · clear HBY1
          have hlt' : ¬ (j : Int) < m2 := by omega
          have HH2 : Hid (BldI b b (txt2 s) wr) := by
            have h := HTR.out
            rw [List.take_of_length_le (by have := HM.out.2.1; omega)] at h
            exact h
          have HBX2 := hidE HBR.out
          have HBY2 := hidE HB3.out
          clear HTR HBR HB3 HTS
          have e0 := (HBX2.out.cell (p := ⟨w.heap.size, 4, none⟩) hwb).trans HX1.out.c4
          go_wp2_with fail
          go_loopw [63] (fun i wr => ∃ (j : Nat), j ≤ m3 ∧ i = .int .i64 j ∧ BldI b b ((txt2 s) ++ (s.ends.take j).flatMap endLine) wr ∧ Below b W1 wr) (fun i _ => m3 - (intOf i).toNat)
          case atStart => exact ⟨0, Nat.zero_le _, rfl, by rw [List.take_zero]; simpa using HH2.out, HBX2.out⟩
          case round =>
            clear e0 HH2 HBX2
            obtain ⟨j, hj, rfl, htr, hbr⟩ := hrel
            have HTR := hidE htr
            have HBR := hidE hbr
            have HB3 : Hid (Below w.heap.size w wr) := HVW.out.trans (hbr.mono (Nat.le_of_lt hwb))
            clear htr hbr
            have HTS : Hid (((txt2 s) ++ (s.ends.take j).flatMap endLine).length ≤ 60000000000) := by
              show _ ≤ _
              rw [List.length_append]
              have h1 := HP2.out
              have h2 := flat_take_len (f := endLine) j fun x hx => endLine_len (HW.out.e x hx)
              have h3 := K.out.2.2.1
              omega
            by_cases hlt : j < m3
            · have hlt' : (j : Int) < m3 := by omega
              obtain ⟨⟨x, y, o, q⟩, hx⟩ : ∃ q, s.ends[j]? = some q := ⟨_, List.getElem?_eq_getElem (by have := HM.out.2.2.1; omega)⟩
              have hwx := HW.out.e _ (List.mem_of_getElem? hx)
              have hln := endLine_len hwx
              obtain ⟨bl, off, rfl, hbl, hc⟩ := HE3.out.resolve_left (by intro e; rw [e] at hx; simp at hx)
              have c0 := (HB3.out.cell (p := ⟨bl, off + j * 4 + 0, none⟩) (Nat.lt_of_lt_of_le hbl hB)).trans (hc j _ hx 0 _ rfl)
              have c1 := (HB3.out.cell (p := ⟨bl, off + j * 4 + 1, none⟩) (Nat.lt_of_lt_of_le hbl hB)).trans (hc j _ hx 1 _ rfl)
              have c2 := (HB3.out.cell (p := ⟨bl, off + j * 4 + 2, none⟩) (Nat.lt_of_lt_of_le hbl hB)).trans (hc j _ hx 2 _ rfl)
              have c3 := (HB3.out.cell (p := ⟨bl, off + j * 4 + 3, none⟩) (Nat.lt_of_lt_of_le hbl hB)).trans (hc j _ hx 3 _ rfl)
              rw [Nat.add_zero] at c0
              simp only at c0 c1 c2 c3
              have HFS := hidE (flat_step (f := endLine) hx)
              obtain ⟨n, hn⟩ : ∃ t, nameT x = t := ⟨_, rfl⟩
              have Hn : Hid (∀ W, Below w.heap.size w W → Calls Tryz.prog 73 #[.string x] W fun e w' => e = .returned (.string n) ∧ Below W.heap.size W w') := fun W hb => by rw [← hn]; exact HNAM.out W x hb hwx.1
              obtain ⟨n', hn'⟩ : ∃ t, nameT y = t := ⟨_, rfl⟩
              have Hn' : Hid (∀ W, Below w.heap.size w W → Calls Tryz.prog 73 #[.string y] W fun e w' => e = .returned (.string n') ∧ Below W.heap.size W w') := fun W hb => by rw [← hn']; exact HNAM.out W y hb hwx.2.1
              obtain ⟨o', ho'⟩ : ∃ t, wayT o = t := ⟨_, rfl⟩
              have Ho' : Hid (∀ W, Below w.heap.size w W → Calls Tryz.prog 74 #[.bool o] W fun e w' => e = .returned (.string o') ∧ Below W.heap.size W w') := fun W hb => by
                rw [← ho']
                refine (way_any o W).mono ?_
                rintro e _ ⟨g, rfl⟩
                exact ⟨g, Below.refl _ _⟩
              obtain ⟨d, hd⟩ : ∃ t, numT q = t := ⟨_, rfl⟩
              have Hd : Hid (∀ W, Below w.heap.size w W → Calls Tryz.prog 72 #[.int .i64 q] W fun e w' => e = .returned (.string d) ∧ Below W.heap.size W w') := fun W hb => by rw [← hd]; exact HNUM.out W q hb hwx.2.2
              have HFE : Hid (endLine (x, y, o, q) = lineB [⟨#[101, 110, 100]⟩, n, n', o', d]) := by
                show _ = _
                unfold endLine
                simp only
                rw [hn, hn', ho', hd]
              rw [HFE.out] at hln
              clear hx hc hwx hn hn' ho' hd
              go_upto_region 18 with fail
              have HB5 := hidE (Below.on HB3.out (below_new wr (.cells #[.string x, .string y, .bool o, .int .i64 q] 64)))
              have HB6 := hidE (below_new wr (.cells #[.string x, .string y, .bool o, .int .i64 q] 64))
              have d0 : (wr.alloc (.cells #[.string x, .string y, .bool o, .int .i64 q] 64)).cell? ⟨wr.heap.size, 0, none⟩ = some (.string x) := cell_new _ _ _ _ _ rfl
              have d1 : (wr.alloc (.cells #[.string x, .string y, .bool o, .int .i64 q] 64)).cell? ⟨wr.heap.size, 1, none⟩ = some (.string y) := cell_new _ _ _ _ _ rfl
              have d2 : (wr.alloc (.cells #[.string x, .string y, .bool o, .int .i64 q] 64)).cell? ⟨wr.heap.size, 2, none⟩ = some (.bool o) := cell_new _ _ _ _ _ rfl
              have d3 : (wr.alloc (.cells #[.string x, .string y, .bool o, .int .i64 q] 64)).cell? ⟨wr.heap.size, 3, none⟩ = some (.int .i64 q) := cell_new _ _ _ _ _ rfl
              clear c0 c1 c2 c3
              generalize wr.alloc (.cells #[.string x, .string y, .bool o, .int .i64 q] 64) = U2 at *
              have g0 : ∀ u : Up U2.drew, u.x.cell? ⟨wr.heap.size, 0, none⟩ = some (.string x) := fun u => u.cell (show U2.drew.cell? _ = _ from d0)
              have g1 : ∀ u : Up U2.drew, u.x.cell? ⟨wr.heap.size, 1, none⟩ = some (.string y) := fun u => u.cell (show U2.drew.cell? _ = _ from d1)
              have g2 : ∀ u : Up U2.drew, u.x.cell? ⟨wr.heap.size, 2, none⟩ = some (.bool o) := fun u => u.cell (show U2.drew.cell? _ = _ from d2)
              have g3 : ∀ u : Up U2.drew, u.x.cell? ⟨wr.heap.size, 3, none⟩ = some (.int .i64 q) := fun u => u.cell (show U2.drew.cell? _ = _ from d3)
              have up_ne : Nonempty (Up U2.drew) := ⟨⟨U2.drew, Below.refl _ _⟩⟩
              clear d0 d1 d2 d3
              have HD0 := hidE (HB5.out.drew)
              have HKP := hidE (HB6.out.drew)
              refine wp_calm [([0, 1, 2, 4, 5, 7, 8, 10, 11], 3), ([], 6), ([], 9), ([], 12), ([], 13)] [] [14] (by kernel_rfl) (by kernel_rfl) ?_
              simp only [wpCalm, wpLoud, pickL, nthL, upC_eqT]
              repeat (go_big_quiet_step (fail))
              refine wpQuiet_nil ?_
              clear up_ne g0 g1 g2 g3
              go_wp2_with (go_at_call 73; refine (Hn.out _ HD0.out).mono ?_; rintro e u50 ⟨rfl, y0⟩; have HY0 := hidE y0; clear y0)
              have HD1 := hidE (Below.on HD0.out HY0.out)
              replace HKP := hidE (Below.on HKP.out HY0.out)
              refine ⟨HY0.out, wpQuiet_nil ?_⟩
              clear HY0
              go_wp2_with (go_at_call 73; refine (Hn'.out _ HD1.out).mono ?_; rintro e u51 ⟨rfl, y1⟩; have HY1 := hidE y1; clear y1)
              have HD2 := hidE (Below.on HD1.out HY1.out)
              replace HKP := hidE (Below.on HKP.out HY1.out)
              refine ⟨HY1.out, wpQuiet_nil ?_⟩
              clear HY1
              go_wp2_with (go_at_call 74; refine (Ho'.out _ HD2.out).mono ?_; rintro e u52 ⟨rfl, y2⟩; have HY2 := hidE y2; clear y2)
              have HD3 := hidE (Below.on HD2.out HY2.out)
              replace HKP := hidE (Below.on HKP.out HY2.out)
              refine ⟨HY2.out, wpQuiet_nil ?_⟩
              clear HY2
              go_wp2_with (go_at_call 72; refine (Hd.out _ HD3.out).mono ?_; rintro e u53 ⟨rfl, y3⟩; have HY3 := hidE y3; clear y3)
              have HD4 := hidE (Below.on HD3.out HY3.out)
              replace HKP := hidE (Below.on HKP.out HY3.out)
              refine ⟨HY3.out, wpQuiet_nil ?_⟩
              clear HY3
              go_wp2_with fail
              refine ⟨below_new _ _, wpQuiet_nil ?_⟩
              go_wp2_with (go_at_call 69; refine (HLINE.out b u53 _ [⟨#[101, 110, 100]⟩, n, n', o', d] 5 _ (HTR.out.keep HKP.out) rfl rfl (by simp) (by simp) (by have := HTS.out; omega) (by omega)).mono ?_; rintro e w4 ⟨rfl, y8, y9⟩; have HT4 := hidE y8; have HB4 := hidE y9; clear y8 y9)
              have hbwr : b ≤ wr.heap.size := Nat.le_trans HBb.out HBR.out.size
              have HB7 : Hid (Below b W1 w4) := HBR.out.trans ((HKP.out.mono hbwr).trans HB4.out)
              clear hbwr hln
              go_roundw
              case rel =>
                refine ⟨j + 1, by omega, by go_num, ?_, HB7.out⟩
                rw [HFS.out, ← List.append_assoc, HFE.out]
                exact HT4.out
              case measure => simp [intOf]; omega
            · clear HBY2
              have hlt' : ¬ (j : Int) < m3 := by omega
              have HH3 : Hid (BldI b b (txt3 s) wr) := by
                have h := HTR.out
                rw [List.take_of_length_le (by have := HM.out.2.2.1; omega)] at h
                exact h
              have HBX3 := hidE HBR.out
              have HBY3 := hidE HB3.out
              clear HTR HBR HB3 HTS
              have e0 := (HBX3.out.cell (p := ⟨w.heap.size, 5, none⟩) hwb).trans HX1.out.c5
              go_wp2_with fail
              go_loopw [86] (fun i wr => ∃ (j : Nat), j ≤ m4 ∧ i = .int .i64 j ∧ BldI b b ((txt3 s) ++ (s.keys.take j).flatMap keyLine) wr ∧ Below b W1 wr) (fun i _ => m4 - (intOf i).toNat)
              case atStart => exact ⟨0, Nat.zero_le _, rfl, by rw [List.take_zero]; simpa using HH3.out, HBX3.out⟩
              case round =>
                clear e0 HH3 HBX3
                obtain ⟨j, hj, rfl, htr, hbr⟩ := hrel
                have HTR := hidE htr
                have HBR := hidE hbr
                have HB3 : Hid (Below w.heap.size w wr) := HVW.out.trans (hbr.mono (Nat.le_of_lt hwb))
                clear htr hbr
                have HTS : Hid (((txt3 s) ++ (s.keys.take j).flatMap keyLine).length ≤ 60000000000) := by
                  show _ ≤ _
                  rw [List.length_append]
                  have h1 := HP3.out
                  have h2 := flat_take_len (f := keyLine) j fun x hx => keyLine_len (HW.out.k x hx)
                  have h3 := K.out.2.2.2
                  omega
                by_cases hlt : j < m4
                · have hlt' : (j : Int) < m4 := by omega
                  obtain ⟨⟨x, y, o, q⟩, hx⟩ : ∃ q, s.keys[j]? = some q := ⟨_, List.getElem?_eq_getElem (by have := HM.out.2.2.2; omega)⟩
                  have hwx := HW.out.k _ (List.mem_of_getElem? hx)
                  have hln := keyLine_len hwx
                  obtain ⟨bl, off, rfl, hbl, hc⟩ := HK3.out.resolve_left (by intro e; rw [e] at hx; simp at hx)
                  have c0 := (HB3.out.cell (p := ⟨bl, off + j * 4 + 0, none⟩) (Nat.lt_of_lt_of_le hbl hB)).trans (hc j _ hx 0 _ rfl)
                  have c1 := (HB3.out.cell (p := ⟨bl, off + j * 4 + 1, none⟩) (Nat.lt_of_lt_of_le hbl hB)).trans (hc j _ hx 1 _ rfl)
                  have c2 := (HB3.out.cell (p := ⟨bl, off + j * 4 + 2, none⟩) (Nat.lt_of_lt_of_le hbl hB)).trans (hc j _ hx 2 _ rfl)
                  have c3 := (HB3.out.cell (p := ⟨bl, off + j * 4 + 3, none⟩) (Nat.lt_of_lt_of_le hbl hB)).trans (hc j _ hx 3 _ rfl)
                  rw [Nat.add_zero] at c0
                  simp only at c0 c1 c2 c3
                  have HFS := hidE (flat_step (f := keyLine) hx)
                  obtain ⟨n, hn⟩ : ∃ t, nameT x = t := ⟨_, rfl⟩
                  have Hn : Hid (∀ W, Below w.heap.size w W → Calls Tryz.prog 73 #[.string x] W fun e w' => e = .returned (.string n) ∧ Below W.heap.size W w') := fun W hb => by rw [← hn]; exact HNAM.out W x hb hwx.1
                  obtain ⟨n', hn'⟩ : ∃ t, nameT y = t := ⟨_, rfl⟩
                  have Hn' : Hid (∀ W, Below w.heap.size w W → Calls Tryz.prog 73 #[.string y] W fun e w' => e = .returned (.string n') ∧ Below W.heap.size W w') := fun W hb => by rw [← hn']; exact HNAM.out W y hb hwx.2.1
                  obtain ⟨d', hd'⟩ : ∃ t, numT o = t := ⟨_, rfl⟩
                  have Hd' : Hid (∀ W, Below w.heap.size w W → Calls Tryz.prog 72 #[.int .i64 o] W fun e w' => e = .returned (.string d') ∧ Below W.heap.size W w') := fun W hb => by rw [← hd']; exact HNUM.out W o hb hwx.2.2.1
                  obtain ⟨d, hd⟩ : ∃ t, numT q = t := ⟨_, rfl⟩
                  have Hd : Hid (∀ W, Below w.heap.size w W → Calls Tryz.prog 72 #[.int .i64 q] W fun e w' => e = .returned (.string d) ∧ Below W.heap.size W w') := fun W hb => by rw [← hd]; exact HNUM.out W q hb hwx.2.2.2
                  have HFE : Hid (keyLine (x, y, o, q) = lineB [⟨#[107, 101, 121]⟩, n, n', d', d]) := by
                    show _ = _
                    unfold keyLine
                    simp only
                    rw [hn, hn', hd', hd]
                  rw [HFE.out] at hln
                  clear hx hc hwx hn hn' hd' hd
                  go_upto_region 23 with fail
                  have HB5 := hidE (Below.on HB3.out (below_new wr (.cells #[.string x, .string y, .int .i64 o, .int .i64 q] 66)))
                  have HB6 := hidE (below_new wr (.cells #[.string x, .string y, .int .i64 o, .int .i64 q] 66))
                  have d0 : (wr.alloc (.cells #[.string x, .string y, .int .i64 o, .int .i64 q] 66)).cell? ⟨wr.heap.size, 0, none⟩ = some (.string x) := cell_new _ _ _ _ _ rfl
                  have d1 : (wr.alloc (.cells #[.string x, .string y, .int .i64 o, .int .i64 q] 66)).cell? ⟨wr.heap.size, 1, none⟩ = some (.string y) := cell_new _ _ _ _ _ rfl
                  have d2 : (wr.alloc (.cells #[.string x, .string y, .int .i64 o, .int .i64 q] 66)).cell? ⟨wr.heap.size, 2, none⟩ = some (.int .i64 o) := cell_new _ _ _ _ _ rfl
                  have d3 : (wr.alloc (.cells #[.string x, .string y, .int .i64 o, .int .i64 q] 66)).cell? ⟨wr.heap.size, 3, none⟩ = some (.int .i64 q) := cell_new _ _ _ _ _ rfl
                  clear c0 c1 c2 c3
                  generalize wr.alloc (.cells #[.string x, .string y, .int .i64 o, .int .i64 q] 66) = U2 at *
                  have g0 : ∀ u : Up U2.drew, u.x.cell? ⟨wr.heap.size, 0, none⟩ = some (.string x) := fun u => u.cell (show U2.drew.cell? _ = _ from d0)
                  have g1 : ∀ u : Up U2.drew, u.x.cell? ⟨wr.heap.size, 1, none⟩ = some (.string y) := fun u => u.cell (show U2.drew.cell? _ = _ from d1)
                  have g2 : ∀ u : Up U2.drew, u.x.cell? ⟨wr.heap.size, 2, none⟩ = some (.int .i64 o) := fun u => u.cell (show U2.drew.cell? _ = _ from d2)
                  have g3 : ∀ u : Up U2.drew, u.x.cell? ⟨wr.heap.size, 3, none⟩ = some (.int .i64 q) := fun u => u.cell (show U2.drew.cell? _ = _ from d3)
                  have up_ne : Nonempty (Up U2.drew) := ⟨⟨U2.drew, Below.refl _ _⟩⟩
                  clear d0 d1 d2 d3
                  have HD0 := hidE (HB5.out.drew)
                  have HKP := hidE (HB6.out.drew)
                  refine wp_calm [([0, 1, 2, 4, 5, 7, 8, 10, 11], 3), ([], 6), ([], 9), ([], 12), ([], 13)] [] [14] (by kernel_rfl) (by kernel_rfl) ?_
                  simp only [wpCalm, wpLoud, pickL, nthL, upC_eqT]
                  repeat (go_big_quiet_step (fail))
                  refine wpQuiet_nil ?_
                  clear up_ne g0 g1 g2 g3
                  go_wp2_with (go_at_call 73; refine (Hn.out _ HD0.out).mono ?_; rintro e u50 ⟨rfl, y0⟩; have HY0 := hidE y0; clear y0)
                  have HD1 := hidE (Below.on HD0.out HY0.out)
                  replace HKP := hidE (Below.on HKP.out HY0.out)
                  refine ⟨HY0.out, wpQuiet_nil ?_⟩
                  clear HY0
                  go_wp2_with (go_at_call 73; refine (Hn'.out _ HD1.out).mono ?_; rintro e u51 ⟨rfl, y1⟩; have HY1 := hidE y1; clear y1)
                  have HD2 := hidE (Below.on HD1.out HY1.out)
                  replace HKP := hidE (Below.on HKP.out HY1.out)
                  refine ⟨HY1.out, wpQuiet_nil ?_⟩
                  clear HY1
                  go_wp2_with (go_at_call 72; refine (Hd'.out _ HD2.out).mono ?_; rintro e u52 ⟨rfl, y2⟩; have HY2 := hidE y2; clear y2)
                  have HD3 := hidE (Below.on HD2.out HY2.out)
                  replace HKP := hidE (Below.on HKP.out HY2.out)
                  refine ⟨HY2.out, wpQuiet_nil ?_⟩
                  clear HY2
                  go_wp2_with (go_at_call 72; refine (Hd.out _ HD3.out).mono ?_; rintro e u53 ⟨rfl, y3⟩; have HY3 := hidE y3; clear y3)
                  have HD4 := hidE (Below.on HD3.out HY3.out)
                  replace HKP := hidE (Below.on HKP.out HY3.out)
                  refine ⟨HY3.out, wpQuiet_nil ?_⟩
                  clear HY3
                  go_wp2_with fail
                  refine ⟨below_new _ _, wpQuiet_nil ?_⟩
                  go_wp2_with (go_at_call 69; refine (HLINE.out b u53 _ [⟨#[107, 101, 121]⟩, n, n', d', d] 5 _ (HTR.out.keep HKP.out) rfl rfl (by simp) (by simp) (by have := HTS.out; omega) (by omega)).mono ?_; rintro e w4 ⟨rfl, y8, y9⟩; have HT4 := hidE y8; have HB4 := hidE y9; clear y8 y9)
                  have hbwr : b ≤ wr.heap.size := Nat.le_trans HBb.out HBR.out.size
                  have HB7 : Hid (Below b W1 w4) := HBR.out.trans ((HKP.out.mono hbwr).trans HB4.out)
                  clear hbwr hln
                  go_roundw
                  case rel =>
                    refine ⟨j + 1, by omega, by go_num, ?_, HB7.out⟩
                    rw [HFS.out, ← List.append_assoc, HFE.out]
                    exact HT4.out
                  case measure => simp [intOf]; omega
                · clear HBY3
                  have hlt' : ¬ (j : Int) < m4 := by omega
                  have HH4 : Hid (BldI b b (textL s) wr) := by
                    have h := HTR.out
                    rw [List.take_of_length_le (by have := HM.out.2.2.2; omega)] at h
                    exact h
                  have HBX4 := hidE HBR.out
                  have HBY4 := hidE HB3.out
                  clear HTR HBR HB3 HTS
                  have HS := hidE (Tryz.Builder_String_any b b (textL s) wr HH4.out (Nat.le_trans HBb.out HBX4.out.size))
                  go_wp2_with (go_at_call 75; refine HS.out.mono ?_; rintro e w9 ⟨rfl, y9⟩; have HB9 : Hid (Below w.heap.size w w9) := HBY4.out.trans (y9.mono (Nat.le_of_lt hwb)); clear y9)
                  go_ret
                  exact ⟨rfl, HB9.out⟩
end Go.Proofs.YthfilnflgahcjaaGreatDoor
