/- The reference's Text. -/
import Derived.Test.YthfilnflgahcjaaGreatDoorJoin12
import Derived.Test.YthfilnflgahcjaaGreatDoorJoin3
namespace Go.Proofs.YthfilnflgahcjaaGreatDoor
open Go.RowKit Go.Shelf Go.Maps
set_option linter.unusedVariables false
set_option linter.unusedSimpArgs false
attribute [local go_sem] Oper.semAt_some
theorem txt1_len {s : StatP} (h : StatW s) (hl : s.labels.length ≤ 300) : (txt1 s).length ≤ 4000000 := by
  unfold txt1
  rw [List.length_append]
  have h1 := head_len h
  have h2 := flat_len (f := labLine) s.labels fun x hx => labLine_len (h.l x hx)
  omega
theorem txt2_len {s : StatP} (h : StatW s) (hl : s.labels.length ≤ 300) (ht : s.types.length ≤ 300) : (txt2 s).length ≤ 8000000 := by
  unfold txt2
  rw [List.length_append]
  have h1 := txt1_len h hl
  have h2 := flat_len (f := typLine) s.types fun x hx => typLine_len (h.t x hx)
  omega
theorem txt3_len {s : StatP} (h : StatW s) (hl : s.labels.length ≤ 300) (ht : s.types.length ≤ 300) (he : s.ends.length ≤ 300) : (txt3 s).length ≤ 12000000 := by
  unfold txt3
  rw [List.length_append]
  have h1 := txt2_len h hl ht
  have h2 := flat_len (f := endLine) s.ends fun x hx => endLine_len (h.e x hx)
  omega
theorem size_of {t : ByteArray} {l : List UInt8} (h : t.data.toList = l) : t.size = l.length := by rw [← h]; rfl
set_option maxRecDepth 100000 in
set_option maxHeartbeats 16000000 in
theorem rtext_any (s : StatP) (vl vt ve vk : Value) (B : Nat) (w : World) (hB : B ≤ w.heap.size) (hE : Env2 w) (h : StatL B w vl vt ve vk s) (hw : StatW s) (k1 : s.labels.length ≤ 300) (k2 : s.types.length ≤ 300) (k3 : s.ends.length ≤ 300) (k4 : s.keys.length ≤ 300) :
    Calls Tryz.prog 37 #[statV s vl vt ve vk] w fun e w' => e = .returned (.string ⟨(textL s).toArray⟩) ∧ Below w.heap.size w w' := by
  have HNUM : Hid (∀ W n, Below w.heap.size w W → W64 n → Calls Tryz.prog 76 #[.int .i64 n] W fun e w' => e = .returned (.string (numT n)) ∧ Below W.heap.size W w') := fun W n hb hn => rnumeral_any n hn W (hE.below hb)
  have HNAM : Hid (∀ W x, x.size ≤ 3000 → Calls Tryz.prog 77 #[.string x] W fun e w' => e = .returned (.string (nameT x)) ∧ Below W.heap.size W w') := fun W x hx => rnamed_any x (by omega) W
  have HP0 := hidE (head_len hw)
  have HP1 := hidE (txt1_len hw k1)
  have HP2 := hidE (txt2_len hw k1 k2)
  have HP3 := hidE (txt3_len hw k1 k2 k3)
  have HW := hidE hw
  have K := hidE (And.intro k1 (And.intro k2 (And.intro k3 k4)))
  obtain ⟨la, lc, rfl, a1, a2, a3⟩ := h.hl
  obtain ⟨ta, tc, rfl, b1, b2, b3⟩ := h.ht
  obtain ⟨ea, ec, rfl, c1, c2, c3⟩ := h.he
  obtain ⟨ka, kc, rfl, d1, d2, d3⟩ := h.hk
  have HL3 := hidE a3
  have HT3 := hidE b3
  have HE3 := hidE c3
  have HK3 := hidE d3
  unfold statV
  obtain ⟨m1, hm1⟩ : ∃ m, s.labels.length = m := ⟨_, rfl⟩
  obtain ⟨m2, hm2⟩ : ∃ m, s.types.length = m := ⟨_, rfl⟩
  obtain ⟨m3, hm3⟩ : ∃ m, s.ends.length = m := ⟨_, rfl⟩
  obtain ⟨m4, hm4⟩ : ∃ m, s.keys.length = m := ⟨_, rfl⟩
  have HM := hidE (And.intro hm1 (And.intro hm2 (And.intro hm3 hm4)))
  rw [hm1] at a1 ⊢
  rw [hm2] at b1 ⊢
  rw [hm3] at c1 ⊢
  rw [hm4] at d1 ⊢
  obtain ⟨sn, hsn⟩ : ∃ n, s.nodes = n := ⟨_, rfl⟩
  obtain ⟨sr, hsr⟩ : ∃ n, s.rels = n := ⟨_, rfl⟩
  have HSN := hidE (And.intro hsn hsr)
  rw [hsn, hsr]
  have hwn : W64 sn := hsn ▸ hw.n
  have hwr : W64 sr := hsr ▸ hw.r
  obtain ⟨dn, hdn⟩ : ∃ t, numT sn = t := ⟨_, rfl⟩
  obtain ⟨dr, hdr⟩ : ∃ t, numT sr = t := ⟨_, rfl⟩
  have hzn : dn.size ≤ 21 := hdn ▸ numT_len hwn
  have hzr : dr.size ≤ 21 := hdr ▸ numT_len hwr
  have HQN : Hid (∀ W, Below w.heap.size w W → Calls Tryz.prog 76 #[.int .i64 sn] W fun e w' => e = .returned (.string dn) ∧ Below W.heap.size W w') := fun W hb => by rw [← hdn]; exact HNUM.out W sn hb hwn
  have HQR : Hid (∀ W, Below w.heap.size w W → Calls Tryz.prog 76 #[.int .i64 sr] W fun e w' => e = .returned (.string dr) ∧ Below W.heap.size W w') := fun W hb => by rw [← hdr]; exact HNUM.out W sr hb hwr
  have HDD := hidE (And.intro hdn hdr)
  clear hsn hsr hwn hwr hdn hdr h hw k1 k2 k3 k4 hm1 hm2 hm3 hm4 a3 b3 c3 d3 hE
  go_enter Tryz.func37, Tryz.ntmps37
  go_upto_region 1 with fail
  have HW0 := hidE (below_new w (.cells #[.int .i64 sn, .int .i64 sr, .slice la m1 lc, .slice ta m2 tc, .slice ea m3 ec, .slice ka m4 kc] 33))
  have HX0 := hidE (sbox_new w (.int .i64 sn) (.int .i64 sr) (.slice la m1 lc) (.slice ta m2 tc) (.slice ea m3 ec) (.slice ka m4 kc) 33)
  generalize w.alloc (.cells #[.int .i64 sn, .int .i64 sr, .slice la m1 lc, .slice ta m2 tc, .slice ea m3 ec, .slice ka m4 kc] 33) = W1 at *
  have f0 : ∀ u : Up W1, u.x.cell? ⟨w.heap.size, 0, none⟩ = some (.int .i64 sn) := fun u => u.cell HX0.out.c0
  have f1 : ∀ u : Up W1, u.x.cell? ⟨w.heap.size, 1, none⟩ = some (.int .i64 sr) := fun u => u.cell HX0.out.c1
  have up_ne : Nonempty (Up W1) := ⟨⟨W1, Below.refl _ _⟩⟩
  have z1 : ¬ 9223372036854775807 < 6 + dn.size := by omega
  have z2 : ¬ 9223372036854775807 < 6 + dn.size + 6 := by omega
  have z3 : ¬ 9223372036854775807 < 6 + dn.size + 6 + dr.size := by omega
  have z4 : ¬ 9223372036854775807 < 6 + dn.size + 6 + dr.size + 1 := by omega
  refine wp_up (by kernel_rfl) (by kernel_rfl) ?_
  repeat (go_big_quiet_step (first | (go_at_call_of 76 (Value.int .i64 sn); exact Up.call (HQN.out _ (Below.on HW0.out (Up.b _)))) | (go_at_call_of 76 (Value.int .i64 sr); exact Up.call (HQR.out _ (Below.on HW0.out (Up.b _))))))
  refine wpQuiet_nil ?_
  rintro w2 ⟨⟨W2, hb2⟩, rfl⟩
  have HB2 := hidE (Below.on HW0.out hb2)
  have HX2 := hidE (HX0.out.keep hb2)
  clear f0 f1 up_ne z1 z2 z3 z4 hzn hzr HQN HQR HX0 HW0 hb2
  obtain ⟨t0, ht0⟩ : ∃ t : ByteArray, (⟨#[110, 111, 100, 101, 115, 32]⟩ : ByteArray) ++ dn ++ ⟨#[10, 114, 101, 108, 115, 32]⟩ ++ dr ++ ⟨#[10]⟩ = t := ⟨_, rfl⟩
  have HT0 : Hid (t0.data.toList = headL s) := by
    show _ = _
    rw [← ht0]
    unfold headL
    rw [HSN.out.1, HSN.out.2, HDD.out.1, HDD.out.2]
    simp [lineB, Lib.join, List.intercalate]
  rw [ht0]
  clear ht0 HDD
  go_wp2_with fail
  go_loopw [4, 3] (fun i r wr => ∃ (t : ByteArray) (j : Nat), j ≤ m1 ∧ i = .int .i64 j ∧ r = .string t ∧ t.data.toList = (headL s) ++ (s.labels.take j).flatMap labLine ∧ Below w2.heap.size w2 wr) (fun i _ _ => m1 - (intOf i).toNat)
  case atStart => exact ⟨t0, 0, Nat.zero_le _, rfl, rfl, by rw [List.take_zero]; simpa using HT0.out, Below.refl _ _⟩
  case round =>
    obtain ⟨t, j, hj, rfl, rfl, htr, hbr⟩ := hrel
    clear HT0
    have HTR := hidE htr
    have HBR := hidE hbr
    have HX := hidE (HX2.out.keep hbr)
    have HB3 := hidE (Below.on HB2.out hbr)
    have e0 := HX.out.c2
    clear htr hbr
    have hts : t.size ≤ 20000000 := by
      rw [size_of HTR.out, List.length_append]
      have h1 := HP0.out
      have h2 := flat_take_len (f := labLine) j fun x hx => labLine_len (HW.out.l x hx)
      have h3 := K.out.1
      omega
    by_cases hlt : j < m1
    · have hlt' : (j : Int) < m1 := by omega
      obtain ⟨⟨x, q⟩, hx⟩ : ∃ q, s.labels[j]? = some q := ⟨_, List.getElem?_eq_getElem (by have := HM.out.1; omega)⟩
      have hwx := HW.out.l _ (List.mem_of_getElem? hx)
      obtain ⟨bl, off, rfl, hbl, hc⟩ := HL3.out.resolve_left (by intro e; rw [e] at hx; simp at hx)
      have c0 := (HB3.out.cell (p := ⟨bl, off + j * 2 + 0, none⟩) (Nat.lt_of_lt_of_le hbl hB)).trans (hc j _ hx 0 _ rfl)
      have c1 := (HB3.out.cell (p := ⟨bl, off + j * 2 + 1, none⟩) (Nat.lt_of_lt_of_le hbl hB)).trans (hc j _ hx 1 _ rfl)
      rw [Nat.add_zero] at c0
      simp only at c0 c1
      have HFS := hidE (flat_step (f := labLine) hx)
      obtain ⟨n, hn⟩ : ∃ t, nameT x = t := ⟨_, rfl⟩
      obtain ⟨d, hd⟩ : ∃ t, numT q = t := ⟨_, rfl⟩
      have hzn : n.size ≤ 6002 := by have := nameT_len x; have h3 : x.size ≤ 3000 := hwx.1; rw [← hn]; omega
      have hzd : d.size ≤ 21 := hd ▸ numT_len hwx.2
      have HQN : Hid (∀ W, Calls Tryz.prog 77 #[.string x] W fun e w' => e = .returned (.string n) ∧ Below W.heap.size W w') := fun W => by rw [← hn]; exact HNAM.out W x hwx.1
      have HQD : Hid (∀ W, Below w.heap.size w W → Calls Tryz.prog 76 #[.int .i64 q] W fun e w' => e = .returned (.string d) ∧ Below W.heap.size W w') := fun W hb => by rw [← hd]; exact HNUM.out W q hb hwx.2
      have HND := hidE (And.intro hn hd)
      have f0 : ∀ u : Up wr, u.x.cell? ⟨w.heap.size, 2, none⟩ = some (.slice (some ⟨bl, off, none⟩) m1 lc) := fun u => u.cell e0
      have fx : ∀ u : Up wr, u.x.cell? ⟨bl, off + j * 2, none⟩ = some (.string x) := fun u => u.cell c0
      have fq : ∀ u : Up wr, u.x.cell? ⟨bl, off + j * 2 + 1, none⟩ = some (.int .i64 q) := fun u => u.cell c1
      have up_ne : Nonempty (Up wr) := ⟨⟨wr, Below.refl _ _⟩⟩
      clear hx hc hwx hn hd
      go_upto_region 5 with fail
      clear e0 c0 c1
      have z1 : ¬ 9223372036854775807 < t.size + 6 := by omega
      have z2 : ¬ 9223372036854775807 < t.size + 6 + n.size := by omega
      have z3 : ¬ 9223372036854775807 < t.size + 6 + n.size + 1 := by omega
      have z4 : ¬ 9223372036854775807 < t.size + 6 + n.size + 1 + d.size := by omega
      have z5 : ¬ 9223372036854775807 < t.size + 6 + n.size + 1 + d.size + 1 := by omega
      refine wp_up (by kernel_rfl) (by kernel_rfl) ?_
      repeat (go_big_quiet_step (first | (go_at_call 77; exact Up.call (HQN.out _)) | (go_at_call 76; exact Up.call (HQD.out _ (Below.on HB3.out (Up.b _))))))
      refine wpQuiet_nil ?_
      rintro w4 ⟨⟨W4, hb4⟩, rfl⟩
      have HB4 := hidE (Below.on HBR.out hb4)
      clear f0 fx fq up_ne z1 z2 z3 z4 z5 hb4 HQN HQD hzn hzd hts
      go_wp2_with fail
      go_roundw
      case rel =>
        refine ⟨_, j + 1, by omega, by go_num, rfl, ?_, HB4.out⟩
        rw [HFS.out, ← List.append_assoc, ← HTR.out]
        unfold labLine
        simp only
        rw [HND.out.1, HND.out.2]
        simp [lineB, Lib.join, List.intercalate]
      case measure => simp [intOf]; omega
    · have hlt' : ¬ (j : Int) < m1 := by omega
      have HTT1 : Hid (t.data.toList = txt1 s) := by
        show _ = _
        rw [HTR.out]
        rw [List.take_of_length_le (by have := HM.out.1; omega)]
        rfl
      have HBX1 := hidE HBR.out
      clear HTR HBR HB3 HX hts
      go_wp2_with fail
      go_loopw [5, 3] (fun i r wr => ∃ (t : ByteArray) (j : Nat), j ≤ m2 ∧ i = .int .i64 j ∧ r = .string t ∧ t.data.toList = (txt1 s) ++ (s.types.take j).flatMap typLine ∧ Below w2.heap.size w2 wr) (fun i _ _ => m2 - (intOf i).toNat)
      case atStart => exact ⟨_, 0, Nat.zero_le _, rfl, rfl, by rw [List.take_zero]; simpa using HTT1.out, HBX1.out⟩
      case round =>
        obtain ⟨t, j, hj, rfl, rfl, htr, hbr⟩ := hrel
        clear HTT1 HBX1
        have HTR := hidE htr
        have HBR := hidE hbr
        have HX := hidE (HX2.out.keep hbr)
        have HB3 := hidE (Below.on HB2.out hbr)
        have e0 := HX.out.c3
        clear htr hbr
        have hts : t.size ≤ 20000000 := by
          rw [size_of HTR.out, List.length_append]
          have h1 := HP1.out
          have h2 := flat_take_len (f := typLine) j fun x hx => typLine_len (HW.out.t x hx)
          have h3 := K.out.2.1
          omega
        by_cases hlt : j < m2
        · have hlt' : (j : Int) < m2 := by omega
          obtain ⟨⟨x, q⟩, hx⟩ : ∃ q, s.types[j]? = some q := ⟨_, List.getElem?_eq_getElem (by have := HM.out.2.1; omega)⟩
          have hwx := HW.out.t _ (List.mem_of_getElem? hx)
          obtain ⟨bl, off, rfl, hbl, hc⟩ := HT3.out.resolve_left (by intro e; rw [e] at hx; simp at hx)
          have c0 := (HB3.out.cell (p := ⟨bl, off + j * 2 + 0, none⟩) (Nat.lt_of_lt_of_le hbl hB)).trans (hc j _ hx 0 _ rfl)
          have c1 := (HB3.out.cell (p := ⟨bl, off + j * 2 + 1, none⟩) (Nat.lt_of_lt_of_le hbl hB)).trans (hc j _ hx 1 _ rfl)
          rw [Nat.add_zero] at c0
          simp only at c0 c1
          have HFS := hidE (flat_step (f := typLine) hx)
          obtain ⟨n, hn⟩ : ∃ t, nameT x = t := ⟨_, rfl⟩
          obtain ⟨d, hd⟩ : ∃ t, numT q = t := ⟨_, rfl⟩
          have hzn : n.size ≤ 6002 := by have := nameT_len x; have h3 : x.size ≤ 3000 := hwx.1; rw [← hn]; omega
          have hzd : d.size ≤ 21 := hd ▸ numT_len hwx.2
          have HQN : Hid (∀ W, Calls Tryz.prog 77 #[.string x] W fun e w' => e = .returned (.string n) ∧ Below W.heap.size W w') := fun W => by rw [← hn]; exact HNAM.out W x hwx.1
          have HQD : Hid (∀ W, Below w.heap.size w W → Calls Tryz.prog 76 #[.int .i64 q] W fun e w' => e = .returned (.string d) ∧ Below W.heap.size W w') := fun W hb => by rw [← hd]; exact HNUM.out W q hb hwx.2
          have HND := hidE (And.intro hn hd)
          have f0 : ∀ u : Up wr, u.x.cell? ⟨w.heap.size, 3, none⟩ = some (.slice (some ⟨bl, off, none⟩) m2 tc) := fun u => u.cell e0
          have fx : ∀ u : Up wr, u.x.cell? ⟨bl, off + j * 2, none⟩ = some (.string x) := fun u => u.cell c0
          have fq : ∀ u : Up wr, u.x.cell? ⟨bl, off + j * 2 + 1, none⟩ = some (.int .i64 q) := fun u => u.cell c1
          have up_ne : Nonempty (Up wr) := ⟨⟨wr, Below.refl _ _⟩⟩
          clear hx hc hwx hn hd
          go_upto_region 9 with fail
          clear e0 c0 c1
          have z1 : ¬ 9223372036854775807 < t.size + 5 := by omega
          have z2 : ¬ 9223372036854775807 < t.size + 5 + n.size := by omega
          have z3 : ¬ 9223372036854775807 < t.size + 5 + n.size + 1 := by omega
          have z4 : ¬ 9223372036854775807 < t.size + 5 + n.size + 1 + d.size := by omega
          have z5 : ¬ 9223372036854775807 < t.size + 5 + n.size + 1 + d.size + 1 := by omega
          refine wp_up (by kernel_rfl) (by kernel_rfl) ?_
          repeat (go_big_quiet_step (first | (go_at_call 77; exact Up.call (HQN.out _)) | (go_at_call 76; exact Up.call (HQD.out _ (Below.on HB3.out (Up.b _))))))
          refine wpQuiet_nil ?_
          rintro w4 ⟨⟨W4, hb4⟩, rfl⟩
          have HB4 := hidE (Below.on HBR.out hb4)
          clear f0 fx fq up_ne z1 z2 z3 z4 z5 hb4 HQN HQD hzn hzd hts
          go_wp2_with fail
          go_roundw
          case rel =>
            refine ⟨_, j + 1, by omega, by go_num, rfl, ?_, HB4.out⟩
            rw [HFS.out, ← List.append_assoc, ← HTR.out]
            unfold typLine
            simp only
            rw [HND.out.1, HND.out.2]
            simp [lineB, Lib.join, List.intercalate]
          case measure => simp [intOf]; omega
        · have hlt' : ¬ (j : Int) < m2 := by omega
          have HTT2 : Hid (t.data.toList = txt2 s) := by
            show _ = _
            rw [HTR.out]
            rw [List.take_of_length_le (by have := HM.out.2.1; omega)]
            rfl
          have HBX2 := hidE HBR.out
          clear HTR HBR HB3 HX hts
          go_wp2_with fail
          go_loopw [6, 3] (fun i r wr => ∃ (t : ByteArray) (j : Nat), j ≤ m3 ∧ i = .int .i64 j ∧ r = .string t ∧ t.data.toList = (txt2 s) ++ (s.ends.take j).flatMap endLine ∧ Below w2.heap.size w2 wr) (fun i _ _ => m3 - (intOf i).toNat)
          case atStart => exact ⟨_, 0, Nat.zero_le _, rfl, rfl, by rw [List.take_zero]; simpa using HTT2.out, HBX2.out⟩
          case round =>
            obtain ⟨t, j, hj, rfl, rfl, htr, hbr⟩ := hrel
            clear HTT2 HBX2
            have HTR := hidE htr
            have HBR := hidE hbr
            have HX := hidE (HX2.out.keep hbr)
            have HB3 := hidE (Below.on HB2.out hbr)
            have e0 := HX.out.c4
            clear htr hbr
            have hts : t.size ≤ 20000000 := by
              rw [size_of HTR.out, List.length_append]
              have h1 := HP2.out
              have h2 := flat_take_len (f := endLine) j fun x hx => endLine_len (HW.out.e x hx)
              have h3 := K.out.2.2.1
              omega
            by_cases hlt : j < m3
            · have hlt' : (j : Int) < m3 := by omega
              obtain ⟨⟨x, y, o, q⟩, hx⟩ : ∃ q, s.ends[j]? = some q := ⟨_, List.getElem?_eq_getElem (by have := HM.out.2.2.1; omega)⟩
              have hwx := HW.out.e _ (List.mem_of_getElem? hx)
              obtain ⟨bl, off, rfl, hbl, hc⟩ := HE3.out.resolve_left (by intro e; rw [e] at hx; simp at hx)
              have c0 := (HB3.out.cell (p := ⟨bl, off + j * 4 + 0, none⟩) (Nat.lt_of_lt_of_le hbl hB)).trans (hc j _ hx 0 _ rfl)
              have c1 := (HB3.out.cell (p := ⟨bl, off + j * 4 + 1, none⟩) (Nat.lt_of_lt_of_le hbl hB)).trans (hc j _ hx 1 _ rfl)
              have c2 := (HB3.out.cell (p := ⟨bl, off + j * 4 + 2, none⟩) (Nat.lt_of_lt_of_le hbl hB)).trans (hc j _ hx 2 _ rfl)
              have c3 := (HB3.out.cell (p := ⟨bl, off + j * 4 + 3, none⟩) (Nat.lt_of_lt_of_le hbl hB)).trans (hc j _ hx 3 _ rfl)
              rw [Nat.add_zero] at c0
              simp only at c0 c1 c2 c3
              have HFS := hidE (flat_step (f := endLine) hx)
              obtain ⟨n, hn⟩ : ∃ t, nameT x = t := ⟨_, rfl⟩
              obtain ⟨n', hn'⟩ : ∃ t, nameT y = t := ⟨_, rfl⟩
              obtain ⟨d, hd⟩ : ∃ t, numT q = t := ⟨_, rfl⟩
              have hzn : n.size ≤ 6002 := by have := nameT_len x; have h3 : x.size ≤ 3000 := hwx.1; rw [← hn]; omega
              have hzn' : n'.size ≤ 6002 := by have := nameT_len y; have h3 : y.size ≤ 3000 := hwx.2.1; rw [← hn']; omega
              have hzd : d.size ≤ 21 := hd ▸ numT_len hwx.2.2
              have HQN : Hid (∀ W, Calls Tryz.prog 77 #[.string x] W fun e w' => e = .returned (.string n) ∧ Below W.heap.size W w') := fun W => by rw [← hn]; exact HNAM.out W x hwx.1
              have HQN' : Hid (∀ W, Calls Tryz.prog 77 #[.string y] W fun e w' => e = .returned (.string n') ∧ Below W.heap.size W w') := fun W => by rw [← hn']; exact HNAM.out W y hwx.2.1
              have HQD : Hid (∀ W, Below w.heap.size w W → Calls Tryz.prog 76 #[.int .i64 q] W fun e w' => e = .returned (.string d) ∧ Below W.heap.size W w') := fun W hb => by rw [← hd]; exact HNUM.out W q hb hwx.2.2
              have HND := hidE (And.intro hn (And.intro hn' hd))
              clear hx hc hwx hn hn' hd
              go_upto_region 14 with fail
              have HB5 := hidE (Below.on HB3.out (below_new wr (.cells #[.string x, .string y, .bool o, .int .i64 q] 64)))
              have HB6 := hidE (Below.on HBR.out (below_new wr (.cells #[.string x, .string y, .bool o, .int .i64 q] 64)))
              have d0 : (wr.alloc (.cells #[.string x, .string y, .bool o, .int .i64 q] 64)).cell? ⟨wr.heap.size, 0, none⟩ = some (.string x) := cell_new _ _ _ _ _ rfl
              have d1 : (wr.alloc (.cells #[.string x, .string y, .bool o, .int .i64 q] 64)).cell? ⟨wr.heap.size, 1, none⟩ = some (.string y) := cell_new _ _ _ _ _ rfl
              have d2 : (wr.alloc (.cells #[.string x, .string y, .bool o, .int .i64 q] 64)).cell? ⟨wr.heap.size, 2, none⟩ = some (.bool o) := cell_new _ _ _ _ _ rfl
              have d3 : (wr.alloc (.cells #[.string x, .string y, .bool o, .int .i64 q] 64)).cell? ⟨wr.heap.size, 3, none⟩ = some (.int .i64 q) := cell_new _ _ _ _ _ rfl
              clear c0 c1 c2 c3 e0
              generalize wr.alloc (.cells #[.string x, .string y, .bool o, .int .i64 q] 64) = W2 at *
              cases o
              · go_upto_region 17 with fail
                have g0 : ∀ u : Up W2, u.x.cell? ⟨wr.heap.size, 0, none⟩ = some (.string x) := fun u => u.cell d0
                have g1 : ∀ u : Up W2, u.x.cell? ⟨wr.heap.size, 1, none⟩ = some (.string y) := fun u => u.cell d1
                have g3 : ∀ u : Up W2, u.x.cell? ⟨wr.heap.size, 3, none⟩ = some (.int .i64 q) := fun u => u.cell d3
                have up_ne : Nonempty (Up W2) := ⟨⟨W2, Below.refl _ _⟩⟩
                clear d0 d1 d2 d3
                have z1 : ¬ 9223372036854775807 < t.size + 4 := by omega
                have z2 : ¬ 9223372036854775807 < t.size + 4 + n.size := by omega
                have z3 : ¬ 9223372036854775807 < t.size + 4 + n.size + 1 := by omega
                have z4 : ¬ 9223372036854775807 < t.size + 4 + n.size + 1 + n'.size := by omega
                have z5 : ¬ 9223372036854775807 < t.size + 4 + n.size + 1 + n'.size + 4 := by omega
                have z6 : ¬ 9223372036854775807 < t.size + 4 + n.size + 1 + n'.size + 4 + d.size := by omega
                have z7 : ¬ 9223372036854775807 < t.size + 4 + n.size + 1 + n'.size + 4 + d.size + 1 := by omega
                refine wp_up (by kernel_rfl) (by kernel_rfl) ?_
                repeat (go_big_quiet_step (first | (go_at_call_of 77 (Value.string x); exact Up.call (HQN.out _)) | (go_at_call_of 77 (Value.string y); exact Up.call (HQN'.out _)) | (go_at_call 76; exact Up.call (HQD.out _ (Below.on HB5.out (Up.b _))))))
                refine wpQuiet_nil ?_
                rintro w4 ⟨⟨W4, hb4⟩, rfl⟩
                have HB4 := hidE (Below.on HB6.out hb4)
                clear g0 g1 g3 up_ne z1 z2 z3 z4 z5 z6 z7 hb4 HQN HQN' HQD hts
                go_wp2_with fail
                go_roundw
                case rel =>
                  refine ⟨_, j + 1, by omega, by go_num, rfl, ?_, HB4.out⟩
                  rw [HFS.out, ← List.append_assoc, ← HTR.out]
                  unfold endLine
                  simp only
                  rw [HND.out.1, HND.out.2.1, HND.out.2.2]
                  simp [lineB, Lib.join, List.intercalate, wayT]
                case measure => simp [intOf]; omega
              · go_upto_region 17 with fail
                have g0 : ∀ u : Up W2, u.x.cell? ⟨wr.heap.size, 0, none⟩ = some (.string x) := fun u => u.cell d0
                have g1 : ∀ u : Up W2, u.x.cell? ⟨wr.heap.size, 1, none⟩ = some (.string y) := fun u => u.cell d1
                have g3 : ∀ u : Up W2, u.x.cell? ⟨wr.heap.size, 3, none⟩ = some (.int .i64 q) := fun u => u.cell d3
                have up_ne : Nonempty (Up W2) := ⟨⟨W2, Below.refl _ _⟩⟩
                clear d0 d1 d2 d3
                have z1 : ¬ 9223372036854775807 < t.size + 4 := by omega
                have z2 : ¬ 9223372036854775807 < t.size + 4 + n.size := by omega
                have z3 : ¬ 9223372036854775807 < t.size + 4 + n.size + 1 := by omega
                have z4 : ¬ 9223372036854775807 < t.size + 4 + n.size + 1 + n'.size := by omega
                have z5 : ¬ 9223372036854775807 < t.size + 4 + n.size + 1 + n'.size + 5 := by omega
                have z6 : ¬ 9223372036854775807 < t.size + 4 + n.size + 1 + n'.size + 5 + d.size := by omega
                have z7 : ¬ 9223372036854775807 < t.size + 4 + n.size + 1 + n'.size + 5 + d.size + 1 := by omega
                refine wp_up (by kernel_rfl) (by kernel_rfl) ?_
                repeat (go_big_quiet_step (first | (go_at_call_of 77 (Value.string x); exact Up.call (HQN.out _)) | (go_at_call_of 77 (Value.string y); exact Up.call (HQN'.out _)) | (go_at_call 76; exact Up.call (HQD.out _ (Below.on HB5.out (Up.b _))))))
                refine wpQuiet_nil ?_
                rintro w4 ⟨⟨W4, hb4⟩, rfl⟩
                have HB4 := hidE (Below.on HB6.out hb4)
                clear g0 g1 g3 up_ne z1 z2 z3 z4 z5 z6 z7 hb4 HQN HQN' HQD hts
                go_wp2_with fail
                go_roundw
                case rel =>
                  refine ⟨_, j + 1, by omega, by go_num, rfl, ?_, HB4.out⟩
                  rw [HFS.out, ← List.append_assoc, ← HTR.out]
                  unfold endLine
                  simp only
                  rw [HND.out.1, HND.out.2.1, HND.out.2.2]
                  simp [lineB, Lib.join, List.intercalate, wayT]
                case measure => simp [intOf]; omega
            · have hlt' : ¬ (j : Int) < m3 := by omega
              have HTT3 : Hid (t.data.toList = txt3 s) := by
                show _ = _
                rw [HTR.out]
                rw [List.take_of_length_le (by have := HM.out.2.2.1; omega)]
                rfl
              have HBX3 := hidE HBR.out
              clear HTR HBR HB3 HX hts
              go_wp2_with fail
              go_loopw [9, 3] (fun i r wr => ∃ (t : ByteArray) (j : Nat), j ≤ m4 ∧ i = .int .i64 j ∧ r = .string t ∧ t.data.toList = (txt3 s) ++ (s.keys.take j).flatMap keyLine ∧ Below w2.heap.size w2 wr) (fun i _ _ => m4 - (intOf i).toNat)
              case atStart => exact ⟨_, 0, Nat.zero_le _, rfl, rfl, by rw [List.take_zero]; simpa using HTT3.out, HBX3.out⟩
              case round =>
                obtain ⟨t, j, hj, rfl, rfl, htr, hbr⟩ := hrel
                clear HTT3 HBX3
                have HTR := hidE htr
                have HBR := hidE hbr
                have HX := hidE (HX2.out.keep hbr)
                have HB3 := hidE (Below.on HB2.out hbr)
                have e0 := HX.out.c5
                clear htr hbr
                have hts : t.size ≤ 20000000 := by
                  rw [size_of HTR.out, List.length_append]
                  have h1 := HP3.out
                  have h2 := flat_take_len (f := keyLine) j fun x hx => keyLine_len (HW.out.k x hx)
                  have h3 := K.out.2.2.2
                  omega
                by_cases hlt : j < m4
                · have hlt' : (j : Int) < m4 := by omega
                  obtain ⟨⟨x, y, o, q⟩, hx⟩ : ∃ q, s.keys[j]? = some q := ⟨_, List.getElem?_eq_getElem (by have := HM.out.2.2.2; omega)⟩
                  have hwx := HW.out.k _ (List.mem_of_getElem? hx)
                  obtain ⟨bl, off, rfl, hbl, hc⟩ := HK3.out.resolve_left (by intro e; rw [e] at hx; simp at hx)
                  have c0 := (HB3.out.cell (p := ⟨bl, off + j * 4 + 0, none⟩) (Nat.lt_of_lt_of_le hbl hB)).trans (hc j _ hx 0 _ rfl)
                  have c1 := (HB3.out.cell (p := ⟨bl, off + j * 4 + 1, none⟩) (Nat.lt_of_lt_of_le hbl hB)).trans (hc j _ hx 1 _ rfl)
                  have c2 := (HB3.out.cell (p := ⟨bl, off + j * 4 + 2, none⟩) (Nat.lt_of_lt_of_le hbl hB)).trans (hc j _ hx 2 _ rfl)
                  have c3 := (HB3.out.cell (p := ⟨bl, off + j * 4 + 3, none⟩) (Nat.lt_of_lt_of_le hbl hB)).trans (hc j _ hx 3 _ rfl)
                  rw [Nat.add_zero] at c0
                  simp only at c0 c1 c2 c3
                  have HFS := hidE (flat_step (f := keyLine) hx)
                  obtain ⟨n, hn⟩ : ∃ t, nameT x = t := ⟨_, rfl⟩
                  obtain ⟨n', hn'⟩ : ∃ t, nameT y = t := ⟨_, rfl⟩
                  obtain ⟨d, hd⟩ : ∃ t, numT q = t := ⟨_, rfl⟩
                  have hzn : n.size ≤ 6002 := by have := nameT_len x; have h3 : x.size ≤ 3000 := hwx.1; rw [← hn]; omega
                  have hzn' : n'.size ≤ 6002 := by have := nameT_len y; have h3 : y.size ≤ 3000 := hwx.2.1; rw [← hn']; omega
                  have hzd : d.size ≤ 21 := hd ▸ numT_len hwx.2.2.2
                  have HQN : Hid (∀ W, Calls Tryz.prog 77 #[.string x] W fun e w' => e = .returned (.string n) ∧ Below W.heap.size W w') := fun W => by rw [← hn]; exact HNAM.out W x hwx.1
                  have HQN' : Hid (∀ W, Calls Tryz.prog 77 #[.string y] W fun e w' => e = .returned (.string n') ∧ Below W.heap.size W w') := fun W => by rw [← hn']; exact HNAM.out W y hwx.2.1
                  have HQD : Hid (∀ W, Below w.heap.size w W → Calls Tryz.prog 76 #[.int .i64 q] W fun e w' => e = .returned (.string d) ∧ Below W.heap.size W w') := fun W hb => by rw [← hd]; exact HNUM.out W q hb hwx.2.2.2
                  obtain ⟨d', hd'⟩ : ∃ t, numT o = t := ⟨_, rfl⟩
                  have hzd' : d'.size ≤ 21 := hd' ▸ numT_len hwx.2.2.1
                  have HQD' : Hid (∀ W, Below w.heap.size w W → Calls Tryz.prog 76 #[.int .i64 o] W fun e w' => e = .returned (.string d') ∧ Below W.heap.size W w') := fun W hb => by rw [← hd']; exact HNUM.out W o hb hwx.2.2.1
                  have HND := hidE (And.intro hn (And.intro hn' (And.intro hd' hd)))
                  clear hx hc hwx hn hn' hd hd'
                  go_upto_region 22 with fail
                  have HB5 := hidE (Below.on HB3.out (below_new wr (.cells #[.string x, .string y, .int .i64 o, .int .i64 q] 66)))
                  have HB6 := hidE (Below.on HBR.out (below_new wr (.cells #[.string x, .string y, .int .i64 o, .int .i64 q] 66)))
                  have d0 : (wr.alloc (.cells #[.string x, .string y, .int .i64 o, .int .i64 q] 66)).cell? ⟨wr.heap.size, 0, none⟩ = some (.string x) := cell_new _ _ _ _ _ rfl
                  have d1 : (wr.alloc (.cells #[.string x, .string y, .int .i64 o, .int .i64 q] 66)).cell? ⟨wr.heap.size, 1, none⟩ = some (.string y) := cell_new _ _ _ _ _ rfl
                  have d2 : (wr.alloc (.cells #[.string x, .string y, .int .i64 o, .int .i64 q] 66)).cell? ⟨wr.heap.size, 2, none⟩ = some (.int .i64 o) := cell_new _ _ _ _ _ rfl
                  have d3 : (wr.alloc (.cells #[.string x, .string y, .int .i64 o, .int .i64 q] 66)).cell? ⟨wr.heap.size, 3, none⟩ = some (.int .i64 q) := cell_new _ _ _ _ _ rfl
                  clear c0 c1 c2 c3 e0
                  generalize wr.alloc (.cells #[.string x, .string y, .int .i64 o, .int .i64 q] 66) = W2 at *
                  have g0 : ∀ u : Up W2, u.x.cell? ⟨wr.heap.size, 0, none⟩ = some (.string x) := fun u => u.cell d0
                  have g1 : ∀ u : Up W2, u.x.cell? ⟨wr.heap.size, 1, none⟩ = some (.string y) := fun u => u.cell d1
                  have g2 : ∀ u : Up W2, u.x.cell? ⟨wr.heap.size, 2, none⟩ = some (.int .i64 o) := fun u => u.cell d2
                  have g3 : ∀ u : Up W2, u.x.cell? ⟨wr.heap.size, 3, none⟩ = some (.int .i64 q) := fun u => u.cell d3
                  have up_ne : Nonempty (Up W2) := ⟨⟨W2, Below.refl _ _⟩⟩
                  clear d0 d1 d2 d3
                  have z1 : ¬ 9223372036854775807 < t.size + 4 := by omega
                  have z2 : ¬ 9223372036854775807 < t.size + 4 + n.size := by omega
                  have z3 : ¬ 9223372036854775807 < t.size + 4 + n.size + 1 := by omega
                  have z4 : ¬ 9223372036854775807 < t.size + 4 + n.size + 1 + n'.size := by omega
                  have z5 : ¬ 9223372036854775807 < t.size + 4 + n.size + 1 + n'.size + 1 := by omega
                  have z6 : ¬ 9223372036854775807 < t.size + 4 + n.size + 1 + n'.size + 1 + d'.size := by omega
                  have z7 : ¬ 9223372036854775807 < t.size + 4 + n.size + 1 + n'.size + 1 + d'.size + 1 := by omega
                  have z8 : ¬ 9223372036854775807 < t.size + 4 + n.size + 1 + n'.size + 1 + d'.size + 1 + d.size := by omega
                  have z9 : ¬ 9223372036854775807 < t.size + 4 + n.size + 1 + n'.size + 1 + d'.size + 1 + d.size + 1 := by omega
                  refine wp_up (by kernel_rfl) (by kernel_rfl) ?_
                  repeat (go_big_quiet_step (first | (go_at_call_of 77 (Value.string x); exact Up.call (HQN.out _)) | (go_at_call_of 77 (Value.string y); exact Up.call (HQN'.out _)) | (go_at_call_of 76 (Value.int .i64 o); exact Up.call (HQD'.out _ (Below.on HB5.out (Up.b _)))) | (go_at_call_of 76 (Value.int .i64 q); exact Up.call (HQD.out _ (Below.on HB5.out (Up.b _))))))
                  refine wpQuiet_nil ?_
                  rintro w4 ⟨⟨W4, hb4⟩, rfl⟩
                  have HB4 := hidE (Below.on HB6.out hb4)
                  clear g0 g1 g2 g3 up_ne z1 z2 z3 z4 z5 z6 z7 z8 z9 hb4 HQN HQN' HQD HQD' hts
                  go_wp2_with fail
                  go_roundw
                  case rel =>
                    refine ⟨_, j + 1, by omega, by go_num, rfl, ?_, HB4.out⟩
                    rw [HFS.out, ← List.append_assoc, ← HTR.out]
                    unfold keyLine
                    simp only
                    rw [HND.out.1, HND.out.2.1, HND.out.2.2.1, HND.out.2.2.2]
                    simp [lineB, Lib.join, List.intercalate, wayT]
                  case measure => simp [intOf]; omega
                · have hlt' : ¬ (j : Int) < m4 := by omega
                  have HTT4 : Hid (t.data.toList = textL s) := by
                    show _ = _
                    rw [HTR.out]
                    rw [List.take_of_length_le (by have := HM.out.2.2.2; omega)]
                    rfl
                  have HBX4 := hidE HBR.out
                  clear HTR HBR HB3 HX hts
                  go_wp2_with fail
                  go_ret
                  refine ⟨?_, Below.on HB2.out HBX4.out⟩
                  refine congrArg (fun x => Ending.returned (.string x)) ?_
                  apply ByteArray.ext
                  apply Array.ext'
                  simpa using HTT4.out
end Go.Proofs.YthfilnflgahcjaaGreatDoor
