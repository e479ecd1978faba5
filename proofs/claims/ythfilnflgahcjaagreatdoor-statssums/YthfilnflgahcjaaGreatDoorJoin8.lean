/- The first row of each key. What is reckoned from counts: one type, one key. A row behind a row of the call's own, however many. A block of cells, read and written. A region that draws its order: first what is quiet in a class of worlds, calls too, in whatever order; then what waits for all of it, one by one. -/
import Derived.Test.YthfilnflgahcjaaGreatDoorJoin4
import Derived.Deep.Cut
import Derived.Test.YthfilnflgahcjaaGreatDoorJoin7
import Derived.Test.YthfilnflgahcjaaGreatDoorJoin2
import Derived.Test.YthfilnflgahcjaaGreatDoorJoin1
namespace Go.Proofs.YthfilnflgahcjaaGreatDoor
open Go.RowKit Go.Shelf Go.Maps
set_option linter.unusedVariables false
set_option linter.unusedSimpArgs false
attribute [local go_sem] Oper.semAt_some
set_option maxRecDepth 100000 in
set_option maxHeartbeats 4000000 in
theorem f63_any (rows : List (KeyR)) (keys : List (KeyR)) (vr vk : Value) (B : Nat) (w : World) (hB : B ≤ w.heap.size) (hr : SRow 4 keyC B w vr rows) (hk : SRow 4 keyC B w vk keys) (hrs : ∀ x ∈ rows, okK x) (hks : ∀ x ∈ keys, okK x) (hrl : rows.length ≤ 900000) (hkl : keys.length ≤ 100000) :
    Calls Tryz.prog 63 #[vr, .func (.func 62) #[] #[], vk] w fun e w' => ∃ v, e = .returned v ∧ ORow 66 4 keyC w.heap.size w' v (firstsL keyK (⟨#[]⟩, ⟨#[]⟩, 0, 0) rows keys) ∧ Below w.heap.size w w' := by
  obtain ⟨ra, rc, rfl, r1, r2, r3⟩ := hr
  obtain ⟨ka, kc, rfl, k1, k2, k3⟩ := hk
  have HR3 := hidE r3
  have HK3 := hidE k3
  have HRS := hidE hrs
  have HKS := hidE hks
  obtain ⟨m, hm⟩ : ∃ n, rows.length = n := ⟨_, rfl⟩
  obtain ⟨n, hn⟩ : ∃ n, keys.length = n := ⟨_, rfl⟩
  have HM := hidE hm
  have HN := hidE hn
  rw [hm] at r1 hrl ⊢
  rw [hn] at k1 hkl ⊢
  clear r3 k3 hrs hks hm hn
  have hmk : ∀ W : World, (Instr.makeMap 170 none).run Tryz.prog W = .ok (.map (some W.heap.size)) (W.alloc (.map #[] 0)) := fun W => rfl
  go_enter Tryz.func63, Tryz.ntmps63
  go_wp2_with fail
  go_loopw [18] (fun i wr => ∃ j : Nat, j ≤ n ∧ i = .int .i64 j ∧ w.heap.size + 1 ≤ wr.heap.size ∧ Below w.heap.size w wr ∧ MS keyV okK wr w.heap.size ((keys.take j).foldl putS [])) (fun i _ => n - (intOf i).toNat)
  case atStart => exact ⟨0, Nat.zero_le _, rfl, by simp, (Below.refl _ _).alloc (Nat.le_refl _) _, mg_none _⟩
  case round =>
    obtain ⟨j, hj, rfl, hsz, hbr, hms⟩ := hrel
    have HBR := hidE hbr
    have HMS := hidE hms
    have HSZ := hidE hsz
    clear hbr hms hsz
    by_cases hlt : j < n
    · have hlt' : (j : Int) < n := by omega
      obtain ⟨⟨s, t, p, q⟩, hx⟩ : ∃ q, keys[j]? = some q := ⟨_, List.getElem?_eq_getElem (by have := HN.out; omega)⟩
      obtain ⟨bl, off, rfl, hbl, hc⟩ := HK3.out.resolve_left (by intro e; rw [e] at hx; simp at hx)
      have cx0 := (HBR.out.cell (p := ⟨bl, off + j * 4 + 0, none⟩) (show bl < w.heap.size by omega)).trans (hc j (s, t, p, q) hx 0 _ rfl)
      have cx1 := (HBR.out.cell (p := ⟨bl, off + j * 4 + 1, none⟩) (show bl < w.heap.size by omega)).trans (hc j (s, t, p, q) hx 1 _ rfl)
      have cx2 := (HBR.out.cell (p := ⟨bl, off + j * 4 + 2, none⟩) (show bl < w.heap.size by omega)).trans (hc j (s, t, p, q) hx 2 _ rfl)
      have cx3 := (HBR.out.cell (p := ⟨bl, off + j * 4 + 3, none⟩) (show bl < w.heap.size by omega)).trans (hc j (s, t, p, q) hx 3 _ rfl)
      rw [Nat.add_zero] at cx0
      simp only at cx0 cx1 cx2 cx3
      have HX := hidE hx
      have hbA : Below wr.heap.size wr (wr.alloc (.cells #[.string s, .string t, .int .i64 p, .int .i64 q] 66)) := (Below.refl _ _).alloc (Nat.le_refl _) _
      have hszA : (wr.alloc (.cells #[.string s, .string t, .int .i64 p, .int .i64 q] 66)).heap.size = wr.heap.size + 1 := by simp
      have HBA := hidE hbA
      have HSA := hidE hszA
      obtain ⟨W, q1, q2, q3, q4, q5⟩ := ms_put keyT map170 (HMS.out.block (hbA.block _ HMS.out.lt)) (puts_nodup _ _ List.nodup_nil) (s, t, p, q) (HKS.out _ (List.mem_of_getElem? hx))
      simp only [keyV] at q1
      have HQ := hidE (And.intro q2 (And.intro q3 q5))
      clear hx hc q2 q3 q4 q5 hbA hszA
      go_wp2_with fail
      go_roundw
      case rel => exact ⟨j + 1, by omega, by go_num, by have := HSZ.out; have := HQ.out.2.1; have := HSA.out; omega, (HBR.out.trans (HBA.out.mono HBR.out.size)).trans HQ.out.2.2, by rw [puts_at HX.out]; exact HQ.out.1⟩
      case measure => simp [intOf]; omega
    · have hlt' : ¬ (j : Int) < n := by omega
      have HL := HMS.out
      rw [List.take_of_length_le (by have := HN.out; omega)] at HL
      obtain ⟨W0, hW0⟩ : ∃ W0, W0 = wr := ⟨_, rfl⟩
      subst hW0
      obtain ⟨K0, hK0⟩ : ∃ l, keys.foldl putS [] = l := ⟨_, rfl⟩
      have HND : Hid (K0.Nodup) := by show _; rw [← hK0]; exact puts_nodup _ _ List.nodup_nil
      have HKL : Hid (K0.length ≤ 100000) := by
        have := puts_len keys ([] : List (KeyR))
        rw [hK0] at this
        have h2 := HN.out
        show K0.length ≤ 100000
        simp only [List.length_nil] at this; omega
      have HKO : Hid (firstsL keyK (⟨#[]⟩, ⟨#[]⟩, 0, 0) rows keys = (goFirst keyK rows K0).1 ++ List.replicate (goFirst keyK rows K0).2.length (⟨#[]⟩, ⟨#[]⟩, 0, 0)) := by
        show _ = _
        unfold firstsL
        rw [hK0]
      rw [hK0] at HL
      have HL := hidE HL
      clear hK0 HMS
      have FIN : Hid (∀ (W : World) (v : Value) (out : List (KeyR)) (left : List (KeyR)), Below w.heap.size w W → w.heap.size + 1 ≤ W.heap.size → ORow 66 4 keyC (w.heap.size + 1) W v out → out.length + left.length ≤ 100000 → ∃ v' W', (Builtin.append_ #[31, 3] 31 #[v, .int .i64 left.length]).run Tryz.prog W = .ok v' W' ∧ ORow 66 4 keyC w.heap.size W' v' (out ++ List.replicate left.length (⟨#[]⟩, ⟨#[]⟩, 0, 0)) ∧ Below w.heap.size w W') := by
        intro W v out left hb hs ho hl
        obtain ⟨v', W', p1, p2, p3⟩ := append_zeros (ty := 31) (tn := 3) (x := ((⟨#[]⟩, ⟨#[]⟩, 0, 0) : KeyR)) (m := left.length) elem31 Tryz.underlying3 (fun x => rfl) one_key rfl ho (by omega) hs
        exact ⟨v', W', p1, p2.base (by omega), hb.trans (p3.mono (by omega))⟩
      go_wp2_with fail
      go_loopw [10, 28] (fun v i wr => ∃ (j : Nat) (out : List (KeyR)) (left : List (KeyR)), j ≤ m ∧ i = .int .i64 j ∧ w.heap.size + 1 ≤ wr.heap.size ∧ Below w.heap.size w wr ∧ MS keyV okK wr w.heap.size left ∧ left.Nodup ∧ ORow 66 4 keyC (w.heap.size + 1) wr v out ∧ out.length + left.length ≤ 100000 ∧ out ++ (goFirst keyK (rows.drop j) left).1 = (goFirst keyK rows K0).1 ∧ (goFirst keyK (rows.drop j) left).2 = (goFirst keyK rows K0).2) (fun _ i _ => m - (intOf i).toNat)
      case atStart => exact ⟨0, [], K0, Nat.zero_le _, rfl, HSZ.out, HBR.out, HL.out, HND.out, orow_nil _ _ _ _ _, by have := HKL.out; simpa using this, rfl, rfl⟩
      case round =>
        obtain ⟨j, out, left, hj, rfl, hsz, hbr, hms, hnd, hor, hln, e1, e2⟩ := hrel
        have HB2 := hidE hbr
        have HM2 := hidE hms
        have HO2 := hidE hor
        have HNd := hidE hnd
        have HS2 := hidE hsz
        have HLn := hidE hln
        have HE := hidE (And.intro e1 e2)
        clear hbr hms hor hnd hsz hln e1 e2
        by_cases hlt : j < m
        · have hlt' : (j : Int) < m := by omega
          obtain ⟨⟨s, t, p, q⟩, hx⟩ : ∃ q, rows[j]? = some q := ⟨_, List.getElem?_eq_getElem (by have := HM.out; omega)⟩
          obtain ⟨bl, off, rfl, hbl, hc⟩ := HR3.out.resolve_left (by intro e; rw [e] at hx; simp at hx)
          have c0 := (HB2.out.cell (p := ⟨bl, off + j * 4 + 0, none⟩) (show bl < w.heap.size by omega)).trans (hc j (s, t, p, q) hx 0 _ rfl)
          have c1 := (HB2.out.cell (p := ⟨bl, off + j * 4 + 1, none⟩) (show bl < w.heap.size by omega)).trans (hc j (s, t, p, q) hx 1 _ rfl)
          have c2 := (HB2.out.cell (p := ⟨bl, off + j * 4 + 2, none⟩) (show bl < w.heap.size by omega)).trans (hc j (s, t, p, q) hx 2 _ rfl)
          have c3 := (HB2.out.cell (p := ⟨bl, off + j * 4 + 3, none⟩) (show bl < w.heap.size by omega)).trans (hc j (s, t, p, q) hx 3 _ rfl)
          rw [Nat.add_zero] at c0
          simp only at c0 c1 c2 c3
          have HX := hidE hx
          clear hx hc
          go_upto_region 11 with fail
          have g0 : (wr.alloc (.cells #[.string s, .string t, .int .i64 p, .int .i64 q] 66)).cell? ⟨wr.heap.size, 0, none⟩ = some _ := cell_new _ _ _ _ _ rfl
          have g1 : (wr.alloc (.cells #[.string s, .string t, .int .i64 p, .int .i64 q] 66)).cell? ⟨wr.heap.size, 1, none⟩ = some _ := cell_new _ _ _ _ _ rfl
          have g2 : (wr.alloc (.cells #[.string s, .string t, .int .i64 p, .int .i64 q] 66)).cell? ⟨wr.heap.size, 2, none⟩ = some _ := cell_new _ _ _ _ _ rfl
          have g3 : (wr.alloc (.cells #[.string s, .string t, .int .i64 p, .int .i64 q] 66)).cell? ⟨wr.heap.size, 3, none⟩ = some _ := cell_new _ _ _ _ _ rfl
          have hb1 : Below wr.heap.size wr (wr.alloc (.cells #[.string s, .string t, .int .i64 p, .int .i64 q] 66)) := (Below.refl _ _).alloc (Nat.le_refl _) _
          obtain ⟨W1, hW1⟩ : ∃ W, wr.alloc (.cells #[.string s, .string t, .int .i64 p, .int .i64 q] 66) = W := ⟨_, rfl⟩
          have hx1 : wr.heap.size < W1.heap.size := by rw [← hW1]; simp
          rw [hW1] at g0 g1 g2 g3 hb1 ⊢
          clear hW1 c0 c1 c2 c3
          have HM3 : Hid (MS keyV okK W1 w.heap.size left) := HM2.out.block (hb1.block _ HM2.out.lt)
          have HO3 : Hid (ORow 66 4 keyC (w.heap.size + 1) W1 _ out) := HO2.out.below hb1
          have HB3 := hidE (HB2.out.trans (hb1.mono HB2.out.size))
          have HX1 := hidE hx1
          obtain ⟨X, hX⟩ : ∃ X, wr.heap.size = X := ⟨_, rfl⟩
          rw [hX] at g0 g1 g2 g3 hx1 HX1 ⊢
          have HS3 : Hid (w.heap.size + 1 ≤ X) := by show _ ≤ _; rw [← hX]; exact HS2.out
          clear hb1 hX hx1
          have hlen := ms_len (ty := 3) map170 HM3.out
          by_cases hl0 : left = []
          · subst hl0
            simp only [List.length_nil] at hlen
            obtain ⟨v', W', p1, p2, p3⟩ := FIN.out W1 _ out [] HB3.out (by have := HS3.out; have := HX1.out; omega) HO3.out HLn.out
            simp only [List.length_nil, Int.ofNat_zero] at p1
            have HP := hidE (And.intro p2 p3)
            clear p2 p3
            go_wp2_with (at_builtin; refine Lib.wpList_append_run _ rfl _ _ _ _ rfl _ _ rfl rfl _ _ p1 ?_)
            go_ret
            refine ⟨_, rfl, ?_, HP.out.2⟩
            have h1 := HE.out
            rw [goFirst_none] at h1
            rw [HKO.out, ← h1.1, ← h1.2]
            simpa using HP.out.1
          · have hl1 : (left.length : Int) ≠ 0 := by
              have : left.length ≠ 0 := fun e => hl0 (List.eq_nil_of_length_eq_zero e)
              omega
            have hl2 : ((left.length : Int) == 0) = false := beq_eq_false_iff_ne.2 hl1
            have HL0 := hidE hl0
            clear hl0 hl1
            have HOK : Hid (okK (keyK (s, t, p, q))) := (fun h => ⟨h.1, h.2.1, w64_zero, w64_zero⟩ : okK (s, t, p, q) → okK (keyK (s, t, p, q))) (HRS.out _ (List.mem_of_getElem? HX.out))
            obtain ⟨z, hz⟩ : ∃ z : Bool, (z = true ↔ (keyK (s, t, p, q)) ∈ left) := by
              by_cases h : (keyK (s, t, p, q)) ∈ left
              · exact ⟨true, by simp [h]⟩
              · exact ⟨false, by simp [h]⟩
            have HZ := hidE hz
            clear hz
            go_upto_region 13 with (go_at_call 62; refine (f62_any s t p q _).mono ?_; rintro e W2 ⟨rfl, hb2⟩; have hlk := ms_lookB keyT map170 zero164 (HM3.out.block (hb2.block _ HM3.out.lt)) (keyK (s, t, p, q)) HOK.out z HZ.out; simp only [keyV, keyK] at hlk; have HB4 := hidE hb2; have hsz2 := hb2.size; clear hb2)
            clear hlk hlen
            have hb3 : Below W1.heap.size W1 (W2.alloc (.cells #[] 164)) := HB4.out.alloc hsz2 _
            have hx3 : W2.heap.size < (W2.alloc (.cells #[] 164)).heap.size := by simp
            obtain ⟨W3, hW3⟩ : ∃ W, W2.alloc (.cells #[] 164) = W := ⟨_, rfl⟩
            rw [hW3] at hb3 hx3 ⊢
            have hxl : X < W1.heap.size := HX1.out
            have hxl3 : X < W3.heap.size := by omega
            have g10 := (hb3.cell (p := ⟨X, 0, none⟩) hxl).trans g0
            have g11 := (hb3.cell (p := ⟨X, 1, none⟩) hxl).trans g1
            have g12 := (hb3.cell (p := ⟨X, 2, none⟩) hxl).trans g2
            have g13 := (hb3.cell (p := ⟨X, 3, none⟩) hxl).trans g3
            have HM4 : Hid (MS keyV okK W3 w.heap.size left) := HM3.out.block (hb3.block _ HM3.out.lt)
            have HO4 : Hid (ORow 66 4 keyC (w.heap.size + 1) W3 _ out) := HO3.out.below hb3
            have HB5 : Hid (Below w.heap.size w W3) := HB3.out.trans (hb3.mono (by have := HB3.out.size; omega))
            have HXL := hidE hxl3
            clear hW3 hb3 hx3 hsz2 HB4 HX1 hxl hxl3 g0 g1 g2 g3
            cases z with
            | true =>
              have hm : (keyK (s, t, p, q)) ∈ left := HZ.out.1 rfl
              go_upto_region 15 with (go_at_call 62; refine (f62_any s t p q _).mono ?_; rintro e W4 ⟨rfl, hb4⟩; obtain ⟨W5, d1, d2, d3, d4, d5⟩ := ms_del (ty := 0) keyT map170 (HM4.out.block (hb4.block _ HM4.out.lt)) HNd.out (keyK (s, t, p, q)) HOK.out hm; simp only [keyV, keyK] at d1; have HD := hidE (And.intro hb4 (And.intro d2 (And.intro d3 (And.intro d4 d5)))); clear hb4 d2 d3 d4 d5)
              obtain ⟨hb4, d2, d3, d4, d5⟩ := HD.out
              have hX4 : X < W4.heap.size := Nat.lt_of_lt_of_le HXL.out hb4.size
              have hXb : X ≠ w.heap.size := by have := HS3.out; omega
              have k10 := ((World.cell?_of_block (w := W4) (a := ⟨X, 0, none⟩) (d4 X hXb)).trans (hb4.cell (p := ⟨X, 0, none⟩) HXL.out)).trans g10
              have k11 := ((World.cell?_of_block (w := W4) (a := ⟨X, 1, none⟩) (d4 X hXb)).trans (hb4.cell (p := ⟨X, 1, none⟩) HXL.out)).trans g11
              have k12 := ((World.cell?_of_block (w := W4) (a := ⟨X, 2, none⟩) (d4 X hXb)).trans (hb4.cell (p := ⟨X, 2, none⟩) HXL.out)).trans g12
              have k13 := ((World.cell?_of_block (w := W4) (a := ⟨X, 3, none⟩) (d4 X hXb)).trans (hb4.cell (p := ⟨X, 3, none⟩) HXL.out)).trans g13
              have HO5 : ORow 66 4 keyC (w.heap.size + 1) W5 _ out := (HO4.out.below hb4).keep fun g hg _ => d4 g (by omega)
              have hs5 : w.heap.size + 1 ≤ W5.heap.size := by have := HS3.out; omega
              have HB6 : Below w.heap.size w W5 := (HB5.out.trans (hb4.mono HB5.out.size)).trans (d5.mono (Nat.le_refl _))
              obtain ⟨v6, W6, p1, p2, p3, p4⟩ := append_one (ty := 31) (c := 1) (bl := W5.heap.size) (off := 0) (x := (s, t, p, q)) elem31 (fun x => rfl) one_key (HO5.below ((Below.refl _ _).alloc (Nat.le_refl _) (.cells #[.string s, .string t, .int .i64 p, .int .i64 q] 66))) (fun jj u hu => by
                rw [Nat.zero_add]
                exact cell_new _ _ _ _ _ (by simpa [keyC] using hu)) (by have := HLn.out; omega) (by simp; omega)
              have HP := hidE (And.intro p2 (And.intro p3 (And.intro HB6 (And.intro d2 hs5))))
              clear hb4 d2 d3 d4 d5 HD p2 p3 p4 HB6 hs5 HO5 hX4 hXb
              go_wp2_with (at_builtin; refine Lib.wpList_append_run _ rfl _ _ _ _ rfl _ _ rfl rfl _ _ p1 ?_)
              go_roundw
              case rel =>
                obtain ⟨p2, p3, p5, p6, p7⟩ := HP.out
                have hbA : Below W5.heap.size W5 (W5.alloc (.cells #[.string s, .string t, .int .i64 p, .int .i64 q] 66)) := (Below.refl _ _).alloc (Nat.le_refl _) _
                have p8 := p6.block ((p3.block _ (by omega)).trans (hbA.block _ (by omega)))
                have hh := goFirst_hit (key := keyK) HX.out HL0.out hm
                have hE := HE.out
                rw [hh] at hE
                refine ⟨j + 1, out ++ [(s, t, p, q)], delS (keyK (s, t, p, q)) left, by omega, by go_num, ?_, (p5.trans (hbA.mono (by omega))).trans (p3.mono (by omega)), p8, delS_nodup HNd.out _, p2, ?_, ?_, hE.2⟩
                · have := p3.size; have := hbA.size; omega
                · have h1 := HLn.out
                  have h2 := delS_len hm
                  simp only [List.length_append, List.length_cons, List.length_nil]; omega
                · rw [← hE.1]; simp
              case measure => simp [intOf]; omega
            | false =>
              have hm : ¬ (keyK (s, t, p, q)) ∈ left := fun h => by have := HZ.out.2 h; cases this
              go_wp2_with fail
              go_roundw
              case rel => exact ⟨j + 1, out, left, by omega, by go_num, by have := HS3.out; have := HXL.out; omega, HB5.out, HM4.out, HNd.out, HO4.out, HLn.out, by rw [← goFirst_miss HX.out HL0.out hm]; exact HE.out.1, by rw [← goFirst_miss HX.out HL0.out hm]; exact HE.out.2⟩
              case measure => simp [intOf]; omega
        · have hlt' : ¬ (j : Int) < m := by omega
          have hlen := ms_len (ty := 3) map170 HM2.out
          obtain ⟨v', W', p1, p2, p3⟩ := FIN.out wr _ out left HB2.out HS2.out HO2.out HLn.out
          have HP := hidE (And.intro p2 p3)
          clear p2 p3
          go_wp2_with (at_builtin; refine Lib.wpList_append_run _ rfl _ _ _ _ rfl _ _ rfl rfl _ _ p1 ?_)
          go_ret
          refine ⟨_, rfl, ?_, HP.out.2⟩
          have h1 := HE.out
          rw [List.drop_of_length_le (by have := HM.out; omega)] at h1
          simp only [goFirst, List.append_nil] at h1
          rw [HKO.out, ← h1.1, ← h1.2]
          exact HP.out.1
end Go.Proofs.YthfilnflgahcjaaGreatDoor

namespace Go.Proofs.YthfilnflgahcjaaGreatDoor
open Go.RowKit Go.Shelf Go.Maps
set_option linter.unusedVariables false
set_option linter.unusedSimpArgs false
attribute [local go_sem] Oper.semAt_some
structure SBox (b : Nat) (v0 v1 v2 v3 v4 v5 : Value) (w : World) : Prop where
  lt : b < w.heap.size
  c0 : w.cell? ⟨b, 0, none⟩ = some v0
  c1 : w.cell? ⟨b, 1, none⟩ = some v1
  c2 : w.cell? ⟨b, 2, none⟩ = some v2
  c3 : w.cell? ⟨b, 3, none⟩ = some v3
  c4 : w.cell? ⟨b, 4, none⟩ = some v4
  c5 : w.cell? ⟨b, 5, none⟩ = some v5
theorem SBox.keep {b : Nat} {v0 v1 v2 v3 v4 v5 : Value} {w w' : World} (h : SBox b v0 v1 v2 v3 v4 v5 w) (hb : Below w.heap.size w w') : SBox b v0 v1 v2 v3 v4 v5 w' :=
  ⟨Nat.lt_of_lt_of_le h.lt hb.size, (hb.cell (p := ⟨b, 0, none⟩) h.lt).trans h.c0, (hb.cell (p := ⟨b, 1, none⟩) h.lt).trans h.c1, (hb.cell (p := ⟨b, 2, none⟩) h.lt).trans h.c2, (hb.cell (p := ⟨b, 3, none⟩) h.lt).trans h.c3, (hb.cell (p := ⟨b, 4, none⟩) h.lt).trans h.c4, (hb.cell (p := ⟨b, 5, none⟩) h.lt).trans h.c5⟩
theorem sbox_new (w : World) (v0 v1 v2 v3 v4 v5 : Value) (ty : Nat) : SBox w.heap.size v0 v1 v2 v3 v4 v5 (w.alloc (.cells #[v0, v1, v2, v3, v4, v5] ty)) :=
  ⟨by simp, cell_new _ _ _ _ _ rfl, cell_new _ _ _ _ _ rfl, cell_new _ _ _ _ _ rfl, cell_new _ _ _ _ _ rfl, cell_new _ _ _ _ _ rfl, cell_new _ _ _ _ _ rfl⟩
theorem StatL.up {B : Nat} {w w' : World} {vl vt ve vk : Value} {s : StatP} (h : StatL B w vl vt ve vk s) (hb : Below B w w') (hB : B ≤ w'.heap.size) : StatL w'.heap.size w' vl vt ve vk s := ⟨(h.hl.keep hb).mono hB, (h.ht.keep hb).mono hB, (h.he.keep hb).mono hB, (h.hk.keep hb).mono hB, h.ol, h.ot, h.oe, h.ok, h.nl, h.nt, h.ne, h.nk⟩
theorem below_new (w : World) (o : Obj) : Below w.heap.size w (w.alloc o) := (Below.refl _ _).alloc (Nat.le_refl _) _
theorem Below.on {w a b : World} (h : Below w.heap.size w a) (k : Below a.heap.size a b) : Below w.heap.size w b := h.trans (k.mono h.size)
set_option maxRecDepth 100000 in
set_option maxHeartbeats 4000000 in
theorem ended_any (s : StatP) (vl vt ve vk : Value) (kind lab : ByteArray) (out : Bool) (B : Nat) (w : World) (hB : B ≤ w.heap.size) (h : StatL B w vl vt ve vk s) (hkind : okS kind) (hlab : okS lab) : Calls Tryz.prog 22 #[statV s vl vt ve vk, .string kind, .string lab, .bool out] w fun e w' => e = .returned (.int .i64 (endedI s lab out [kind])) ∧ Below w.heap.size w w' := by
  have HE : Hid (∀ W, Below w.heap.size w W → Calls Tryz.prog 61 #[statV s vl vt ve vk, .string lab, .bool out, .slice (some ⟨W.heap.size, 0, none⟩) 1 1] (W.alloc (.cells #[.string kind] 9)) fun e w' => e = .returned (.int .i64 (endedI s lab out [kind])) ∧ Below (W.alloc (.cells #[.string kind] 9)).heap.size (W.alloc (.cells #[.string kind] 9)) w') := fun W hb => endedAll_any s vl vt ve vk _ lab out [kind] _ _ (Nat.le_refl _) ((h.up (hb.mono hB) (Nat.le_trans hB hb.size)).up (below_new _ _) (below_new W _).size) (srow_new (k := 1) (enc := strE) (fun _ => rfl) W [kind] #[.string kind] 9 rfl (show 1 ≤ 9223372036854775807 by decide)) hlab (fun x hx => by simp only [List.mem_cons, List.not_mem_nil, or_false] at hx; rw [hx]; exact hkind) (show 1 ≤ 100000 by decide)
  obtain ⟨E, hE⟩ : ∃ E, endedI s lab out [kind] = E := ⟨_, rfl⟩
  rw [hE] at HE ⊢
  clear hE
  obtain ⟨la, lc, rfl, _⟩ := h.hl
  obtain ⟨ta, tc, rfl, _⟩ := h.ht
  obtain ⟨ea, ec, rfl, _⟩ := h.he
  obtain ⟨ka, kc, rfl, _⟩ := h.hk
  unfold statV at *
  generalize s.nodes = n at *
  generalize s.rels = r at *
  generalize s.labels.length = l1 at *
  generalize s.types.length = l2 at *
  generalize s.ends.length = l3 at *
  generalize s.keys.length = l4 at *
  clear h
  go_enter Tryz.func22, Tryz.ntmps22
  go_upto_region 1 with fail
  have HW0 := hidE (below_new w (.cells #[.int .i64 n, .int .i64 r, .slice la l1 lc, .slice ta l2 tc, .slice ea l3 ec, .slice ka l4 kc] 33))
  have HX0 := hidE (sbox_new w (.int .i64 n) (.int .i64 r) (.slice la l1 lc) (.slice ta l2 tc) (.slice ea l3 ec) (.slice ka l4 kc) 33)
  obtain ⟨W1, hW1⟩ : ∃ W, w.alloc (.cells #[.int .i64 n, .int .i64 r, .slice la l1 lc, .slice ta l2 tc, .slice ea l3 ec, .slice ka l4 kc] 33) = W := ⟨_, rfl⟩
  rw [hW1] at HW0 HX0 ⊢
  clear hW1
  obtain ⟨_, e0, e1, e2, e3, e4, e5⟩ := HX0.out
  go_wp2_with (go_at_call 61; refine (HE.out _ HW0.out).mono ?_; rintro e W2 ⟨rfl, hb2⟩; have HB2 := hidE (Below.on (Below.on HW0.out (below_new _ _)) hb2); clear hb2)
  go_ret
  exact ⟨rfl, HB2.out⟩
theorem firsts_one {R K : Type} [DecidableEq K] (key : R → K) (zero : R) (rows : List R) (k : K) : ∃ r, firstsL key zero rows [k] = [r] := by
  have h1 := goFirst_len (key := key) rows ([k].foldl putS [])
  have h2 : ([k].foldl putS [] : List K).length = 1 := by simp [putS]
  have h3 : (firstsL key zero rows [k]).length = 1 := by
    unfold firstsL
    simp only [List.length_append, List.length_replicate]
    omega
  match hl : firstsL key zero rows [k], h3 with
  | [r], _ => exact ⟨r, rfl⟩
def seekI (s : StatP) (lab key : ByteArray) : Int := match firstsL keyK (⟨#[]⟩, ⟨#[]⟩, 0, 0) s.keys [(lab, key, 0, 0)] with | r :: _ => shareI r.2.2.1 r.2.2.2 | [] => 0
set_option maxRecDepth 100000 in
set_option maxHeartbeats 4000000 in
theorem seek_any (s : StatP) (vl vt ve vk : Value) (lab key : ByteArray) (B : Nat) (w : World) (hB : B ≤ w.heap.size) (h : StatL B w vl vt ve vk s) (hlab : okS lab) (hkey : okS key) : Calls Tryz.prog 24 #[statV s vl vt ve vk, .string lab, .string key] w fun e w' => e = .returned (.int .i64 (seekI s lab key)) ∧ Below w.heap.size w w' := by
  obtain ⟨⟨ra, rb, p, q⟩, hr⟩ := firsts_one keyK (⟨#[]⟩, ⟨#[]⟩, 0, 0) s.keys (lab, key, 0, 0)
  have HSK : seekI s lab key = shareI p q := by unfold seekI; rw [hr]
  rw [HSK]
  have HF : Hid (∀ W, Below w.heap.size w W → Calls Tryz.prog 63 #[vk, .func (.func 62) #[] #[], .slice (some ⟨W.heap.size, 0, none⟩) 1 1] (W.alloc (.cells #[.string lab, .string key, .int .i64 0, .int .i64 0] 66)) fun e w' => ∃ v, e = .returned v ∧ ORow 66 4 keyC (W.alloc (.cells #[.string lab, .string key, .int .i64 0, .int .i64 0] 66)).heap.size w' v [(ra, rb, p, q)] ∧ Below (W.alloc (.cells #[.string lab, .string key, .int .i64 0, .int .i64 0] 66)).heap.size (W.alloc (.cells #[.string lab, .string key, .int .i64 0, .int .i64 0] 66)) w') := by
    intro W hb
    have hst := (h.up (hb.mono hB) (Nat.le_trans hB hb.size)).up (below_new W (.cells #[.string lab, .string key, .int .i64 0, .int .i64 0] 66)) (below_new W _).size
    have := f63_any s.keys [(lab, key, 0, 0)] vk _ _ _ (Nat.le_refl _) hst.hk (srow_new (k := 4) (enc := keyC) (fun _ => rfl) W [(lab, key, 0, 0)] #[.string lab, .string key, .int .i64 0, .int .i64 0] 66 rfl (show 1 ≤ 9223372036854775807 by decide)) hst.ok (fun x hx => by simp only [List.mem_cons, List.not_mem_nil, or_false] at hx; rw [hx]; exact ⟨hlab, hkey, w64_zero, w64_zero⟩) hst.nk (show 1 ≤ 100000 by decide)
    rw [hr] at this
    exact this
  have HSH := hidE (fun W => share_any p q W)
  clear HSK hr
  obtain ⟨la, lc, rfl, _⟩ := h.hl
  obtain ⟨ta, tc, rfl, _⟩ := h.ht
  obtain ⟨ea, ec, rfl, _⟩ := h.he
  obtain ⟨ka, kc, rfl, _⟩ := h.hk
  unfold statV at *
  generalize s.nodes = n at *
  generalize s.rels = r at *
  generalize s.labels.length = l1 at *
  generalize s.types.length = l2 at *
  generalize s.ends.length = l3 at *
  generalize s.keys.length = l4 at *
  clear h
  go_enter Tryz.func24, Tryz.ntmps24
  go_upto_region 1 with fail
  have HW0 := hidE (below_new w (.cells #[.int .i64 n, .int .i64 r, .slice la l1 lc, .slice ta l2 tc, .slice ea l3 ec, .slice ka l4 kc] 33))
  have HX0 := hidE (sbox_new w (.int .i64 n) (.int .i64 r) (.slice la l1 lc) (.slice ta l2 tc) (.slice ea l3 ec) (.slice ka l4 kc) 33)
  obtain ⟨W1, hW1⟩ : ∃ W, w.alloc (.cells #[.int .i64 n, .int .i64 r, .slice la l1 lc, .slice ta l2 tc, .slice ea l3 ec, .slice ka l4 kc] 33) = W := ⟨_, rfl⟩
  rw [hW1] at HW0 HX0 ⊢
  clear hW1
  obtain ⟨_, e0, e1, e2, e3, e4, e5⟩ := HX0.out
  have e5' := (Below.cell (below_new W1 (.cells #[.string lab, .string key, .int .i64 0, .int .i64 0] 66)) (p := ⟨w.heap.size, 5, none⟩) HX0.out.lt).trans e5
  go_upto_region 3 with (go_at_call 63; refine (HF.out _ HW0.out).mono ?_; rintro e W2 ⟨v, rfl, ho, hb2⟩; have HB2 := hidE (Below.on (Below.on HW0.out (below_new _ _)) hb2); obtain ⟨xa, xc, hv, x1, x2, x3⟩ := ORow.srow (enc := keyC) (k := 4) (fun _ => rfl) ho; subst hv; obtain ⟨bl, off, rfl, hbl, hc⟩ := x3.resolve_left (by simp); have d0 := hc 0 _ rfl 0 _ rfl; have d1 := hc 0 _ rfl 1 _ rfl; have d2 := hc 0 _ rfl 2 _ rfl; have d3 := hc 0 _ rfl 3 _ rfl; simp only [Nat.zero_mul, Nat.add_zero, List.length_cons, List.length_nil, Nat.zero_add] at d0 d1 d2 d3 x1 ⊢; clear hb2 ho hc)
  have f2 : (W2.alloc (.cells #[.string ra, .string rb, .int .i64 p, .int .i64 q] 66)).cell? ⟨W2.heap.size, 2, none⟩ = some (.int .i64 p) := cell_new _ _ _ _ _ rfl
  have f3 : (W2.alloc (.cells #[.string ra, .string rb, .int .i64 p, .int .i64 q] 66)).cell? ⟨W2.heap.size, 3, none⟩ = some (.int .i64 q) := cell_new _ _ _ _ _ rfl
  have HB3 := hidE (Below.on HB2.out (below_new W2 (.cells #[.string ra, .string rb, .int .i64 p, .int .i64 q] 66)))
  obtain ⟨W3, hW3⟩ : ∃ W, W2.alloc (.cells #[.string ra, .string rb, .int .i64 p, .int .i64 q] 66) = W := ⟨_, rfl⟩
  rw [hW3] at f2 f3 HB3 ⊢
  clear hW3
  go_wp2_with (go_at_call 32; refine (HSH.out _).mono ?_; rintro e _ ⟨rfl, rfl⟩)
  go_ret
  exact ⟨rfl, HB3.out⟩
end Go.Proofs.YthfilnflgahcjaaGreatDoor

namespace Go.Proofs.YthfilnflgahcjaaGreatDoor
open Go.RowKit Go.Shelf
set_option linter.unusedVariables false
set_option linter.unusedSimpArgs false
/-- The first ones of a row. -/
theorem SRow.take {α : Type} {k : Nat} {enc : α → List Value} {B : Nat} {w : World} {a : Option Addr} {l c : Nat} {xs ys : List α} (h : SRow k enc B w (.slice a l c) (xs ++ ys)) : SRow k enc B w (.slice a xs.length c) xs := by
  obtain ⟨a0, c0, e1, h2, h3, h4⟩ := h
  injection e1 with q1 q2 q3
  subst q1 q3
  rw [List.length_append] at h2
  refine ⟨a, c, rfl, by omega, h3, ?_⟩
  rcases h4 with h4 | ⟨bl, off, e2, hl, hc⟩
  · left; exact (List.append_eq_nil_iff.1 h4).1
  · right; exact ⟨bl, off, e2, hl, fun i x hx j u hu => hc i x (by rw [List.getElem?_append_left (List.getElem?_eq_some_iff.1 hx).1]; exact hx) j u hu⟩
end Go.Proofs.YthfilnflgahcjaaGreatDoor

namespace Go.Proofs.YthfilnflgahcjaaGreatDoor
open Go.RowKit Go.Shelf
set_option linter.unusedVariables false
set_option linter.unusedSimpArgs false
/-- The block at b holds just these cells. -/
def Rec (w : World) (b : Nat) (cs : Array Value) (ty : TypeId) : Prop := w.heap[b]? = some (.cells cs ty (0, 0))
section
variable {w w' : World} {b : Nat} {cs : Array Value} {ty : TypeId}
theorem Rec.lt (h : Rec w b cs ty) : b < w.heap.size := (Array.getElem?_eq_some_iff.1 h).1
theorem Rec.cell (h : Rec w b cs ty) (i : Nat) {v : Value} (hi : cs[i]? = some v) : w.cell? ⟨b, i, none⟩ = some v := by simp [World.cell?, show w.heap[b]? = _ from h, hi]
theorem Rec.keep (h : Rec w b cs ty) (e : w'.heap[b]? = w.heap[b]?) : Rec w' b cs ty := e.trans h
theorem Rec.below {B : Nat} (h : Rec w b cs ty) (hf : Below B w w') (hB : b < B) : Rec w' b cs ty := h.keep (hf.block b hB)
theorem rec_new (w : World) (cs : Array Value) (ty : TypeId) : Rec (w.alloc (.cells cs ty)) w.heap.size cs ty := World.alloc_heap_new _ _
end
end Go.Proofs.YthfilnflgahcjaaGreatDoor

namespace Go.Proofs.YthfilnflgahcjaaGreatDoor
open Go.RowKit
section
variable {P : Program} {ops : Array Oper} {md : Region.Mode} {C : World → Prop} {Q : Exit → Act → World → Prop} {R : Act → Prop} {k : Nat} {target : Array Bool}
def wpAnyT (P : Program) (md : Region.Mode) (ops : Array Oper) (C : World → Prop) (k : Nat) (target : Array Bool) (R : Act → Prop) : Nat → Array Bool → Act → Prop
  | 0, listed, a => listed = target ∧ R a
  | fuel + 1, listed, a => Region.ready md ops listed ≠ [] ∧ ∀ i ∈ Region.ready md ops listed, i < k ∧ qOp P ops C i (wpAnyT P md ops C k target R fuel (listed.setIfInBounds i true)) a
theorem wpAny_of_T {n : Nat} (hR : Closed md ops target → ∀ a w, C w → R a → wpAny P md ops Q n target a w) : ∀ (fuel : Nat) (listed : Array Bool) (a : Act) (w : World), Closed md ops listed → C w → wpAnyT P md ops C k target R fuel listed a → wpAny P md ops Q (n + fuel) listed a w
  | 0, listed, a, w, hcl, hw, h => by
    obtain ⟨e, h⟩ := h
    subst e
    exact hR hcl a w hw h
  | fuel + 1, listed, a, w, hcl, hw, h => ⟨fun h0 => (h.1 h0).elim, fun i hi => wpOp_of_qOp hw (fun a' w' hw' hk => wpAny_of_T hR fuel _ a' w' (closed_set hcl hi) hw' hk) (h.2 i hi).2⟩
theorem wpAnyT_first {i : Nat} {oi : Oper} {v : Value} (hi : ops[i]? = some oi) (hsel : ∀ (j : Nat) (o : Oper) cs b, ops[j]? = some o → o.op ≠ .select cs b) (hik : i < k) (htg : ∀ j, j < k → target.getD j true = true)
    (hwt : ∀ j, k ≤ j → j < ops.size → waitsB md ops ops.size j i = true) :
    ∀ (fuel : Nat) (listed : Array Bool) (a : Act), Closed md ops listed →
      (∀ j oj, ops[j]? = some oj → j ≠ i → listed.getD j true = false → (∀ e ∈ oj.after, Region.binds md e = true → e.on ≠ i) → oi.apart ops oj = true) →
      i ∈ Region.ready md ops listed → YieldsIn P ops C oi v a →
      wpAnyT P md ops C k target R fuel (listed.setIfInBounds i true) (a.put oi.dst v) → wpAnyT P md ops C k target R (fuel + 1) listed a := by
  have low : ∀ (listed : Array Bool) (j : Nat), Closed md ops listed → i ∈ Region.ready md ops listed → j ∈ Region.ready md ops listed → j < k := by
    intro listed j hcl hr hj
    rcases Nat.lt_or_ge j k with h | h
    · exact h
    · obtain ⟨hjun, oj, hoj, hall⟩ := mem_ready.1 hj
      have hin : listed.getD i false = false := getD_both (mem_ready.1 hr).1
      have := waits_listed hcl ops.size j i (fun ok hk' e he hb => by
        rw [hoj] at hk'
        obtain rfl := Option.some.inj hk'
        exact hall e he hb) (hwt j h (Array.getElem?_eq_some_iff.1 hoj).1)
      rw [hin] at this; cases this
  intro fuel
  induction fuel with
  | zero =>
    intro listed a hcl _ hr hy H
    refine ⟨fun h => (by rw [h] at hr; cases hr), fun j hj => ⟨low listed j hcl hr hj, ?_⟩⟩
    by_cases hji : j = i
    · subst hji; exact hy.qOp hi H
    · have h1 := ready_mono hj hji
      rw [H.1] at h1
      have h2 := (mem_ready.1 h1).1
      rw [htg j (low listed j hcl hr hj)] at h2
      cases h2
  | succ fuel ih =>
    intro listed a hcl hfree hr hy H
    refine ⟨fun h => (by rw [h] at hr; cases hr), fun j hj => ⟨low listed j hcl hr hj, ?_⟩⟩
    by_cases hji : j = i
    · subst hji; exact hy.qOp hi H
    · have h1 := (H.2 j (ready_mono hj hji)).2
      obtain ⟨hjun, oj, hoj, hall⟩ := mem_ready.1 hj
      have hin : listed.getD i false = false := getD_both (mem_ready.1 hr).1
      have hnot : ∀ e ∈ oj.after, Region.binds md e = true → e.on ≠ i := fun e he hb heq => by
        have h1 := hall e he hb
        rw [heq, hin] at h1; cases h1
      have h2 := qOp_put hoj (hfree j oj hoj hji hjun hnot) (fun cs b => hsel i oi cs b hi) (fun cs b => hsel j oj cs b hoj) hy h1
      have hfree' : ∀ k ok, ops[k]? = some ok → k ≠ i → (listed.setIfInBounds j true).getD k true = false →
          (∀ e ∈ ok.after, Region.binds md e = true → e.on ≠ i) → oi.apart ops ok = true := fun k ok hk hki hun hno => by
        refine hfree k ok hk hki ?_ hno
        by_cases hjk : j = k
        · subst hjk; exact hjun
        · rw [getD_set_ne true hjk] at hun; exact hun
      refine qOp_mono (fun a' h3 => ih (listed.setIfInBounds j true) a' (closed_set hcl hj) hfree' (ready_mono hr (Ne.symm hji)) h3.1 ?_) h2
      rw [Array.setIfInBounds_comm _ _ hji]
      exact h3.2
def lexTo (md : Region.Mode) (ops : Array Oper) (k : Nat) (target : Array Bool) : Nat → Nat → Array Bool → Bool
  | 0, _, listed => listed == target
  | n + 1, i, listed => (Region.ready md ops listed).contains i && (Region.free md ops listed i && (decide (i < k) && (((List.range ops.size).all fun j => decide (j < k) || waitsB md ops ops.size j i) && lexTo md ops k target n (i + 1) (listed.setIfInBounds i true))))
theorem wpAnyT_lex (hs : Region.noSelect ops = true) (htg : ∀ j, j < k → target.getD j true = true) : ∀ (l : List Oper) (i : Nat) (listed : Array Bool) (a : Act), (∀ j, j < l.length → l[j]? = ops[i + j]?) → Closed md ops listed →
    lexTo md ops k target l.length i listed = true → wpQuiet P ops C R l a → wpAnyT P md ops C k target R l.length listed a
  | [], _, _, _, _, _, hB, h => ⟨by simpa [lexTo] using hB, h⟩
  | o :: l, i, listed, a, hl, hcl, hB, h => by
    have h0 : ops[i]? = some o := by simpa using (hl 0 (by simp)).symm
    simp only [List.length_cons, lexTo, Bool.and_eq_true, decide_eq_true_eq] at hB
    obtain ⟨hr, hf, hik, hw, hB'⟩ := hB
    have hst : qOp P ops C i (wpQuiet P ops C R l) a := by unfold qOp; simp only [h0]; exact h
    obtain ⟨v, hy, hK⟩ := yieldsIn_of_qOp h0 hst
    have hr' : i ∈ Region.ready md ops listed := by simpa using hr
    refine wpAnyT_first h0 (Region.noSelect_spec hs) hik htg (fun j hj hjs => ?_) l.length listed a hcl (Region.free_spec h0 hf) hr' hy
      (wpAnyT_lex hs htg l (i + 1) _ _ (fun j hj => by have := hl (j + 1) (by simp; omega); simpa [Nat.add_assoc, Nat.add_comm 1 j] using this) (closed_set hcl hr') hB' hK)
    have := List.all_eq_true.1 hw j (List.mem_range.2 hjs)
    simp only [Bool.or_eq_true, decide_eq_true_eq] at this
    exact this.resolve_left (by omega)
def targetOf (n k : Nat) : Array Bool := ((List.range n).map fun i => decide (i < k)).toArray
def thenB (L : List Oper) (k : Nat) (T : List Nat) : Bool :=
  Region.noSelect L.toArray && (lexTo .any L.toArray k (targetOf L.length k) k 0 (Array.replicate L.length false) && (decide (k ≤ L.length) && ((T.all fun i => (nthL L i).isSome) && ((T.length + k == L.length) && checkB .any L.toArray (fun _ => false) (T.map fun i => (false, i)) (targetOf L.length k)))))
/-- First what is quiet, then what waits for it. -/
theorem wp_then {id : Nat} {L : List Oper} {a : Act} {w : World} (k : Nat) (T : List Nat) (hm : P.follows .mixedOrders = true) (hB : thenB L k T = true) (hC : C w.drew)
    (h : wpQuiet P L.toArray C (fun a' => ∀ w', C w' → wpList P L.toArray Q (pickL L T) a' w') (L.take k) a) : (Code.region id L.toArray true).wp P Q a w := by
  simp only [thenB, Bool.and_eq_true, beq_iff_eq, decide_eq_true_eq] at hB
  obtain ⟨h1, h2, h3, h4, h5, h6⟩ := hB
  have hlen : (L.take k).length = k := by simp; omega
  have htg : ∀ j, j < k → (targetOf L.length k).getD j true = true := fun j hj => by
    have : j < L.length := by omega
    simp [targetOf, this, hj]
  have hcl0 : Closed .any L.toArray (Array.replicate L.length false) := ⟨by simp, fun j oj _ hl => by
    rcases Nat.lt_or_ge j L.length with hj | hj
    · simp [hj] at hl
    · simp [hj] at hl⟩
  have hT := wpAnyT_lex (P := P) (C := C) (R := fun a' => ∀ w', C w' → wpList P L.toArray Q (pickL L T) a' w') h1 htg (L.take k) 0 (Array.replicate L.length false) a (fun j hj => by
    rw [hlen] at hj
    rw [List.getElem?_take, if_pos hj]; simp) hcl0 (by rw [hlen]; exact h2) h
  refine wp_region_any hm ?_
  have h7 := wpAny_of_T (P := P) (Q := Q) (n := T.length) (fun hcl a' w' hw' hr => wpAny_of_U (keep := fun _ => false) _ _ _ _ (by
    have := sched_sound (P := P) (Q := Q) h1 (T.map fun i => (false, i)) _ a' w' h6 hcl (seg_tail T a' w' (fun i hi => ⟨rfl, List.all_eq_true.1 h4 i hi⟩) (hr w' hw'))
    simpa using this)) _ _ a w.drew hcl0 hC hT
  rw [hlen, h5] at h7
  simpa using h7
end
end Go.Proofs.YthfilnflgahcjaaGreatDoor

