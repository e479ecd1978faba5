/- The first row of each key. Something of each row. What is reckoned from counts: relationships that begin or end at labels. -/
import Derived.Test.YthfilnflgahcjaaGreatDoorJoin4
import Derived.Deep.Cut
import Derived.Test.YthfilnflgahcjaaGreatDoorJoin6
namespace Go.Proofs.YthfilnflgahcjaaGreatDoor
open Go.RowKit Go.Shelf Go.Maps
set_option linter.unusedVariables false
set_option linter.unusedSimpArgs false
attribute [local go_sem] Oper.semAt_some
set_option maxRecDepth 100000 in
set_option maxHeartbeats 4000000 in
theorem f110_any (rows : List (EndR)) (keys : List (EndR)) (vr vk : Value) (B : Nat) (w : World) (hB : B ≤ w.heap.size) (hr : SRow 4 endC B w vr rows) (hk : SRow 4 endC B w vk keys) (hrs : ∀ x ∈ rows, okE x) (hks : ∀ x ∈ keys, okE x) (hrl : rows.length ≤ 900000) (hkl : keys.length ≤ 100000) :
    Calls Tryz.prog 110 #[vr, .func (.func 108) #[] #[], vk] w fun e w' => ∃ v, e = .returned v ∧ ORow 64 4 endC w.heap.size w' v (firstsL endK (⟨#[]⟩, ⟨#[]⟩, false, 0) rows keys) ∧ Below w.heap.size w w' := by
  obtain ⟨ra, rc, rfl, r1, r2, r3⟩ := hr
  obtain ⟨ka, kc, rfl, k1, k2, k3⟩ := hk
  have HR3 := hidE r3
  have HK3 := hidE k3
  have HRS := hidE hrs
  have HKS := hidE hks
  obtain ⟨m, hm⟩ : ∃ n, rows.length = n := ⟨_, rfl⟩
  obtain ⟨n, hn⟩ : ∃ n, keys.length = n := ⟨_, rfl⟩
  have HM := hidE hm
  have HN := hidE hn
  rw [hm] at r1 hrl ⊢
  rw [hn] at k1 hkl ⊢
  clear r3 k3 hrs hks hm hn
  have hmk : ∀ W : World, (Instr.makeMap 200 none).run Tryz.prog W = .ok (.map (some W.heap.size)) (W.alloc (.map #[] 0)) := fun W => rfl
  go_enter Tryz.func110, Tryz.ntmps110
  go_wp2_with fail
  go_loopw [18] (fun i wr => ∃ j : Nat, j ≤ n ∧ i = .int .i64 j ∧ w.heap.size + 1 ≤ wr.heap.size ∧ Below w.heap.size w wr ∧ MS endV okE wr w.heap.size ((keys.take j).foldl putS [])) (fun i _ => n - (intOf i).toNat)
  case atStart => exact ⟨0, Nat.zero_le _, rfl, by simp, (Below.refl _ _).alloc (Nat.le_refl _) _, mg_none _⟩
  case round =>
    obtain ⟨j, hj, rfl, hsz, hbr, hms⟩ := hrel
    have HBR := hidE hbr
    have HMS := hidE hms
    have HSZ := hidE hsz
    clear hbr hms hsz
    by_cases hlt : j < n
    · have hlt' : (j : Int) < n := by omega
      obtain ⟨⟨s, t, p, q⟩, hx⟩ : ∃ q, keys[j]? = some q := ⟨_, List.getElem?_eq_getElem (by have := HN.out; omega)⟩
      obtain ⟨bl, off, rfl, hbl, hc⟩ := HK3.out.resolve_left (by intro e; rw [e] at hx; simp at hx)
      have cx0 := (HBR.out.cell (p := ⟨bl, off + j * 4 + 0, none⟩) (show bl < w.heap.size by omega)).trans (hc j (s, t, p, q) hx 0 _ rfl)
      have cx1 := (HBR.out.cell (p := ⟨bl, off + j * 4 + 1, none⟩) (show bl < w.heap.size by omega)).trans (hc j (s, t, p, q) hx 1 _ rfl)
      have cx2 := (HBR.out.cell (p := ⟨bl, off + j * 4 + 2, none⟩) (show bl < w.heap.size by omega)).trans (hc j (s, t, p, q) hx 2 _ rfl)
      have cx3 := (HBR.out.cell (p := ⟨bl, off + j * 4 + 3, none⟩) (show bl < w.heap.size by omega)).trans (hc j (s, t, p, q) hx 3 _ rfl)
      rw [Nat.add_zero] at cx0
      simp only at cx0 cx1 cx2 cx3
      have HX := hidE hx
      have hbA : Below wr.heap.size wr (wr.alloc (.cells #[.string s, .string t, .bool p, .int .i64 q] 64)) := (Below.refl _ _).alloc (Nat.le_refl _) _
      have hszA : (wr.alloc (.cells #[.string s, .string t, .bool p, .int .i64 q] 64)).heap.size = wr.heap.size + 1 := by simp
      have HBA := hidE hbA
      have HSA := hidE hszA
      obtain ⟨W, q1, q2, q3, q4, q5⟩ := ms_put endT map200 (HMS.out.block (hbA.block _ HMS.out.lt)) (puts_nodup _ _ List.nodup_nil) (s, t, p, q) (HKS.out _ (List.mem_of_getElem? hx))
      simp only [endV] at q1
      have HQ := hidE (And.intro q2 (And.intro q3 q5))
      clear hx hc q2 q3 q4 q5 hbA hszA
      go_wp2_with fail
      go_roundw
      case rel => exact ⟨j + 1, by omega, by go_num, by have := HSZ.out; have := HQ.out.2.1; have := HSA.out; omega, (HBR.out.trans (HBA.out.mono HBR.out.size)).trans HQ.out.2.2, by rw [puts_at HX.out]; exact HQ.out.1⟩
      case measure => simp [intOf]; omega
    · have hlt' : ¬ (j : Int) < n := by omega
      have HL := HMS.out
      rw [List.take_of_length_le (by have := HN.out; omega)] at HL
      obtain ⟨W0, hW0⟩ : ∃ W0, W0 = wr := ⟨_, rfl⟩
      subst hW0
      obtain ⟨K0, hK0⟩ : ∃ l, keys.foldl putS [] = l := ⟨_, rfl⟩
      have HND : Hid (K0.Nodup) := by show _; rw [← hK0]; exact puts_nodup _ _ List.nodup_nil
      have HKL : Hid (K0.length ≤ 100000) := by
        have := puts_len keys ([] : List (EndR))
        rw [hK0] at this
        have h2 := HN.out
        show K0.length ≤ 100000
        simp only [List.length_nil] at this; omega
      have HKO : Hid (firstsL endK (⟨#[]⟩, ⟨#[]⟩, false, 0) rows keys = (goFirst endK rows K0).1 ++ List.replicate (goFirst endK rows K0).2.length (⟨#[]⟩, ⟨#[]⟩, false, 0)) := by
        show _ = _
        unfold firstsL
        rw [hK0]
      rw [hK0] at HL
      have HL := hidE HL
      clear hK0 HMS
      have FIN : Hid (∀ (W : World) (v : Value) (out : List (EndR)) (left : List (EndR)), Below w.heap.size w W → w.heap.size + 1 ≤ W.heap.size → ORow 64 4 endC (w.heap.size + 1) W v out → out.length + left.length ≤ 100000 → ∃ v' W', (Builtin.append_ #[30, 3] 30 #[v, .int .i64 left.length]).run Tryz.prog W = .ok v' W' ∧ ORow 64 4 endC w.heap.size W' v' (out ++ List.replicate left.length (⟨#[]⟩, ⟨#[]⟩, false, 0)) ∧ Below w.heap.size w W') := by
        intro W v out left hb hs ho hl
        obtain ⟨v', W', p1, p2, p3⟩ := append_zeros (ty := 30) (tn := 3) (x := ((⟨#[]⟩, ⟨#[]⟩, false, 0) : EndR)) (m := left.length) elem30 Tryz.underlying3 (fun x => rfl) one_end rfl ho (by omega) hs
        exact ⟨v', W', p1, p2.base (by omega), hb.trans (p3.mono (by omega))⟩
      go_wp2_with fail
      go_loopw [10, 28] (fun v i wr => ∃ (j : Nat) (out : List (EndR)) (left : List (EndR)), j ≤ m ∧ i = .int .i64 j ∧ w.heap.size + 1 ≤ wr.heap.size ∧ Below w.heap.size w wr ∧ MS endV okE wr w.heap.size left ∧ left.Nodup ∧ ORow 64 4 endC (w.heap.size + 1) wr v out ∧ out.length + left.length ≤ 100000 ∧ out ++ (goFirst endK (rows.drop j) left).1 = (goFirst endK rows K0).1 ∧ (goFirst endK (rows.drop j) left).2 = (goFirst endK rows K0).2) (fun _ i _ => m - (intOf i).toNat)
      case atStart => exact ⟨0, [], K0, Nat.zero_le _, rfl, HSZ.out, HBR.out, HL.out, HND.out, orow_nil _ _ _ _ _, by have := HKL.out; simpa using this, rfl, rfl⟩
      case round =>
        obtain ⟨j, out, left, hj, rfl, hsz, hbr, hms, hnd, hor, hln, e1, e2⟩ := hrel
        have HB2 := hidE hbr
        have HM2 := hidE hms
        have HO2 := hidE hor
        have HNd := hidE hnd
        have HS2 := hidE hsz
        have HLn := hidE hln
        have HE := hidE (And.intro e1 e2)
        clear hbr hms hor hnd hsz hln e1 e2
        by_cases hlt : j < m
        · have hlt' : (j : Int) < m := by omega
          obtain ⟨⟨s, t, p, q⟩, hx⟩ : ∃ q, rows[j]? = some q := ⟨_, List.getElem?_eq_getElem (by have := HM.out; omega)⟩
          obtain ⟨bl, off, rfl, hbl, hc⟩ := HR3.out.resolve_left (by intro e; rw [e] at hx; simp at hx)
          have c0 := (HB2.out.cell (p := ⟨bl, off + j * 4 + 0, none⟩) (show bl < w.heap.size by omega)).trans (hc j (s, t, p, q) hx 0 _ rfl)
          have c1 := (HB2.out.cell (p := ⟨bl, off + j * 4 + 1, none⟩) (show bl < w.heap.size by omega)).trans (hc j (s, t, p, q) hx 1 _ rfl)
          have c2 := (HB2.out.cell (p := ⟨bl, off + j * 4 + 2, none⟩) (show bl < w.heap.size by omega)).trans (hc j (s, t, p, q) hx 2 _ rfl)
          have c3 := (HB2.out.cell (p := ⟨bl, off + j * 4 + 3, none⟩) (show bl < w.heap.size by omega)).trans (hc j (s, t, p, q) hx 3 _ rfl)
          rw [Nat.add_zero] at c0
          simp only at c0 c1 c2 c3
          have HX := hidE hx
          clear hx hc
          go_upto_region 11 with fail
          have g0 : (wr.alloc (.cells #[.string s, .string t, .bool p, .int .i64 q] 64)).cell? ⟨wr.heap.size, 0, none⟩ = some _ := cell_new _ _ _ _ _ rfl
          have g1 : (wr.alloc (.cells #[.string s, .string t, .bool p, .int .i64 q] 64)).cell? ⟨wr.heap.size, 1, none⟩ = some _ := cell_new _ _ _ _ _ rfl
          have g2 : (wr.alloc (.cells #[.string s, .string t, .bool p, .int .i64 q] 64)).cell? ⟨wr.heap.size, 2, none⟩ = some _ := cell_new _ _ _ _ _ rfl
          have g3 : (wr.alloc (.cells #[.string s, .string t, .bool p, .int .i64 q] 64)).cell? ⟨wr.heap.size, 3, none⟩ = some _ := cell_new _ _ _ _ _ rfl
          have hb1 : Below wr.heap.size wr (wr.alloc (.cells #[.string s, .string t, .bool p, .int .i64 q] 64)) := (Below.refl _ _).alloc (Nat.le_refl _) _
          obtain ⟨W1, hW1⟩ : ∃ W, wr.alloc (.cells #[.string s, .string t, .bool p, .int .i64 q] 64) = W := ⟨_, rfl⟩
          have hx1 : wr.heap.size < W1.heap.size := by rw [← hW1]; simp
          rw [hW1] at g0 g1 g2 g3 hb1 ⊢
          clear hW1 c0 c1 c2 c3
          have HM3 : Hid (MS endV okE W1 w.heap.size left) := HM2.out.block (hb1.block _ HM2.out.lt)
          have HO3 : Hid (ORow 64 4 endC (w.heap.size + 1) W1 _ out) := HO2.out.below hb1
          have HB3 := hidE (HB2.out.trans (hb1.mono HB2.out.size))
          have HX1 := hidE hx1
          obtain ⟨X, hX⟩ : ∃ X, wr.heap.size = X := ⟨_, rfl⟩
          rw [hX] at g0 g1 g2 g3 hx1 HX1 ⊢
          have HS3 : Hid (w.heap.size + 1 ≤ X) := by show _ ≤ _; rw [← hX]; exact HS2.out
          clear hb1 hX hx1
          have hlen := ms_len (ty := 3) map200 HM3.out
          by_cases hl0 : left = []
          · subst hl0
            simp only [List.length_nil] at hlen
            obtain ⟨v', W', p1, p2, p3⟩ := FIN.out W1 _ out [] HB3.out (by have := HS3.out; have := HX1.out; omega) HO3.out HLn.out
            simp only [List.length_nil, Int.ofNat_zero] at p1
            have HP := hidE (And.intro p2 p3)
            clear p2 p3
            go_wp2_with (at_builtin; refine Lib.wpList_append_run _ rfl _ _ _ _ rfl _ _ rfl rfl _ _ p1 ?_)
            go_ret
            refine ⟨_, rfl, ?_, HP.out.2⟩
            have h1 := HE.out
            rw [goFirst_none] at h1
            rw [HKO.out, ← h1.1, ← h1.2]
            simpa using HP.out.1
          · have hl1 : (left.length : Int) ≠ 0 := by
              have : left.length ≠ 0 := fun e => hl0 (List.eq_nil_of_length_eq_zero e)
              omega
            have hl2 : ((left.length : Int) == 0) = false := beq_eq_false_iff_ne.2 hl1
            have HL0 := hidE hl0
            clear hl0 hl1
            have HOK : Hid (okE (endK (s, t, p, q))) := (fun h => ⟨h.1, h.2.1, w64_zero⟩ : okE (s, t, p, q) → okE (endK (s, t, p, q))) (HRS.out _ (List.mem_of_getElem? HX.out))
            obtain ⟨z, hz⟩ : ∃ z : Bool, (z = true ↔ (endK (s, t, p, q)) ∈ left) := by
              by_cases h : (endK (s, t, p, q)) ∈ left
              · exact ⟨true, by simp [h]⟩
              · exact ⟨false, by simp [h]⟩
            have HZ := hidE hz
            clear hz
            go_upto_region 13 with (go_at_call 108; refine (f108_any s t p q _).mono ?_; rintro e W2 ⟨rfl, hb2⟩; have hlk := ms_lookB endT map200 zero164 (HM3.out.block (hb2.block _ HM3.out.lt)) (endK (s, t, p, q)) HOK.out z HZ.out; simp only [endV, endK] at hlk; have HB4 := hidE hb2; have hsz2 := hb2.size; clear hb2)
            clear hlk hlen
            have hb3 : Below W1.heap.size W1 (W2.alloc (.cells #[] 164)) := HB4.out.alloc hsz2 _
            have hx3 : W2.heap.size < (W2.alloc (.cells #[] 164)).heap.size := by simp
            obtain ⟨W3, hW3⟩ : ∃ W, W2.alloc (.cells #[] 164) = W := ⟨_, rfl⟩
            rw [hW3] at hb3 hx3 ⊢
            have hxl : X < W1.heap.size := HX1.out
            have hxl3 : X < W3.heap.size := by omega
            have g10 := (hb3.cell (p := ⟨X, 0, none⟩) hxl).trans g0
            have g11 := (hb3.cell (p := ⟨X, 1, none⟩) hxl).trans g1
            have g12 := (hb3.cell (p := ⟨X, 2, none⟩) hxl).trans g2
            have g13 := (hb3.cell (p := ⟨X, 3, none⟩) hxl).trans g3
            have HM4 : Hid (MS endV okE W3 w.heap.size left) := HM3.out.block (hb3.block _ HM3.out.lt)
            have HO4 : Hid (ORow 64 4 endC (w.heap.size + 1) W3 _ out) := HO3.out.below hb3
            have HB5 : Hid (Below w.heap.size w W3) := HB3.out.trans (hb3.mono (by have := HB3.out.size; omega))
            have HXL := hidE hxl3
            clear hW3 hb3 hx3 hsz2 HB4 HX1 hxl hxl3 g0 g1 g2 g3
            cases z with
            | true =>
              have hm : (endK (s, t, p, q)) ∈ left := HZ.out.1 rfl
              go_upto_region 15 with (go_at_call 108; refine (f108_any s t p q _).mono ?_; rintro e W4 ⟨rfl, hb4⟩; obtain ⟨W5, d1, d2, d3, d4, d5⟩ := ms_del (ty := 0) endT map200 (HM4.out.block (hb4.block _ HM4.out.lt)) HNd.out (endK (s, t, p, q)) HOK.out hm; simp only [endV, endK] at d1; have HD := hidE (And.intro hb4 (And.intro d2 (And.intro d3 (And.intro d4 d5)))); clear hb4 d2 d3 d4 d5)
              obtain ⟨hb4, d2, d3, d4, d5⟩ := HD.out
              have hX4 : X < W4.heap.size := Nat.lt_of_lt_of_le HXL.out hb4.size
              have hXb : X ≠ w.heap.size := by have := HS3.out; omega
              have k10 := ((World.cell?_of_block (w := W4) (a := ⟨X, 0, none⟩) (d4 X hXb)).trans (hb4.cell (p := ⟨X, 0, none⟩) HXL.out)).trans g10
              have k11 := ((World.cell?_of_block (w := W4) (a := ⟨X, 1, none⟩) (d4 X hXb)).trans (hb4.cell (p := ⟨X, 1, none⟩) HXL.out)).trans g11
              have k12 := ((World.cell?_of_block (w := W4) (a := ⟨X, 2, none⟩) (d4 X hXb)).trans (hb4.cell (p := ⟨X, 2, none⟩) HXL.out)).trans g12
              have k13 := ((World.cell?_of_block (w := W4) (a := ⟨X, 3, none⟩) (d4 X hXb)).trans (hb4.cell (p := ⟨X, 3, none⟩) HXL.out)).trans g13
              have HO5 : ORow 64 4 endC (w.heap.size + 1) W5 _ out := (HO4.out.below hb4).keep fun g hg _ => d4 g (by omega)
              have hs5 : w.heap.size + 1 ≤ W5.heap.size := by have := HS3.out; omega
              have HB6 : Below w.heap.size w W5 := (HB5.out.trans (hb4.mono HB5.out.size)).trans (d5.mono (Nat.le_refl _))
              obtain ⟨v6, W6, p1, p2, p3, p4⟩ := append_one (ty := 30) (c := 1) (bl := W5.heap.size) (off := 0) (x := (s, t, p, q)) elem30 (fun x => rfl) one_end (HO5.below ((Below.refl _ _).alloc (Nat.le_refl _) (.cells #[.string s, .string t, .bool p, .int .i64 q] 64))) (fun jj u hu => by
                rw [Nat.zero_add]
                exact cell_new _ _ _ _ _ (by simpa [endC] using hu)) (by have := HLn.out; omega) (by simp; omega)
              have HP := hidE (And.intro p2 (And.intro p3 (And.intro HB6 (And.intro d2 hs5))))
              clear hb4 d2 d3 d4 d5 HD p2 p3 p4 HB6 hs5 HO5 hX4 hXb
              go_wp2_with (at_builtin; refine Lib.wpList_append_run _ rfl _ _ _ _ rfl _ _ rfl rfl _ _ p1 ?_)
              go_roundw
              case rel =>
                obtain ⟨p2, p3, p5, p6, p7⟩ := HP.out
                have hbA : Below W5.heap.size W5 (W5.alloc (.cells #[.string s, .string t, .bool p, .int .i64 q] 64)) := (Below.refl _ _).alloc (Nat.le_refl _) _
                have p8 := p6.block ((p3.block _ (by omega)).trans (hbA.block _ (by omega)))
                have hh := goFirst_hit (key := endK) HX.out HL0.out hm
                have hE := HE.out
                rw [hh] at hE
                refine ⟨j + 1, out ++ [(s, t, p, q)], delS (endK (s, t, p, q)) left, by omega, by go_num, ?_, (p5.trans (hbA.mono (by omega))).trans (p3.mono (by omega)), p8, delS_nodup HNd.out _, p2, ?_, ?_, hE.2⟩
                · have := p3.size; have := hbA.size; omega
                · have h1 := HLn.out
                  have h2 := delS_len hm
                  simp only [List.length_append, List.length_cons, List.length_nil]; omega
                · rw [← hE.1]; simp
              case measure => simp [intOf]; omega
            | false =>
              have hm : ¬ (endK (s, t, p, q)) ∈ left := fun h => by have := HZ.out.2 h; cases this
              go_wp2_with fail
              go_roundw
              case rel => exact ⟨j + 1, out, left, by omega, by go_num, by have := HS3.out; have := HXL.out; omega, HB5.out, HM4.out, HNd.out, HO4.out, HLn.out, by rw [← goFirst_miss HX.out HL0.out hm]; exact HE.out.1, by rw [← goFirst_miss HX.out HL0.out hm]; exact HE.out.2⟩
              case measure => simp [intOf]; omega
        · have hlt' : ¬ (j : Int) < m := by omega
          have hlen := ms_len (ty := 3) map200 HM2.out
          obtain ⟨v', W', p1, p2, p3⟩ := FIN.out wr _ out left HB2.out HS2.out HO2.out HLn.out
          have HP := hidE (And.intro p2 p3)
          clear p2 p3
          go_wp2_with (at_builtin; refine Lib.wpList_append_run _ rfl _ _ _ _ rfl _ _ rfl rfl _ _ p1 ?_)
          go_ret
          refine ⟨_, rfl, ?_, HP.out.2⟩
          have h1 := HE.out
          rw [List.drop_of_length_le (by have := HM.out; omega)] at h1
          simp only [goFirst, List.append_nil] at h1
          rw [HKO.out, ← h1.1, ← h1.2]
          exact HP.out.1
end Go.Proofs.YthfilnflgahcjaaGreatDoor

namespace Go.Proofs.YthfilnflgahcjaaGreatDoor
open Go.RowKit Go.Shelf Go.Maps
set_option linter.unusedVariables false
set_option linter.unusedSimpArgs false
attribute [local go_sem] Oper.semAt_some
set_option maxRecDepth 100000 in
set_option maxHeartbeats 4000000 in
theorem f109_any (rows : List (EndR)) (vr : Value) (B : Nat) (w : World) (hB : B ≤ w.heap.size) (hr : SRow 4 endC B w vr rows) (hrl : rows.length ≤ 100000) :
    Calls Tryz.prog 109 #[vr, .func (.func 111) #[] #[]] w fun e w' => ∃ v, e = .returned v ∧ ORow 2 1 intE w.heap.size w' v (rows.map (fun x : EndR => x.2.2.2)) ∧ Below w.heap.size w w' := by
  obtain ⟨ra, rc, rfl, r1, r2, r3⟩ := hr
  have HR3 := hidE r3
  obtain ⟨m, hm⟩ : ∃ n, rows.length = n := ⟨_, rfl⟩
  have HM := hidE hm
  rw [hm] at r1 hrl ⊢
  clear r3 hm
  go_enter Tryz.func109, Tryz.ntmps109
  go_wp2_with fail
  go_loopw [5, 10] (fun v i wr => ∃ j : Nat, j ≤ m ∧ i = .int .i64 j ∧ Below w.heap.size w wr ∧ ORow 2 1 intE w.heap.size wr v ((rows.take j).map (fun x : EndR => x.2.2.2))) (fun _ i _ => m - (intOf i).toNat)
  case atStart => exact ⟨0, Nat.zero_le _, rfl, Below.refl _ _, orow_nil _ _ _ _ _⟩
  case round =>
    obtain ⟨j, hj, rfl, hbr, hor⟩ := hrel
    have HBR := hidE hbr
    have HOR := hidE hor
    clear hbr hor
    by_cases hlt : j < m
    · have hlt' : (j : Int) < m := by omega
      obtain ⟨⟨s, t, p, q⟩, hx⟩ : ∃ q, rows[j]? = some q := ⟨_, List.getElem?_eq_getElem (by have := HM.out; omega)⟩
      obtain ⟨bl, off, rfl, hbl, hc⟩ := HR3.out.resolve_left (by intro e; rw [e] at hx; simp at hx)
      have c0 := (HBR.out.cell (p := ⟨bl, off + j * 4 + 0, none⟩) (show bl < w.heap.size by omega)).trans (hc j (s, t, p, q) hx 0 _ rfl)
      have c1 := (HBR.out.cell (p := ⟨bl, off + j * 4 + 1, none⟩) (show bl < w.heap.size by omega)).trans (hc j (s, t, p, q) hx 1 _ rfl)
      have c2 := (HBR.out.cell (p := ⟨bl, off + j * 4 + 2, none⟩) (show bl < w.heap.size by omega)).trans (hc j (s, t, p, q) hx 2 _ rfl)
      have c3 := (HBR.out.cell (p := ⟨bl, off + j * 4 + 3, none⟩) (show bl < w.heap.size by omega)).trans (hc j (s, t, p, q) hx 3 _ rfl)
      rw [Nat.add_zero] at c0
      simp only at c0 c1 c2 c3
      have HX := hidE hx
      clear hx hc
      have HA : Hid (Below wr.heap.size wr (wr.alloc (.cells #[.string s, .string t, .bool p, .int .i64 q] 64))) := (Below.refl _ _).alloc (Nat.le_refl _) _
      go_wp2_with (first
        | (go_at_call 111; refine (f111_any s t p q _).mono ?_; rintro e W2 ⟨rfl, hb2⟩
           have hs2 : w.heap.size ≤ W2.heap.size := Nat.le_trans HBR.out.size (Nat.le_trans HA.out.size hb2.size)
           obtain ⟨v6, W6, p1, p2, p3, p4⟩ := append_one (ty := 44) (c := 1) (bl := W2.heap.size) (off := 0) (x := q) elem44 (fun x => rfl) one_int (((HOR.out.below HA.out).below hb2).below ((Below.refl _ _).alloc (Nat.le_refl _) (.cells #[.int .i64 q] 2))) (fun jj u hu => by
             rw [Nat.zero_add]
             exact cell_new _ _ _ _ _ (by simpa [intE] using hu)) (by rw [List.length_map, List.length_take]; omega) (by simp; omega)
           have HP := hidE (And.intro p2 (And.intro p3 hb2))
           clear p2 p3 p4 hb2)
        | (at_builtin; refine Lib.wpList_append_run _ rfl _ _ _ _ rfl _ _ rfl rfl _ _ p1 ?_))
      go_roundw
      case rel =>
        obtain ⟨p2, p3, hb2⟩ := HP.out
        refine ⟨j + 1, by omega, by go_num, ?_, ?_⟩
        · have h1 := HBR.out.trans (HA.out.mono HBR.out.size)
          have h2 := h1.trans (hb2.mono h1.size)
          have h3 : Below w.heap.size w (W2.alloc (.cells #[.int .i64 q] 2)) := h2.alloc h2.size _
          exact h3.trans p3
        · rw [List.take_add_one, HX.out, List.map_append]
          exact p2
      case measure => simp [intOf]; omega
    · have hlt' : ¬ (j : Int) < m := by omega
      have HL := HOR.out
      rw [List.take_of_length_le (by have := HM.out; omega)] at HL
      have HL := hidE HL
      go_wp2_with fail
      go_ret
      exact ⟨_, rfl, HL.out, HBR.out⟩
end Go.Proofs.YthfilnflgahcjaaGreatDoor

namespace Go.Proofs.YthfilnflgahcjaaGreatDoor
open Go.RowKit Go.Shelf Go.Maps
set_option linter.unusedVariables false
set_option linter.unusedSimpArgs false
attribute [local go_sem] Oper.semAt_some
theorem srow_new {α : Type} {k : Nat} {enc : α → List Value} (hk : ∀ x, (enc x).length = k) (W : World) (xs : List α) (cs : Array Value) (ty : Nat) (h : cs.toList = (xs.map enc).flatten) (hl : xs.length ≤ 9223372036854775807) : SRow k enc (W.alloc (.cells cs ty)).heap.size (W.alloc (.cells cs ty)) (.slice (some ⟨W.heap.size, 0, none⟩) xs.length xs.length) xs := by
  refine ⟨_, _, rfl, Nat.le_refl _, hl, .inr ⟨W.heap.size, 0, rfl, by simp, fun i x hx j u hu => ?_⟩⟩
  have hj : j < k := by have := (List.getElem?_eq_some_iff.1 hu).1; rwa [hk] at this
  have e1 := sflat_at (xs.map enc) i j (enc x) (fun c hc => by obtain ⟨y, _, rfl⟩ := List.mem_map.1 hc; exact hk y) (by rw [List.getElem?_map, hx]; rfl) hj
  rw [← h, hu, Array.getElem?_toList] at e1
  exact cell_new _ _ _ _ _ (by rw [Nat.zero_add]; exact e1)
def endedI (s : StatP) (lab : ByteArray) (out : Bool) (ls : List ByteArray) : Int := plusI ((firstsL endK (⟨#[]⟩, ⟨#[]⟩, false, 0) s.ends (ls.map fun t => (t, lab, out, 0))).map fun x => x.2.2.2)
set_option maxRecDepth 100000 in
set_option maxHeartbeats 4000000 in
theorem endedAll_any (s : StatP) (vl vt ve vk vs : Value) (lab : ByteArray) (out : Bool) (ls : List ByteArray) (B : Nat) (w : World) (hB : B ≤ w.heap.size) (h : StatL B w vl vt ve vk s) (hs : SRow 1 strE B w vs ls) (hlab : okS lab) (hok : ∀ x ∈ ls, okS x) (hl : ls.length ≤ 100000) : Calls Tryz.prog 61 #[statV s vl vt ve vk, .string lab, .bool out, vs] w fun e w' => e = .returned (.int .i64 (endedI s lab out ls)) ∧ Below w.heap.size w w' := by
  obtain ⟨K, hK⟩ : ∃ K, (ls.map fun t => ((t, lab, out, 0) : EndR)) = K := ⟨_, rfl⟩
  obtain ⟨R, hR⟩ : ∃ R, firstsL endK (⟨#[]⟩, ⟨#[]⟩, false, 0) s.ends K = R := ⟨_, rfl⟩
  obtain ⟨R2, hR2⟩ : ∃ l, (R.map fun x : EndR => x.2.2.2) = l := ⟨_, rfl⟩
  have HT : endedI s lab out ls = plusI R2 := by rw [endedI, hK, hR, hR2]
  rw [HT]
  have HR2 := hidE hR2
  have HK := hidE hK
  have hKl : K.length = ls.length := by rw [← hK, List.length_map]
  have HRL : Hid (R.length ≤ 100000) := by
    show R.length ≤ 100000
    have := firsts_len endK ((⟨#[]⟩, ⟨#[]⟩, false, 0) : EndR) s.ends K
    rw [hR] at this
    omega
  have HKO : Hid (∀ x ∈ K, okE x) := by
    intro x hx
    rw [← hK] at hx
    obtain ⟨t, ht, rfl⟩ := List.mem_map.1 hx
    exact ⟨hok t ht, hlab, w64_zero⟩
  have HF : Hid (∀ W v, Below w.heap.size w W → SRow 4 endC W.heap.size W v K → Calls Tryz.prog 110 #[ve, .func (.func 108) #[] #[], v] W fun e w' => ∃ v, e = .returned v ∧ ORow 64 4 endC W.heap.size w' v R ∧ Below W.heap.size W w') := by
    intro W v hb hv
    have := f110_any s.ends K ve v W.heap.size W (Nat.le_refl _) ((h.he.keep (hb.mono hB)).mono (Nat.le_trans hB hb.size)) hv h.oe HKO.out h.ne (by omega)
    rwa [hR] at this
  have HS := hidE hs
  clear hR hR2 HT hK hKl
  obtain ⟨la, lc, rfl, _⟩ := h.hl
  obtain ⟨ta, tc, rfl, _⟩ := h.ht
  obtain ⟨ea, ec, rfl, _⟩ := h.he
  obtain ⟨ka, kc, rfl, _⟩ := h.hk
  obtain ⟨sa, sc, rfl, s1, s2, s3⟩ := hs
  have HS3 := hidE s3
  clear s3
  unfold statV at *
  generalize s.nodes = n at *
  generalize s.rels = r at *
  generalize s.labels.length = l1 at *
  generalize s.types.length = l2 at *
  generalize s.ends.length = l3 at *
  generalize s.keys.length = l4 at *
  obtain ⟨m, hm⟩ : ∃ m, ls.length = m := ⟨_, rfl⟩
  have HM := hidE hm
  rw [hm] at s1 hl ⊢
  clear h hok hm
  have hW : Below w.heap.size w (w.alloc (.cells #[.int .i64 n, .int .i64 r, .slice la l1 lc, .slice ta l2 tc, .slice ea l3 ec, .slice ka l4 kc] 33)) := (Below.refl _ _).alloc (Nat.le_refl _) _
  have e0 : (w.alloc (.cells #[.int .i64 n, .int .i64 r, .slice la l1 lc, .slice ta l2 tc, .slice ea l3 ec, .slice ka l4 kc] 33)).cell? ⟨w.heap.size, 4, none⟩ = some (.slice ea l3 ec) := cell_new _ _ _ _ _ rfl
  have hsz : w.heap.size < (w.alloc (.cells #[.int .i64 n, .int .i64 r, .slice la l1 lc, .slice ta l2 tc, .slice ea l3 ec, .slice ka l4 kc] 33)).heap.size := by simp
  have HW0 := hidE hW
  have HE0 := hidE e0
  have HZ0 := hidE hsz
  clear hW e0 hsz
  go_enter Tryz.func61, Tryz.ntmps61
  go_upto_region 1 with fail
  obtain ⟨W1, hW1⟩ : ∃ W, w.alloc (.cells #[.int .i64 n, .int .i64 r, .slice la l1 lc, .slice ta l2 tc, .slice ea l3 ec, .slice ka l4 kc] 33) = W := ⟨_, rfl⟩
  rw [hW1] at HW0 HE0 HZ0 ⊢
  clear hW1
  go_wp2_with fail
  go_loopw [10, 15] (fun v i wr => ∃ j : Nat, j ≤ m ∧ i = .int .i64 j ∧ Below W1.heap.size W1 wr ∧ ORow 64 4 endC W1.heap.size wr v (K.take j)) (fun _ i _ => m - (intOf i).toNat)
  case atStart => exact ⟨0, Nat.zero_le _, rfl, Below.refl _ _, orow_nil _ _ _ _ _⟩
  case round =>
    obtain ⟨j, hj, rfl, hbr, hor⟩ := hrel
    have HBR := hidE hbr
    have HOR := hidE hor
    clear hbr hor
    by_cases hlt : j < m
    · have hlt' : (j : Int) < m := by omega
      obtain ⟨x, hx⟩ : ∃ q, ls[j]? = some q := ⟨_, List.getElem?_eq_getElem (by have := HM.out; omega)⟩
      obtain ⟨bl, off, rfl, hbl, hc⟩ := HS3.out.resolve_left (by intro e; rw [e] at hx; simp at hx)
      have hw1 : Below w.heap.size w wr := HW0.out.trans (HBR.out.mono HW0.out.size)
      have cx := (hw1.cell (p := ⟨bl, off + j * 1 + 0, none⟩) (show bl < w.heap.size by omega)).trans (hc j x hx 0 _ rfl)
      rw [Nat.mul_one, Nat.add_zero] at cx
      have HX : Hid (K[j]? = some (x, lab, out, 0)) := by show _ = _; rw [← HK.out, List.getElem?_map, hx]; rfl
      obtain ⟨v6, W6, p1, p2, p3, p4⟩ := append_one (ty := 30) (c := 1) (bl := wr.heap.size) (off := 0) (x := (x, lab, out, 0)) elem30 (fun x => rfl) one_end (HOR.out.below ((Below.refl _ _).alloc (Nat.le_refl _) (.cells #[.string x, .string lab, .bool out, .int .i64 0] 64))) (fun jj u hu => by
        rw [Nat.zero_add]
        exact cell_new _ _ _ _ _ (by simpa [endC] using hu)) (by rw [List.length_take]; omega) (by have := HBR.out.size; simp; omega)
      have HP := hidE (And.intro p2 p3)
      clear hx hc p2 p3 p4 hw1
      go_wp2_with (at_builtin; refine Lib.wpList_append_run _ rfl _ _ _ _ rfl _ _ rfl rfl _ _ p1 ?_)
      go_roundw
      case rel =>
        obtain ⟨p2, p3⟩ := HP.out
        refine ⟨j + 1, by omega, by go_num, ?_, ?_⟩
        · have h3 : Below W1.heap.size W1 (wr.alloc (.cells #[.string x, .string lab, .bool out, .int .i64 0] 64)) := HBR.out.alloc HBR.out.size _
          exact h3.trans p3
        · rw [List.take_add_one, HX.out]
          exact p2
      case measure => simp [intOf]; omega
    · have hlt' : ¬ (j : Int) < m := by omega
      have HL := HOR.out
      rw [List.take_of_length_le (by rw [← HK.out, List.length_map]; have := HM.out; omega)] at HL
      have HL2 := hidE (ORow.srow (enc := endC) (k := 4) (fun _ => rfl) HL)
      have c4 := (HBR.out.cell (p := ⟨w.heap.size, 4, none⟩) HZ0.out).trans HE0.out
      have HB2 : Hid (Below w.heap.size w wr) := HW0.out.trans (HBR.out.mono HW0.out.size)
      clear HL
      go_wp2_with (first
        | (go_at_call 110; refine (HF.out _ _ HB2.out HL2.out).mono ?_; rintro e W3 ⟨v3, rfl, ho3, hb3⟩
           have HB3 : Hid (Below w.heap.size w W3) := HB2.out.trans (hb3.mono HB2.out.size)
           have H109 := hidE (f109_any R v3 W3.heap.size W3 (Nat.le_refl _) (ORow.srow (enc := endC) (k := 4) (fun _ => rfl) ho3) HRL.out)
           clear hb3
           obtain ⟨va, vc, rfl⟩ := ho3.slice
           clear ho3)
        | (go_at_call 109; refine H109.out.mono ?_; rintro e W4 ⟨v4, rfl, ho4, hb4⟩; rw [HR2.out] at ho4
           have HB4 : Hid (Below w.heap.size w W4) := HB3.out.trans (hb4.mono HB3.out.size)
           have HP := hidE (plus_any R2 v4 W4.heap.size W4 (Nat.le_refl _) (ORow.srow (enc := intE) (k := 1) (fun _ => rfl) ho4))
           clear hb4
           obtain ⟨va4, vc4, rfl⟩ := ho4.slice
           clear ho4)
        | (go_at_call 34; refine HP.out.mono ?_; rintro e _ ⟨rfl, rfl⟩))
      go_ret
      exact ⟨rfl, HB4.out⟩
end Go.Proofs.YthfilnflgahcjaaGreatDoor

