/- WordsJoin, walked. -/
import Derived.Test.YtbjcdpenfijfoaaGreatDoorJoin0
namespace Go.Proofs.YtbjcdpenfijfoaaGreatDoor
open Go.RowKit Go.Shelf Go.Lexed
set_option linter.unusedVariables false
set_option linter.unusedSimpArgs false
attribute [local go_sem] Oper.semAt_some
set_option maxRecDepth 100000 in
set_option maxHeartbeats 4000000 in
theorem join_walk (s t : ByteArray) (w : World) (hE : Env w) : Calls Tryz.prog 10 #[.string s, .string t] w fun e w' => e = .returned (.bool true) ∧ Below w.heap.size w w' := by
  have HE := hidE hE
  have h8 := hE.room
  clear hE
  have HW := hidE (fun w1 (h : Below w.heap.size w w1) => works_any w1 (HE.out.below h h8))
  by_cases h1 : 2000 < s.size
  · have h1' : (2000 : Int) < s.size := by omega
    go_enter Tryz.func10, Tryz.ntmps10
    go_wp2_with fail
    refine (HW.out w (Below.refl _ _)).mono ?_
    rintro e w1 ⟨rfl, hb⟩
    go_wp2_with fail
    go_ret
    exact ⟨rfl, hb⟩
  have h1' : ¬ (2000 : Int) < s.size := by omega
  by_cases h2 : 2000 < t.size
  · have h2' : (2000 : Int) < t.size := by omega
    go_enter Tryz.func10, Tryz.ntmps10
    go_wp2_with fail
    refine (HW.out w (Below.refl _ _)).mono ?_
    rintro e w1 ⟨rfl, hb⟩
    go_wp2_with fail
    go_ret
    exact ⟨rfl, hb⟩
  have h2' : ¬ (2000 : Int) < t.size := by omega
  have HL1 := hidE (lex_any s (by omega) w HE.out)
  have HL2 := hidE (fun w1 (h : Below w.heap.size w w1) => lex_any t (by omega) w1 (HE.out.below h h8))
  have HL3 := hidE (fun w1 (h : Below w.heap.size w w1) => lex_any (joined s t) (by rw [joined_size]; omega) w1 (HE.out.below h h8))
  go_enter Tryz.func10, Tryz.ntmps10
  go_wp2_with fail
  refine HL1.out.mono ?_
  rintro e w1 ⟨hb1, ⟨ho1, v1, rfl, hl1⟩ | ⟨j1, hj1, ho1, rfl⟩⟩
  · have HB1 := hidE hb1
    have HX := hidE hl1
    have HO1 := hidE ho1
    clear hb1 hl1 ho1
    go_wp2_with fail
    refine (HL2.out w1 HB1.out).mono ?_
    rintro e w2 ⟨hb2, ⟨ho2, v2, rfl, hl2⟩ | ⟨j2, hj2, ho2, rfl⟩⟩
    · have HB2 := hidE (below_on HB1.out hb2)
      have HX2 := hidE (HX.out.below hb2 (Nat.le_refl _))
      have HS2 := hidE hb2.size
      have HY := hidE hl2
      have HO2 := hidE ho2
      clear hb2 hl2 ho2
      go_wp2_with fail
      rw [join_text]
      refine (HL3.out w2 HB2.out).mono ?_
      rintro e w3 ⟨hb3, ⟨ho3, v3, rfl, hl3⟩ | ⟨j3, hj3, ho3, rfl⟩⟩
      · have HB3 := hidE (below_on HB2.out hb3)
        have hZ : (lexP (joined s t)).map toW4 = lw s ++ (lw t).map (shiftW s.size) := (lw_join s t HO1.out).1
        rw [hZ] at hl3
        have HX3 : Hid (Lie4 w3.heap.size w3 v1 (lw s)) := (HX2.out.below hb3 HS2.out).mono (Nat.le_trans HS2.out hb3.size)
        have HY3 : Hid (Lie4 w3.heap.size w3 v2 (lw t)) := (HY.out.below hb3 (Nat.le_refl _)).mono hb3.size
        have HZ3 := hidE hl3
        have HSM := hidE (lw_small t)
        have hXl := lw_len s
        have hYl := lw_len t
        generalize lw s = X at HX3 HZ3 hXl
        generalize lw t = Y at HY3 HZ3 HSM hYl
        obtain ⟨ad1, cp1, rfl, l1, m1, -⟩ := HX3.out
        obtain ⟨ad2, cp2, rfl, l2, m2, -⟩ := HY3.out
        obtain ⟨ad3, cp3, rfl, l3, m3, -⟩ := HZ3.out
        have hLL : (X ++ Y.map (shiftW s.size)).length = X.length + Y.length := by simp
        have HZA : Hid (∀ W v, Lie4 w3.heap.size W v (X ++ Y.map (shiftW s.size)) → ∀ j x, (X ++ Y.map (shiftW s.size))[j]? = some x → ∃ bl off cap, v = .slice (some ⟨bl, off, none⟩) (X.length + Y.length) cap ∧ bl < w3.heap.size ∧ X.length + Y.length ≤ cap ∧ W.cell? ⟨bl, off + j * 4, none⟩ = some (.int .i64 x.k) ∧ W.cell? ⟨bl, off + j * 4 + 1, none⟩ = some (.int .i64 x.i) ∧ W.cell? ⟨bl, off + j * 4 + 2, none⟩ = some (.string x.t) ∧ W.cell? ⟨bl, off + j * 4 + 3, none⟩ = some (.int .u64 x.n)) := by
          intro W v h j x hx
          have := h.at hx
          rwa [hLL] at this
        rw [hLL] at HZ3 l3 ⊢
        clear hLL hb3 ho3 hl3 hZ HX HX2 HS2 HY HO2 HO1
        go_wp2_with fail
        refine (num_any _ _).mono ?_
        rintro e W ⟨rfl, rfl⟩
        go_wp2_with fail
        refine (num_any _ _).mono ?_
        rintro e W ⟨rfl, rfl⟩
        go_wp2_with fail
        refine (num_any _ _).mono ?_
        rintro e W ⟨rfl, rfl⟩
        go_wp2_with fail
        go_loopw [14] (fun i wr => ∃ j : Nat, j ≤ X.length + Y.length ∧ i = .int .i64 j ∧ Below W.heap.size W wr) (fun i _ => X.length + Y.length - (intOf i).toNat)
        case atStart => exact ⟨0, Nat.zero_le _, rfl, Below.refl _ _⟩
        case round =>
          obtain ⟨j, hj, rfl, hbr⟩ := hrel
          have HBr := hidE hbr
          have HWr := hidE (below_on HB3.out hbr)
          clear hbr
          by_cases hlt : j < X.length + Y.length
          · by_cases hx : j < X.length
            · obtain ⟨x, hxj⟩ : ∃ x, X[j]? = some x := ⟨_, List.getElem?_eq_getElem hx⟩
              obtain ⟨bl1, off1, cap1, hv1, hbl1, _, c0, c1, c2, c3⟩ := (HX3.out.below HBr.out (Nat.le_refl _)).at hxj
              obtain ⟨bl3, off3, cap3, hv3, hbl3, _, d0, d1, d2, d3⟩ := HZA.out wr _ (HZ3.out.below HBr.out (Nat.le_refl _)) j x (by rw [List.getElem?_append_left hx]; exact hxj)
              cases hv1
              cases hv3
              obtain ⟨k, i, tt, n⟩ := x
              simp only at c0 c1 c2 c3 d0 d1 d2 d3
              have hlt' : (j : Int) < X.length + Y.length := by omega
              have hx' : (j : Int) < X.length := by omega
              go_upto_region 16 with fail
              generalize hW1 : World.alloc _ _ = W1
              have HN1 : Hid (Wo W1 wr.heap.size 0 0 0 ⟨#[]⟩) := by rw [← hW1]; exact World.alloc_heap_new _ _
              have hba : Below wr.heap.size wr W1 := by rw [← hW1]; exact (Below.refl _ _).alloc (Nat.le_refl _) _
              have HBa := hidE (below_on HBr.out hba)
              have hp1 : bl1 < wr.heap.size := by have := HBr.out.size; omega
              have hp3 : bl3 < wr.heap.size := by have := HBr.out.size; omega
              replace c0 := (hba.cell hp1).trans c0
              replace c1 := (hba.cell hp1).trans c1
              replace c2 := (hba.cell hp1).trans c2
              replace c3 := (hba.cell hp1).trans c3
              replace d0 := (hba.cell hp3).trans d0
              replace d1 := (hba.cell hp3).trans d1
              replace d2 := (hba.cell hp3).trans d2
              replace d3 := (hba.cell hp3).trans d3
              have HP1 := hidE hp1
              have HP3 := hidE hp3
              obtain ⟨p, hp⟩ : ∃ p, wr.heap.size = p := ⟨_, rfl⟩
              rw [hp] at HN1 HP1 HP3 ⊢
              have HPP := hidE hp
              clear hW1 hba hp1 hp3 hp
              have y0 := HN1.out.z 0
              have y1 := HN1.out.z 1
              have y2 := HN1.out.z 2
              have y3 := HN1.out.z 3
              have b0 := HN1.out.c0
              have b1 := HN1.out.c1
              have b2 := HN1.out.c2
              have b3 := HN1.out.c3
              go_upto_region 20 with fail
              generalize hW2 : World.setCell _ _ _ = W2
              have hb2 : Below p W1 W2 := by rw [← hW2]; exact ((((Below.refl p W1).setCell (Nat.le_refl _) _).setCell (Nat.le_refl _) _).setCell (Nat.le_refl _) _).setCell (Nat.le_refl _) _
              have HN2 : Hid (Wo W2 p k i n tt) := by rw [← hW2]; exact (((HN1.out.set0 k).set1 i).set2 tt).set3 n
              have HBb : Hid (Below W.heap.size W W2) := HBa.out.trans (hb2.mono (by have := HPP.out; have := HBr.out.size; omega))
              replace d0 := (hb2.cell HP3.out).trans d0
              replace d1 := (hb2.cell HP3.out).trans d1
              replace d2 := (hb2.cell HP3.out).trans d2
              replace d3 := (hb2.cell HP3.out).trans d3
              clear hW2 hb2 b0 b1 b2 b3 c0 c1 c2 c3 y0 y1 y2 y3 HN1 HBa
              have b0 := HN2.out.c0
              have b1 := HN2.out.c1
              have b2 := HN2.out.c2
              have b3 := HN2.out.c3
              go_quiet (fail)
              generalize hW5 : World.drewN _ _ = W5
              have HB5 : Hid (Below W.heap.size W W5) := by rw [← hW5]; exact below_drewN HBb.out _
              clear hW5
              go_wp2_with fail
              go_roundw
              case rel => exact ⟨j + 1, by omega, by go_num, HB5.out⟩
              case measure => simp [intOf]; omega
            · obtain ⟨y, hyj⟩ : ∃ y, Y[j - X.length]? = some y := ⟨_, List.getElem?_eq_getElem (by omega)⟩
              obtain ⟨bl1, off1, cap1, hv1, hbl1, _, c0, c1, c2, c3⟩ := (HY3.out.below HBr.out (Nat.le_refl _)).at hyj
              obtain ⟨bl3, off3, cap3, hv3, hbl3, _, d0, d1, d2, d3⟩ := HZA.out wr _ (HZ3.out.below HBr.out (Nat.le_refl _)) j (shiftW s.size y) (by rw [List.getElem?_append_right (by omega), List.getElem?_map, hyj]; rfl)
              obtain ⟨hi0, hi1⟩ := HSM.out y (List.mem_of_getElem? hyj)
              cases hv1
              cases hv3
              obtain ⟨k, i, tt, n⟩ := y
              simp only [shiftW] at c0 c1 c2 c3 d0 d1 d2 d3 hi0 hi1
              have hlt' : (j : Int) < X.length + Y.length := by omega
              have hx' : ¬ (j : Int) < X.length := by omega
              obtain ⟨q, hq⟩ : ∃ q, j - X.length = q := ⟨_, rfl⟩
              rw [hq] at c0 c1 c2 c3
              have hjq : (j : Int) = X.length + q := by omega
              have hqy : q < Y.length := by omega
              have hq' : (j : Int) - X.length = q := by omega
              clear hyj
              go_upto_region 16 with fail
              generalize hW1 : World.alloc _ _ = W1
              have HN1 : Hid (Wo W1 wr.heap.size 0 0 0 ⟨#[]⟩) := by rw [← hW1]; exact World.alloc_heap_new _ _
              have hba : Below wr.heap.size wr W1 := by rw [← hW1]; exact (Below.refl _ _).alloc (Nat.le_refl _) _
              have HBa := hidE (below_on HBr.out hba)
              have hp1 : bl1 < wr.heap.size := by have := HBr.out.size; omega
              have hp3 : bl3 < wr.heap.size := by have := HBr.out.size; omega
              replace c0 := (hba.cell hp1).trans c0
              replace c1 := (hba.cell hp1).trans c1
              replace c2 := (hba.cell hp1).trans c2
              replace c3 := (hba.cell hp1).trans c3
              replace d0 := (hba.cell hp3).trans d0
              replace d1 := (hba.cell hp3).trans d1
              replace d2 := (hba.cell hp3).trans d2
              replace d3 := (hba.cell hp3).trans d3
              have HP1 := hidE hp1
              have HP3 := hidE hp3
              obtain ⟨p, hp⟩ : ∃ p, wr.heap.size = p := ⟨_, rfl⟩
              rw [hp] at HN1 HP1 HP3 ⊢
              have HPP := hidE hp
              clear hW1 hba hp1 hp3 hp
              have y0 := HN1.out.z 0
              have y1 := HN1.out.z 1
              have y2 := HN1.out.z 2
              have y3 := HN1.out.z 3
              have b0 := HN1.out.c0
              have b1 := HN1.out.c1
              have b2 := HN1.out.c2
              have b3 := HN1.out.c3
              go_upto_region 19 with fail
              generalize hW2 : World.setCell _ _ _ = W2
              have hb2 : Below p W1 W2 := by rw [← hW2]; exact ((((Below.refl p W1).setCell (Nat.le_refl _) _).setCell (Nat.le_refl _) _).setCell (Nat.le_refl _) _).setCell (Nat.le_refl _) _
              have HN2 : Hid (Wo W2 p k i n tt) := by rw [← hW2]; exact (((HN1.out.set0 k).set1 i).set2 tt).set3 n
              have HBb : Hid (Below W.heap.size W W2) := HBa.out.trans (hb2.mono (by have := HPP.out; have := HBr.out.size; omega))
              replace d0 := (hb2.cell HP3.out).trans d0
              replace d1 := (hb2.cell HP3.out).trans d1
              replace d2 := (hb2.cell HP3.out).trans d2
              replace d3 := (hb2.cell HP3.out).trans d3
              clear hW2 hb2 b0 b1 b2 b3 c0 c1 c2 c3 y0 y1 y2 y3 HN1 HBa
              have b1 := HN2.out.c1
              have y1 := HN2.out.z 1
              go_upto_region 20 with fail
              generalize hW3 : World.setCell _ _ _ = W3
              have hb3 : Below p W2 W3 := by rw [← hW3]; exact (Below.refl p W2).setCell (Nat.le_refl _) _
              have HN3 : Hid (Wo W3 p k (i + s.size + 1) n tt) := by rw [← hW3]; exact HN2.out.set1 _
              have HBc : Hid (Below W.heap.size W W3) := HBb.out.trans (hb3.mono (by have := HPP.out; have := HBr.out.size; omega))
              replace d0 := (hb3.cell HP3.out).trans d0
              replace d1 := (hb3.cell HP3.out).trans d1
              replace d2 := (hb3.cell HP3.out).trans d2
              replace d3 := (hb3.cell HP3.out).trans d3
              clear hW3 hb3 b1 y1 HN2 HBb hjq hq' hq hqy hx' hx hi0 hi1
              generalize i + (s.size : Int) + 1 = ii at HN3 d1
              have b0 := HN3.out.c0
              have b1 := HN3.out.c1
              have b2 := HN3.out.c2
              have b3 := HN3.out.c3
              go_quiet (fail)
              generalize hW5 : World.drewN _ _ = W5
              have HB5 : Hid (Below W.heap.size W W5) := by rw [← hW5]; exact below_drewN HBc.out _
              clear hW5
              go_wp2_with fail
              go_roundw
              case rel => exact ⟨j + 1, by omega, by go_num, HB5.out⟩
              case measure => simp [intOf]; omega
          · have hlt' : ¬ (j : Int) < X.length + Y.length := by omega
            go_wp2_with fail
            refine (HW.out _ HWr.out).mono ?_
            rintro e w6 ⟨rfl, hb6⟩
            have HB6 := hidE (below_on HWr.out hb6)
            clear hb6
            go_wp2_with fail
            go_ret
            exact ⟨rfl, HB6.out⟩
      · rw [(lw_join s t HO1.out).2, HO2.out] at ho3; cases ho3
    · have HB2 := hidE (below_on HB1.out hb2)
      have HO2 := hidE ho2
      clear hb2 ho2
      go_wp2_with fail
      rw [join_text]
      refine (HL3.out w2 HB2.out).mono ?_
      rintro e w3 ⟨hb3, ⟨ho3, v3, rfl, hl3⟩ | ⟨j3, hj3, ho3, rfl⟩⟩
      · rw [(lw_join s t HO1.out).2, HO2.out] at ho3; cases ho3
      · have hj : (j3 : Int) = s.size + 1 + j2 := by
          rw [(lw_join s t HO1.out).2, HO2.out] at ho3
          have h4 := joined_size s t
          have := Option.some.inj ho3
          omega
        have HB3 := hidE (below_on HB2.out hb3)
        rw [hj]
        clear hj hj3 ho3 hb3
        go_wp2_with fail
        refine (num_any _ _).mono ?_
        rintro e W ⟨rfl, rfl⟩
        go_wp2_with fail
        refine (num_any _ _).mono ?_
        rintro e W ⟨rfl, rfl⟩
        go_wp2_with fail
        refine (num_any _ _).mono ?_
        rintro e W ⟨rfl, rfl⟩
        go_wp2_with fail
        refine (HW.out _ HB3.out).mono ?_
        rintro e w4 ⟨rfl, hb4⟩
        have HB4 := hidE (below_on HB3.out hb4)
        clear hb4
        go_wp2_with fail
        go_ret
        exact ⟨rfl, HB4.out⟩
  · have HB1 := hidE hb1
    clear hb1 ho1
    go_wp2_with fail
    refine (HL2.out w1 HB1.out).mono ?_
    rintro e w2 ⟨hb2, hq2⟩
    have HB2 := hidE (below_on HB1.out hb2)
    have HQ2 : Hid (∃ (u2 : Value) (i2 k2 : Int), e = .returned (.tuple #[u2, .int .i64 i2, .int .i64 k2])) := by
      rcases hq2 with ⟨_, v, rfl, _⟩ | ⟨j, _, _, rfl⟩
      · exact ⟨_, _, _, rfl⟩
      · exact ⟨_, _, _, rfl⟩
    obtain ⟨u2, i2, k2, rfl⟩ := HQ2.out
    clear hb2 hq2 HQ2
    go_wp2_with fail
    rw [join_text]
    refine (HL3.out w2 HB2.out).mono ?_
    rintro e w3 ⟨hb3, hq3⟩
    have HB3 := hidE (below_on HB2.out hb3)
    have HQ3 : Hid (∃ (u3 : Value) (i3 k3 : Int), e = .returned (.tuple #[u3, .int .i64 i3, .int .i64 k3])) := by
      rcases hq3 with ⟨_, v, rfl, _⟩ | ⟨j, _, _, rfl⟩
      · exact ⟨_, _, _, rfl⟩
      · exact ⟨_, _, _, rfl⟩
    obtain ⟨u3, i3, k3, rfl⟩ := HQ3.out
    clear hb3 hq3 HQ3
    go_wp2_with fail
    refine (num_any _ _).mono ?_
    rintro e W ⟨rfl, rfl⟩
    go_wp2_with fail
    refine (HW.out _ HB3.out).mono ?_
    rintro e w4 ⟨rfl, hb4⟩
    have HB4 := hidE (below_on HB3.out hb4)
    clear hb4
    go_wp2_with fail
    go_ret
    exact ⟨rfl, HB4.out⟩
end Go.Proofs.YtbjcdpenfijfoaaGreatDoor
