/- Rows held against each other (slices.Equal). Counts held against each other. -/
import Derived.Test.YthfilnflgahcjaaGreatDoorJoin3
import Derived.Test.YthfilnflgahcjaaGreatDoorJoin11
import Derived.Test.YthfilnflgahcjaaGreatDoorJoin8
import Derived.Test.YthfilnflgahcjaaGreatDoorJoin5
namespace Go.Proofs.YthfilnflgahcjaaGreatDoor
open Go.RowKit Go.Shelf Go.Maps
set_option linter.unusedVariables false
set_option linter.unusedSimpArgs false
attribute [local go_sem] Oper.semAt_some
theorem take_eq_step {α : Type} {xs ys : List α} {j : Nat} {x y : α} (h : xs.take j = ys.take j) (hx : xs[j]? = some x) (hy : ys[j]? = some y) (e : x = y) : xs.take (j + 1) = ys.take (j + 1) := by
  rw [List.take_add_one, List.take_add_one, h, hx, hy, e]
theorem ne_at {α : Type} {xs ys : List α} {j : Nat} {x y : α} (hx : xs[j]? = some x) (hy : ys[j]? = some y) (e : x ≠ y) : xs ≠ ys := fun h => by
  rw [h, hy] at hx
  exact e (Option.some.inj hx).symm
theorem take_all_eq {α : Type} {xs ys : List α} {j : Nat} (h : xs.take j = ys.take j) (hx : xs.length ≤ j) (hy : ys.length ≤ j) : xs = ys := by
  rwa [List.take_of_length_le hx, List.take_of_length_le hy] at h
set_option maxRecDepth 100000 in
set_option maxHeartbeats 4000000 in
theorem eq78_any (xs ys : List (ByteArray × Int)) (vx vy : Value) (B : Nat) (w : World) (hB : B ≤ w.heap.size) (hx : SRow 2 labC B w vx xs) (hy : SRow 2 labC B w vy ys) : Calls Tryz.prog 78 #[vx, vy] w fun e w' => e = .returned (.bool (decide (xs = ys))) ∧ Below w.heap.size w w' := by
  obtain ⟨xa, xc, rfl, a1, a2, a3⟩ := hx
  obtain ⟨ya, yc, rfl, b1, b2, b3⟩ := hy
  have HX := hidE a3
  have HY := hidE b3
  obtain ⟨m, hm⟩ : ∃ m, xs.length = m := ⟨_, rfl⟩
  obtain ⟨m', hm'⟩ : ∃ m, ys.length = m := ⟨_, rfl⟩
  have HM := hidE (And.intro hm hm')
  rw [hm] at a1 ⊢
  rw [hm'] at b1 ⊢
  obtain ⟨D, hD⟩ : ∃ D, decide (xs = ys) = D := ⟨_, rfl⟩
  have HD := hidE hD
  rw [hD]
  clear hD hm hm' a3 b3
  by_cases hl : m = m'
  · subst hl
    go_enter Tryz.func78, Tryz.ntmps78
    go_wp2_with fail
    go_loopw [13] (fun i wr => ∃ (j : Nat), j ≤ m ∧ i = .int .i64 j ∧ xs.take j = ys.take j ∧ Below w.heap.size w wr) (fun i _ => m - (intOf i).toNat)
    case atStart => exact ⟨0, Nat.zero_le _, rfl, rfl, Below.refl _ _⟩
    case round =>
      obtain ⟨j, hj, rfl, hte, hbr⟩ := hrel
      have HTE := hidE hte
      have HBR := hidE hbr
      clear hte hbr
      by_cases hlt : j < m
      · have hlt' : (j : Int) < m := by omega
        obtain ⟨⟨x0, x1⟩, hx⟩ : ∃ q, xs[j]? = some q := ⟨_, List.getElem?_eq_getElem (by have := HM.out.1; omega)⟩
        obtain ⟨⟨y0, y1⟩, hy⟩ : ∃ q, ys[j]? = some q := ⟨_, List.getElem?_eq_getElem (by have := HM.out.2; omega)⟩
        obtain ⟨bl, off, rfl, hbl, hc⟩ := HX.out.resolve_left (by intro e; rw [e] at hx; simp at hx)
        obtain ⟨bl', off', rfl, hbl', hc'⟩ := HY.out.resolve_left (by intro e; rw [e] at hy; simp at hy)
        have c0 := (HBR.out.cell (p := ⟨bl, off + j * 2 + 0, none⟩) (Nat.lt_of_lt_of_le hbl hB)).trans (hc j _ hx 0 _ rfl)
        have d0 := (HBR.out.cell (p := ⟨bl', off' + j * 2 + 0, none⟩) (Nat.lt_of_lt_of_le hbl' hB)).trans (hc' j _ hy 0 _ rfl)
        have c1 := (HBR.out.cell (p := ⟨bl, off + j * 2 + 1, none⟩) (Nat.lt_of_lt_of_le hbl hB)).trans (hc j _ hx 1 _ rfl)
        have d1 := (HBR.out.cell (p := ⟨bl', off' + j * 2 + 1, none⟩) (Nat.lt_of_lt_of_le hbl' hB)).trans (hc' j _ hy 1 _ rfl)
        rw [Nat.add_zero] at c0 d0
        simp only at c0 d0 c1 d1
        have fx0 : ∀ u : Up wr, u.x.cell? ⟨bl, off + j * 2, none⟩ = some (.string x0) := fun u => u.cell c0
        have fy0 : ∀ u : Up wr, u.x.cell? ⟨bl', off' + j * 2, none⟩ = some (.string y0) := fun u => u.cell d0
        have fx1 : ∀ u : Up wr, u.x.cell? ⟨bl, off + j * 2 + 1, none⟩ = some (.int .i64 x1) := fun u => u.cell c1
        have fy1 : ∀ u : Up wr, u.x.cell? ⟨bl', off' + j * 2 + 1, none⟩ = some (.int .i64 y1) := fun u => u.cell d1
        have up_ne : Nonempty (Up wr) := ⟨⟨wr, Below.refl _ _⟩⟩
        have HXY := hidE (And.intro hx hy)
        clear hx hy hc hc' c0 d0 c1 d1
        by_cases e0 : x0 = y0
        · subst e0
          have b0 := str_yes (rfl : x0 = x0)
          by_cases e1 : x1 = y1
          · subst e1
            have b1 : (x1 == x1) = true := beq_self_eq_true _
            have HS := hidE (take_eq_step HTE.out HXY.out.1 HXY.out.2 rfl)
            go_upto_region 6 with fail
            refine wp_up (by kernel_rfl) (by kernel_rfl) ?_
            repeat (go_big_quiet_step (fail))
            refine wpQuiet_nil ?_
            rintro w4 ⟨⟨W4, hb4⟩, rfl⟩
            have HB4 := hidE (Below.on HBR.out hb4)
            clear fx0 fy0 fx1 fy1 up_ne hb4
            go_wp2_with fail
            go_roundw
            case rel => exact ⟨j + 1, by omega, by go_num, HS.out, HB4.out⟩
            case measure => simp [intOf]; omega
          · have b1 : (x1 == y1) = false := beq_eq_false_iff_ne.2 e1
            have HF : Hid (D = false) := by
              show _ = _
              rw [← HD.out]
              exact decide_eq_false (ne_at HXY.out.1 HXY.out.2 fun e => e1 (by injections))
            clear e1
            go_upto_region 6 with fail
            refine wp_up (by kernel_rfl) (by kernel_rfl) ?_
            repeat (go_big_quiet_step (fail))
            refine wpQuiet_nil ?_
            rintro w4 ⟨⟨W4, hb4⟩, rfl⟩
            have HB4 := hidE (Below.on HBR.out hb4)
            clear fx0 fy0 fx1 fy1 up_ne hb4
            go_wp2_with fail
            go_ret
            exact ⟨by rw [HF.out]; rfl, HB4.out⟩
        · have b0 := str_no e0
          have HF : Hid (D = false) := by
            show _ = _
            rw [← HD.out]
            exact decide_eq_false (ne_at HXY.out.1 HXY.out.2 fun e => e0 (by injections))
          clear e0
          go_upto_region 6 with fail
          refine wp_up (by kernel_rfl) (by kernel_rfl) ?_
          repeat (go_big_quiet_step (fail))
          refine wpQuiet_nil ?_
          rintro w4 ⟨⟨W4, hb4⟩, rfl⟩
          have HB4 := hidE (Below.on HBR.out hb4)
          clear fx0 fy0 fx1 fy1 up_ne hb4
          go_wp2_with fail
          go_ret
          exact ⟨by rw [HF.out]; rfl, HB4.out⟩
      · have hlt' : ¬ (j : Int) < m := by omega
        have HF : Hid (D = true) := by
          show _ = _
          rw [← HD.out]
          exact decide_eq_true (take_all_eq HTE.out (by have := HM.out.1; omega) (by have := HM.out.2; omega))
        go_wp2_with fail
        go_ret
        exact ⟨by rw [HF.out]; rfl, HBR.out⟩
  · have HF : Hid (D = false) := by
      show _ = _
      rw [← HD.out]
      exact decide_eq_false fun e => hl (by rw [← HM.out.1, ← HM.out.2, e])
    have hl' : ((m : Int) == m') = false := by
      apply beq_eq_false_iff_ne.2
      omega
    go_enter Tryz.func78, Tryz.ntmps78
    go_wp2_with fail
    go_ret
    exact ⟨by rw [HF.out]; rfl, Below.refl _ _⟩
set_option maxRecDepth 100000 in
set_option maxHeartbeats 4000000 in
theorem eq79_any (xs ys : List (ByteArray × Int)) (vx vy : Value) (B : Nat) (w : World) (hB : B ≤ w.heap.size) (hx : SRow 2 labC B w vx xs) (hy : SRow 2 labC B w vy ys) : Calls Tryz.prog 79 #[vx, vy] w fun e w' => e = .returned (.bool (decide (xs = ys))) ∧ Below w.heap.size w w' := by
  obtain ⟨xa, xc, rfl, a1, a2, a3⟩ := hx
  obtain ⟨ya, yc, rfl, b1, b2, b3⟩ := hy
  have HX := hidE a3
  have HY := hidE b3
  obtain ⟨m, hm⟩ : ∃ m, xs.length = m := ⟨_, rfl⟩
  obtain ⟨m', hm'⟩ : ∃ m, ys.length = m := ⟨_, rfl⟩
  have HM := hidE (And.intro hm hm')
  rw [hm] at a1 ⊢
  rw [hm'] at b1 ⊢
  obtain ⟨D, hD⟩ : ∃ D, decide (xs = ys) = D := ⟨_, rfl⟩
  have HD := hidE hD
  rw [hD]
  clear hD hm hm' a3 b3
  by_cases hl : m = m'
  · subst hl
    go_enter Tryz.func79, Tryz.ntmps79
    go_wp2_with fail
    go_loopw [13] (fun i wr => ∃ (j : Nat), j ≤ m ∧ i = .int .i64 j ∧ xs.take j = ys.take j ∧ Below w.heap.size w wr) (fun i _ => m - (intOf i).toNat)
    case atStart => exact ⟨0, Nat.zero_le _, rfl, rfl, Below.refl _ _⟩
    case round =>
      obtain ⟨j, hj, rfl, hte, hbr⟩ := hrel
      have HTE := hidE hte
      have HBR := hidE hbr
      clear hte hbr
      by_cases hlt : j < m
      · have hlt' : (j : Int) < m := by omega
        obtain ⟨⟨x0, x1⟩, hx⟩ : ∃ q, xs[j]? = some q := ⟨_, List.getElem?_eq_getElem (by have := HM.out.1; omega)⟩
        obtain ⟨⟨y0, y1⟩, hy⟩ : ∃ q, ys[j]? = some q := ⟨_, List.getElem?_eq_getElem (by have := HM.out.2; omega)⟩
        obtain ⟨bl, off, rfl, hbl, hc⟩ := HX.out.resolve_left (by intro e; rw [e] at hx; simp at hx)
        obtain ⟨bl', off', rfl, hbl', hc'⟩ := HY.out.resolve_left (by intro e; rw [e] at hy; simp at hy)
        have c0 := (HBR.out.cell (p := ⟨bl, off + j * 2 + 0, none⟩) (Nat.lt_of_lt_of_le hbl hB)).trans (hc j _ hx 0 _ rfl)
        have d0 := (HBR.out.cell (p := ⟨bl', off' + j * 2 + 0, none⟩) (Nat.lt_of_lt_of_le hbl' hB)).trans (hc' j _ hy 0 _ rfl)
        have c1 := (HBR.out.cell (p := ⟨bl, off + j * 2 + 1, none⟩) (Nat.lt_of_lt_of_le hbl hB)).trans (hc j _ hx 1 _ rfl)
        have d1 := (HBR.out.cell (p := ⟨bl', off' + j * 2 + 1, none⟩) (Nat.lt_of_lt_of_le hbl' hB)).trans (hc' j _ hy 1 _ rfl)
        rw [Nat.add_zero] at c0 d0
        simp only at c0 d0 c1 d1
        have fx0 : ∀ u : Up wr, u.x.cell? ⟨bl, off + j * 2, none⟩ = some (.string x0) := fun u => u.cell c0
        have fy0 : ∀ u : Up wr, u.x.cell? ⟨bl', off' + j * 2, none⟩ = some (.string y0) := fun u => u.cell d0
        have fx1 : ∀ u : Up wr, u.x.cell? ⟨bl, off + j * 2 + 1, none⟩ = some (.int .i64 x1) := fun u => u.cell c1
        have fy1 : ∀ u : Up wr, u.x.cell? ⟨bl', off' + j * 2 + 1, none⟩ = some (.int .i64 y1) := fun u => u.cell d1
        have up_ne : Nonempty (Up wr) := ⟨⟨wr, Below.refl _ _⟩⟩
        have HXY := hidE (And.intro hx hy)
        clear hx hy hc hc' c0 d0 c1 d1
        by_cases e0 : x0 = y0
        · subst e0
          have b0 := str_yes (rfl : x0 = x0)
          by_cases e1 : x1 = y1
          · subst e1
            have b1 : (x1 == x1) = true := beq_self_eq_true _
            have HS := hidE (take_eq_step HTE.out HXY.out.1 HXY.out.2 rfl)
            go_upto_region 6 with fail
            refine wp_up (by kernel_rfl) (by kernel_rfl) ?_
            repeat (go_big_quiet_step (fail))
            refine wpQuiet_nil ?_
            rintro w4 ⟨⟨W4, hb4⟩, rfl⟩
            have HB4 := hidE (Below.on HBR.out hb4)
            clear fx0 fy0 fx1 fy1 up_ne hb4
            go_wp2_with fail
            go_roundw
            case rel => exact ⟨j + 1, by omega, by go_num, HS.out, HB4.out⟩
            case measure => simp [intOf]; omega
          · have b1 : (x1 == y1) = false := beq_eq_false_iff_ne.2 e1
            have HF : Hid (D = false) := by
              show _ = _
              rw [← HD.out]
              exact decide_eq_false (ne_at HXY.out.1 HXY.out.2 fun e => e1 (by injections))
            clear e1
            go_upto_region 6 with fail
            refine wp_up (by kernel_rfl) (by kernel_rfl) ?_
            repeat (go_big_quiet_step (fail))
            refine wpQuiet_nil ?_
            rintro w4 ⟨⟨W4, hb4⟩, rfl⟩
            have HB4 := hidE (Below.on HBR.out hb4)
            clear fx0 fy0 fx1 fy1 up_ne hb4
            go_wp2_with fail
            go_ret
            exact ⟨by rw [HF.out]; rfl, HB4.out⟩
        · have b0 := str_no e0
          have HF : Hid (D = false) := by
            show _ = _
            rw [← HD.out]
            exact decide_eq_false (ne_at HXY.out.1 HXY.out.2 fun e => e0 (by injections))
          clear e0
          go_upto_region 6 with fail
          refine wp_up (by kernel_rfl) (by kernel_rfl) ?_
          repeat (go_big_quiet_step (fail))
          refine wpQuiet_nil ?_
          rintro w4 ⟨⟨W4, hb4⟩, rfl⟩
          have HB4 := hidE (Below.on HBR.out hb4)
          clear fx0 fy0 fx1 fy1 up_ne hb4
          go_wp2_with fail
          go_ret
          exact ⟨by rw [HF.out]; rfl, HB4.out⟩
      · have hlt' : ¬ (j : Int) < m := by omega
        have HF : Hid (D = true) := by
          show _ = _
          rw [← HD.out]
          exact decide_eq_true (take_all_eq HTE.out (by have := HM.out.1; omega) (by have := HM.out.2; omega))
        go_wp2_with fail
        go_ret
        exact ⟨by rw [HF.out]; rfl, HBR.out⟩
  · have HF : Hid (D = false) := by
      show _ = _
      rw [← HD.out]
      exact decide_eq_false fun e => hl (by rw [← HM.out.1, ← HM.out.2, e])
    have hl' : ((m : Int) == m') = false := by
      apply beq_eq_false_iff_ne.2
      omega
    go_enter Tryz.func79, Tryz.ntmps79
    go_wp2_with fail
    go_ret
    exact ⟨by rw [HF.out]; rfl, Below.refl _ _⟩
set_option maxRecDepth 100000 in
set_option maxHeartbeats 4000000 in
theorem eq80_any (xs ys : List (EndR)) (vx vy : Value) (B : Nat) (w : World) (hB : B ≤ w.heap.size) (hx : SRow 4 endC B w vx xs) (hy : SRow 4 endC B w vy ys) : Calls Tryz.prog 80 #[vx, vy] w fun e w' => e = .returned (.bool (decide (xs = ys))) ∧ Below w.heap.size w w' := by
  obtain ⟨xa, xc, rfl, a1, a2, a3⟩ := hx
  obtain ⟨ya, yc, rfl, b1, b2, b3⟩ := hy
  have HX := hidE a3
  have HY := hidE b3
  obtain ⟨m, hm⟩ : ∃ m, xs.length = m := ⟨_, rfl⟩
  obtain ⟨m', hm'⟩ : ∃ m, ys.length = m := ⟨_, rfl⟩
  have HM := hidE (And.intro hm hm')
  rw [hm] at a1 ⊢
  rw [hm'] at b1 ⊢
  obtain ⟨D, hD⟩ : ∃ D, decide (xs = ys) = D := ⟨_, rfl⟩
  have HD := hidE hD
  rw [hD]
  clear hD hm hm' a3 b3
  by_cases hl : m = m'
  · subst hl
    go_enter Tryz.func80, Tryz.ntmps80
    go_wp2_with fail
    go_loopw [13] (fun i wr => ∃ (j : Nat), j ≤ m ∧ i = .int .i64 j ∧ xs.take j = ys.take j ∧ Below w.heap.size w wr) (fun i _ => m - (intOf i).toNat)
    case atStart => exact ⟨0, Nat.zero_le _, rfl, rfl, Below.refl _ _⟩
    case round =>
      obtain ⟨j, hj, rfl, hte, hbr⟩ := hrel
      have HTE := hidE hte
      have HBR := hidE hbr
      clear hte hbr
      by_cases hlt : j < m
      · have hlt' : (j : Int) < m := by omega
        obtain ⟨⟨x0, x1, x2, x3⟩, hx⟩ : ∃ q, xs[j]? = some q := ⟨_, List.getElem?_eq_getElem (by have := HM.out.1; omega)⟩
        obtain ⟨⟨y0, y1, y2, y3⟩, hy⟩ : ∃ q, ys[j]? = some q := ⟨_, List.getElem?_eq_getElem (by have := HM.out.2; omega)⟩
        obtain ⟨bl, off, rfl, hbl, hc⟩ := HX.out.resolve_left (by intro e; rw [e] at hx; simp at hx)
        obtain ⟨bl', off', rfl, hbl', hc'⟩ := HY.out.resolve_left (by intro e; rw [e] at hy; simp at hy)
        have c0 := (HBR.out.cell (p := ⟨bl, off + j * 4 + 0, none⟩) (Nat.lt_of_lt_of_le hbl hB)).trans (hc j _ hx 0 _ rfl)
        have d0 := (HBR.out.cell (p := ⟨bl', off' + j * 4 + 0, none⟩) (Nat.lt_of_lt_of_le hbl' hB)).trans (hc' j _ hy 0 _ rfl)
        have c1 := (HBR.out.cell (p := ⟨bl, off + j * 4 + 1, none⟩) (Nat.lt_of_lt_of_le hbl hB)).trans (hc j _ hx 1 _ rfl)
        have d1 := (HBR.out.cell (p := ⟨bl', off' + j * 4 + 1, none⟩) (Nat.lt_of_lt_of_le hbl' hB)).trans (hc' j _ hy 1 _ rfl)
        have c2 := (HBR.out.cell (p := ⟨bl, off + j * 4 + 2, none⟩) (Nat.lt_of_lt_of_le hbl hB)).trans (hc j _ hx 2 _ rfl)
        have d2 := (HBR.out.cell (p := ⟨bl', off' + j * 4 + 2, none⟩) (Nat.lt_of_lt_of_le hbl' hB)).trans (hc' j _ hy 2 _ rfl)
        have c3 := (HBR.out.cell (p := ⟨bl, off + j * 4 + 3, none⟩) (Nat.lt_of_lt_of_le hbl hB)).trans (hc j _ hx 3 _ rfl)
        have d3 := (HBR.out.cell (p := ⟨bl', off' + j * 4 + 3, none⟩) (Nat.lt_of_lt_of_le hbl' hB)).trans (hc' j _ hy 3 _ rfl)
        rw [Nat.add_zero] at c0 d0
        simp only at c0 d0 c1 d1 c2 d2 c3 d3
        have fx0 : ∀ u : Up wr, u.x.cell? ⟨bl, off + j * 4, none⟩ = some (.string x0) := fun u => u.cell c0
        have fy0 : ∀ u : Up wr, u.x.cell? ⟨bl', off' + j * 4, none⟩ = some (.string y0) := fun u => u.cell d0
        have fx1 : ∀ u : Up wr, u.x.cell? ⟨bl, off + j * 4 + 1, none⟩ = some (.string x1) := fun u => u.cell c1
        have fy1 : ∀ u : Up wr, u.x.cell? ⟨bl', off' + j * 4 + 1, none⟩ = some (.string y1) := fun u => u.cell d1
        have fx2 : ∀ u : Up wr, u.x.cell? ⟨bl, off + j * 4 + 2, none⟩ = some (.bool x2) := fun u => u.cell c2
        have fy2 : ∀ u : Up wr, u.x.cell? ⟨bl', off' + j * 4 + 2, none⟩ = some (.bool y2) := fun u => u.cell d2
        have fx3 : ∀ u : Up wr, u.x.cell? ⟨bl, off + j * 4 + 3, none⟩ = some (.int .i64 x3) := fun u => u.cell c3
        have fy3 : ∀ u : Up wr, u.x.cell? ⟨bl', off' + j * 4 + 3, none⟩ = some (.int .i64 y3) := fun u => u.cell d3
        have up_ne : Nonempty (Up wr) := ⟨⟨wr, Below.refl _ _⟩⟩
        have HXY := hidE (And.intro hx hy)
        clear hx hy hc hc' c0 d0 c1 d1 c2 d2 c3 d3
        by_cases e0 : x0 = y0
        · subst e0
          have b0 := str_yes (rfl : x0 = x0)
          by_cases e1 : x1 = y1
          · subst e1
            have b1 := str_yes (rfl : x1 = x1)
            by_cases e2 : x2 = y2
            · subst e2
              have b2 : (x2 == x2) = true := beq_self_eq_true _
              by_cases e3 : x3 = y3
              · subst e3
                have b3 : (x3 == x3) = true := beq_self_eq_true _
                have HS := hidE (take_eq_step HTE.out HXY.out.1 HXY.out.2 rfl)
                go_upto_region 6 with fail
                refine wp_up (by kernel_rfl) (by kernel_rfl) ?_
                repeat (go_big_quiet_step (fail))
                refine wpQuiet_nil ?_
                rintro w4 ⟨⟨W4, hb4⟩, rfl⟩
                have HB4 := hidE (Below.on HBR.out hb4)
                clear fx0 fy0 fx1 fy1 fx2 fy2 fx3 fy3 up_ne hb4
                go_wp2_with fail
                go_roundw
                case rel => exact ⟨j + 1, by omega, by go_num, HS.out, HB4.out⟩
                case measure => simp [intOf]; omega
              · have b3 : (x3 == y3) = false := beq_eq_false_iff_ne.2 e3
                have HF : Hid (D = false) := by
                  show _ = _
                  rw [← HD.out]
                  exact decide_eq_false (ne_at HXY.out.1 HXY.out.2 fun e => e3 (by injections))
                clear e3
                go_upto_region 6 with fail
                refine wp_up (by kernel_rfl) (by kernel_rfl) ?_
                repeat (go_big_quiet_step (fail))
                refine wpQuiet_nil ?_
                rintro w4 ⟨⟨W4, hb4⟩, rfl⟩
                have HB4 := hidE (Below.on HBR.out hb4)
                clear fx0 fy0 fx1 fy1 fx2 fy2 fx3 fy3 up_ne hb4
                go_wp2_with fail
                go_ret
                exact ⟨by rw [HF.out]; rfl, HB4.out⟩
            · have b2 : (x2 == y2) = false := beq_eq_false_iff_ne.2 e2
              have HF : Hid (D = false) := by
                show _ = _
                rw [← HD.out]
                exact decide_eq_false (ne_at HXY.out.1 HXY.out.2 fun e => e2 (by injections))
              clear e2
              go_upto_region 6 with fail
              refine wp_up (by kernel_rfl) (by kernel_rfl) ?_
              repeat (go_big_quiet_step (fail))
              refine wpQuiet_nil ?_
              rintro w4 ⟨⟨W4, hb4⟩, rfl⟩
              have HB4 := hidE (Below.on HBR.out hb4)
              clear fx0 fy0 fx1 fy1 fx2 fy2 fx3 fy3 up_ne hb4
              go_wp2_with fail
              go_ret
              exact ⟨by rw [HF.out]; rfl, HB4.out⟩
          · have b1 := str_no e1
            have HF : Hid (D = false) := by
              show _ = _
              rw [← HD.out]
              exact decide_eq_false (ne_at HXY.out.1 HXY.out.2 fun e => e1 (by injections))
            clear e1
            go_upto_region 6 with fail
            refine wp_up (by kernel_rfl) (by kernel_rfl) ?_
            repeat (go_big_quiet_step (fail))
            refine wpQuiet_nil ?_
            rintro w4 ⟨⟨W4, hb4⟩, rfl⟩
            have HB4 := hidE (Below.on HBR.out hb4)
            clear fx0 fy0 fx1 fy1 fx2 fy2 fx3 fy3 up_ne hb4
            go_wp2_with fail
            go_ret
            exact ⟨by rw [HF.out]; rfl, HB4.out⟩
        · have b0 := str_no e0
          have HF : Hid (D = false) := by
            show _ = _
            rw [← HD.out]
            exact decide_eq_false (ne_at HXY.out.1 HXY.out.2 fun e => e0 (by injections))
          clear e0
          go_upto_region 6 with fail
          refine wp_up (by kernel_rfl) (by kernel_rfl) ?_
          repeat (go_big_quiet_step (fail))
          refine wpQuiet_nil ?_
          rintro w4 ⟨⟨W4, hb4⟩, rfl⟩
          have HB4 := hidE (Below.on HBR.out hb4)
          clear fx0 fy0 fx1 fy1 fx2 fy2 fx3 fy3 up_ne hb4
          go_wp2_with fail
          go_ret
          exact ⟨by rw [HF.out]; rfl, HB4.out⟩
      · have hlt' : ¬ (j : Int) < m := by omega
        have HF : Hid (D = true) := by
          show _ = _
          rw [← HD.out]
          exact decide_eq_true (take_all_eq HTE.out (by have := HM.out.1; omega) (by have := HM.out.2; omega))
        go_wp2_with fail
        go_ret
        exact ⟨by rw [HF.out]; rfl, HBR.out⟩
  · have HF : Hid (D = false) := by
      show _ = _
      rw [← HD.out]
      exact decide_eq_false fun e => hl (by rw [← HM.out.1, ← HM.out.2, e])
    have hl' : ((m : Int) == m') = false := by
      apply beq_eq_false_iff_ne.2
      omega
    go_enter Tryz.func80, Tryz.ntmps80
    go_wp2_with fail
    go_ret
    exact ⟨by rw [HF.out]; rfl, Below.refl _ _⟩
set_option maxRecDepth 100000 in
set_option maxHeartbeats 4000000 in
theorem eq81_any (xs ys : List (KeyR)) (vx vy : Value) (B : Nat) (w : World) (hB : B ≤ w.heap.size) (hx : SRow 4 keyC B w vx xs) (hy : SRow 4 keyC B w vy ys) : Calls Tryz.prog 81 #[vx, vy] w fun e w' => e = .returned (.bool (decide (xs = ys))) ∧ Below w.heap.size w w' := by
  obtain ⟨xa, xc, rfl, a1, a2, a3⟩ := hx
  obtain ⟨ya, yc, rfl, b1, b2, b3⟩ := hy
  have HX := hidE a3
  have HY := hidE b3
  obtain ⟨m, hm⟩ : ∃ m, xs.length = m := ⟨_, rfl⟩
  obtain ⟨m', hm'⟩ : ∃ m, ys.length = m := ⟨_, rfl⟩
  have HM := hidE (And.intro hm hm')
  rw [hm] at a1 ⊢
  rw [hm'] at b1 ⊢
  obtain ⟨D, hD⟩ : ∃ D, decide (xs = ys) = D := ⟨_, rfl⟩
  have HD := hidE hD
  rw [hD]
  clear hD hm hm' a3 b3
  by_cases hl : m = m'
  · subst hl
    go_enter Tryz.func81, Tryz.ntmps81
    go_wp2_with fail
    go_loopw [13] (fun i wr => ∃ (j : Nat), j ≤ m ∧ i = .int .i64 j ∧ xs.take j = ys.take j ∧ Below w.heap.size w wr) (fun i _ => m - (intOf i).toNat)
    case atStart => exact ⟨0, Nat.zero_le _, rfl, rfl, Below.refl _ _⟩
    case round =>
      obtain ⟨j, hj, rfl, hte, hbr⟩ := hrel
      have HTE := hidE hte
      have HBR := hidE hbr
      clear hte hbr
      by_cases hlt : j < m
      · have hlt' : (j : Int) < m := by omega
        obtain ⟨⟨x0, x1, x2, x3⟩, hx⟩ : ∃ q, xs[j]? = some q := ⟨_, List.getElem?_eq_getElem (by have := HM.out.1; omega)⟩
        obtain ⟨⟨y0, y1, y2, y3⟩, hy⟩ : ∃ q, ys[j]? = some q := ⟨_, List.getElem?_eq_getElem (by have := HM.out.2; omega)⟩
        obtain ⟨bl, off, rfl, hbl, hc⟩ := HX.out.resolve_left (by intro e; rw [e] at hx; simp at hx)
        obtain ⟨bl', off', rfl, hbl', hc'⟩ := HY.out.resolve_left (by intro e; rw [e] at hy; simp at hy)
        have c0 := (HBR.out.cell (p := ⟨bl, off + j * 4 + 0, none⟩) (Nat.lt_of_lt_of_le hbl hB)).trans (hc j _ hx 0 _ rfl)
        have d0 := (HBR.out.cell (p := ⟨bl', off' + j * 4 + 0, none⟩) (Nat.lt_of_lt_of_le hbl' hB)).trans (hc' j _ hy 0 _ rfl)
        have c1 := (HBR.out.cell (p := ⟨bl, off + j * 4 + 1, none⟩) (Nat.lt_of_lt_of_le hbl hB)).trans (hc j _ hx 1 _ rfl)
        have d1 := (HBR.out.cell (p := ⟨bl', off' + j * 4 + 1, none⟩) (Nat.lt_of_lt_of_le hbl' hB)).trans (hc' j _ hy 1 _ rfl)
        have c2 := (HBR.out.cell (p := ⟨bl, off + j * 4 + 2, none⟩) (Nat.lt_of_lt_of_le hbl hB)).trans (hc j _ hx 2 _ rfl)
        have d2 := (HBR.out.cell (p := ⟨bl', off' + j * 4 + 2, none⟩) (Nat.lt_of_lt_of_le hbl' hB)).trans (hc' j _ hy 2 _ rfl)
        have c3 := (HBR.out.cell (p := ⟨bl, off + j * 4 + 3, none⟩) (Nat.lt_of_lt_of_le hbl hB)).trans (hc j _ hx 3 _ rfl)
        have d3 := (HBR.out.cell (p := ⟨bl', off' + j * 4 + 3, none⟩) (Nat.lt_of_lt_of_le hbl' hB)).trans (hc' j _ hy 3 _ rfl)
        rw [Nat.add_zero] at c0 d0
        simp only at c0 d0 c1 d1 c2 d2 c3 d3
        have fx0 : ∀ u : Up wr, u.x.cell? ⟨bl, off + j * 4, none⟩ = some (.string x0) := fun u => u.cell c0
        have fy0 : ∀ u : Up wr, u.x.cell? ⟨bl', off' + j * 4, none⟩ = some (.string y0) := fun u => u.cell d0
        have fx1 : ∀ u : Up wr, u.x.cell? ⟨bl, off + j * 4 + 1, none⟩ = some (.string x1) := fun u => u.cell c1
        have fy1 : ∀ u : Up wr, u.x.cell? ⟨bl', off' + j * 4 + 1, none⟩ = some (.string y1) := fun u => u.cell d1
        have fx2 : ∀ u : Up wr, u.x.cell? ⟨bl, off + j * 4 + 2, none⟩ = some (.int .i64 x2) := fun u => u.cell c2
        have fy2 : ∀ u : Up wr, u.x.cell? ⟨bl', off' + j * 4 + 2, none⟩ = some (.int .i64 y2) := fun u => u.cell d2
        have fx3 : ∀ u : Up wr, u.x.cell? ⟨bl, off + j * 4 + 3, none⟩ = some (.int .i64 x3) := fun u => u.cell c3
        have fy3 : ∀ u : Up wr, u.x.cell? ⟨bl', off' + j * 4 + 3, none⟩ = some (.int .i64 y3) := fun u => u.cell d3
        have up_ne : Nonempty (Up wr) := ⟨⟨wr, Below.refl _ _⟩⟩
        have HXY := hidE (And.intro hx hy)
        clear hx hy hc hc' c0 d0 c1 d1 c2 d2 c3 d3
        by_cases e0 : x0 = y0
        · subst e0
          have b0 := str_yes (rfl : x0 = x0)
          by_cases e1 : x1 = y1
          · subst e1
            have b1 := str_yes (rfl : x1 = x1)
            by_cases e2 : x2 = y2
            · subst e2
              have b2 : (x2 == x2) = true := beq_self_eq_true _
              by_cases e3 : x3 = y3
              · subst e3
                have b3 : (x3 == x3) = true := beq_self_eq_true _
                have HS := hidE (take_eq_step HTE.out HXY.out.1 HXY.out.2 rfl)
                go_upto_region 6 with fail
                refine wp_up (by kernel_rfl) (by kernel_rfl) ?_
                repeat (go_big_quiet_step (fail))
                refine wpQuiet_nil ?_
                rintro w4 ⟨⟨W4, hb4⟩, rfl⟩
                have HB4 := hidE (Below.on HBR.out hb4)
                clear fx0 fy0 fx1 fy1 fx2 fy2 fx3 fy3 up_ne hb4
                go_wp2_with fail
                go_roundw
                case rel => exact ⟨j + 1, by omega, by go_num, HS.out, HB4.out⟩
                case measure => simp [intOf]; omega
              · have b3 : (x3 == y3) = false := beq_eq_false_iff_ne.2 e3
                have HF : Hid (D = false) := by
                  show _ = _
                  rw [← HD.out]
                  exact decide_eq_false (ne_at HXY.out.1 HXY.out.2 fun e => e3 (by injections))
                clear e3
                go_upto_region 6 with fail
                refine wp_up (by kernel_rfl) (by kernel_rfl) ?_
                repeat (go_big_quiet_step (fail))
                refine wpQuiet_nil ?_
                rintro w4 ⟨⟨W4, hb4⟩, rfl⟩
                have HB4 := hidE (Below.on HBR.out hb4)
                clear fx0 fy0 fx1 fy1 fx2 fy2 fx3 fy3 up_ne hb4
                go_wp2_with fail
                go_ret
                exact ⟨by rw [HF.out]; rfl, HB4.out⟩
            · have b2 : (x2 == y2) = false := beq_eq_false_iff_ne.2 e2
              have HF : Hid (D = false) := by
                show _ = _
                rw [← HD.out]
                exact decide_eq_false (ne_at HXY.out.1 HXY.out.2 fun e => e2 (by injections))
              clear e2
              go_upto_region 6 with fail
              refine wp_up (by kernel_rfl) (by kernel_rfl) ?_
              repeat (go_big_quiet_step (fail))
              refine wpQuiet_nil ?_
              rintro w4 ⟨⟨W4, hb4⟩, rfl⟩
              have HB4 := hidE (Below.on HBR.out hb4)
              clear fx0 fy0 fx1 fy1 fx2 fy2 fx3 fy3 up_ne hb4
              go_wp2_with fail
              go_ret
              exact ⟨by rw [HF.out]; rfl, HB4.out⟩
          · have b1 := str_no e1
            have HF : Hid (D = false) := by
              show _ = _
              rw [← HD.out]
              exact decide_eq_false (ne_at HXY.out.1 HXY.out.2 fun e => e1 (by injections))
            clear e1
            go_upto_region 6 with fail
            refine wp_up (by kernel_rfl) (by kernel_rfl) ?_
            repeat (go_big_quiet_step (fail))
            refine wpQuiet_nil ?_
            rintro w4 ⟨⟨W4, hb4⟩, rfl⟩
            have HB4 := hidE (Below.on HBR.out hb4)
            clear fx0 fy0 fx1 fy1 fx2 fy2 fx3 fy3 up_ne hb4
            go_wp2_with fail
            go_ret
            exact ⟨by rw [HF.out]; rfl, HB4.out⟩
        · have b0 := str_no e0
          have HF : Hid (D = false) := by
            show _ = _
            rw [← HD.out]
            exact decide_eq_false (ne_at HXY.out.1 HXY.out.2 fun e => e0 (by injections))
          clear e0
          go_upto_region 6 with fail
          refine wp_up (by kernel_rfl) (by kernel_rfl) ?_
          repeat (go_big_quiet_step (fail))
          refine wpQuiet_nil ?_
          rintro w4 ⟨⟨W4, hb4⟩, rfl⟩
          have HB4 := hidE (Below.on HBR.out hb4)
          clear fx0 fy0 fx1 fy1 fx2 fy2 fx3 fy3 up_ne hb4
          go_wp2_with fail
          go_ret
          exact ⟨by rw [HF.out]; rfl, HB4.out⟩
      · have hlt' : ¬ (j : Int) < m := by omega
        have HF : Hid (D = true) := by
          show _ = _
          rw [← HD.out]
          exact decide_eq_true (take_all_eq HTE.out (by have := HM.out.1; omega) (by have := HM.out.2; omega))
        go_wp2_with fail
        go_ret
        exact ⟨by rw [HF.out]; rfl, HBR.out⟩
  · have HF : Hid (D = false) := by
      show _ = _
      rw [← HD.out]
      exact decide_eq_false fun e => hl (by rw [← HM.out.1, ← HM.out.2, e])
    have hl' : ((m : Int) == m') = false := by
      apply beq_eq_false_iff_ne.2
      omega
    go_enter Tryz.func81, Tryz.ntmps81
    go_wp2_with fail
    go_ret
    exact ⟨by rw [HF.out]; rfl, Below.refl _ _⟩
end Go.Proofs.YthfilnflgahcjaaGreatDoor

namespace Go.Proofs.YthfilnflgahcjaaGreatDoor
open Go.RowKit Go.Shelf Go.Maps
set_option linter.unusedVariables false
set_option linter.unusedSimpArgs false
attribute [local go_sem] Oper.semAt_some
def sameB (a b : StatP) : Bool := decide (a.nodes = b.nodes) && (decide (a.rels = b.rels) && (decide (a.labels = b.labels) && (decide (a.types = b.types) && (decide (a.ends = b.ends) && decide (a.keys = b.keys)))))
theorem sameB_self (a : StatP) : sameB a a = true := by simp [sameB]
set_option maxRecDepth 100000 in
set_option maxHeartbeats 16000000 in
theorem same_any38 (a b : StatP) (vl vt ve vk ul ut ue uk : Value) (B : Nat) (w : World) (hB : B ≤ w.heap.size) (ha : StatL B w vl vt ve vk a) (hb : StatL B w ul ut ue uk b) : Calls Tryz.prog 38 #[statV a vl vt ve vk, statV b ul ut ue uk] w fun e w' => e = .returned (.bool (sameB a b)) ∧ Below w.heap.size w w' := by
  obtain ⟨pla, plc, rfl, pl1, pl2, -⟩ := ha.hl
  obtain ⟨pta, ptc, rfl, pt1, pt2, -⟩ := ha.ht
  obtain ⟨pea, pec, rfl, pe1, pe2, -⟩ := ha.he
  obtain ⟨pka, pkc, rfl, pk1, pk2, -⟩ := ha.hk
  obtain ⟨qla, qlc, rfl, ql1, ql2, -⟩ := hb.hl
  obtain ⟨qta, qtc, rfl, qt1, qt2, -⟩ := hb.ht
  obtain ⟨qea, qec, rfl, qe1, qe2, -⟩ := hb.he
  obtain ⟨qka, qkc, rfl, qk1, qk2, -⟩ := hb.hk
  unfold statV
  obtain ⟨pn, hpn⟩ : ∃ n, a.nodes = n := ⟨_, rfl⟩
  obtain ⟨pr, hpr⟩ : ∃ n, a.rels = n := ⟨_, rfl⟩
  obtain ⟨plm, hplm⟩ : ∃ n, a.labels.length = n := ⟨_, rfl⟩
  obtain ⟨ptm, hptm⟩ : ∃ n, a.types.length = n := ⟨_, rfl⟩
  obtain ⟨pem, hpem⟩ : ∃ n, a.ends.length = n := ⟨_, rfl⟩
  obtain ⟨pkm, hpkm⟩ : ∃ n, a.keys.length = n := ⟨_, rfl⟩
  obtain ⟨qn, hqn⟩ : ∃ n, b.nodes = n := ⟨_, rfl⟩
  obtain ⟨qr, hqr⟩ : ∃ n, b.rels = n := ⟨_, rfl⟩
  obtain ⟨qlm, hqlm⟩ : ∃ n, b.labels.length = n := ⟨_, rfl⟩
  obtain ⟨qtm, hqtm⟩ : ∃ n, b.types.length = n := ⟨_, rfl⟩
  obtain ⟨qem, hqem⟩ : ∃ n, b.ends.length = n := ⟨_, rfl⟩
  obtain ⟨qkm, hqkm⟩ : ∃ n, b.keys.length = n := ⟨_, rfl⟩
  have HLEN := hidE (And.intro hplm (And.intro hptm (And.intro hpem (And.intro hpkm (And.intro hqlm (And.intro hqtm (And.intro hqem hqkm)))))))
  have HNR := hidE (And.intro hpn (And.intro hpr (And.intro hqn hqr)))
  obtain ⟨D, hD⟩ : ∃ D, sameB a b = D := ⟨_, rfl⟩
  have HD := hidE hD
  rw [hD]
  have HRA := hidE ha
  have HRB := hidE hb
  rw [hplm] at pl1 HRA
  rw [hptm] at pt1 HRA
  rw [hpem] at pe1 HRA
  rw [hpkm] at pk1 HRA
  rw [hqlm] at ql1 HRB
  rw [hqtm] at qt1 HRB
  rw [hqem] at qe1 HRB
  rw [hqkm] at qk1 HRB
  rw [hpn, hpr, hqn, hqr, hplm, hptm, hpem, hpkm, hqlm, hqtm, hqem, hqkm]
  clear ha hb hD hpn hpr hqn hqr hplm hptm hpem hpkm hqlm hqtm hqem hqkm
  obtain ⟨el, hel⟩ : ∃ z, decide (a.labels = b.labels) = z := ⟨_, rfl⟩
  have H78 : Hid (∀ W, Below w.heap.size w W → Calls Tryz.prog 78 #[.slice pla plm plc, .slice qla qlm qlc] W fun e w' => e = .returned (.bool el) ∧ Below W.heap.size W w') := fun W hb => by rw [← hel]; exact eq78_any a.labels b.labels _ _ B W (Nat.le_trans hB hb.size) (HRA.out.hl.keep (hb.mono hB)) (HRB.out.hl.keep (hb.mono hB))
  obtain ⟨et, het⟩ : ∃ z, decide (a.types = b.types) = z := ⟨_, rfl⟩
  have H79 : Hid (∀ W, Below w.heap.size w W → Calls Tryz.prog 79 #[.slice pta ptm ptc, .slice qta qtm qtc] W fun e w' => e = .returned (.bool et) ∧ Below W.heap.size W w') := fun W hb => by rw [← het]; exact eq79_any a.types b.types _ _ B W (Nat.le_trans hB hb.size) (HRA.out.ht.keep (hb.mono hB)) (HRB.out.ht.keep (hb.mono hB))
  obtain ⟨ee, hee⟩ : ∃ z, decide (a.ends = b.ends) = z := ⟨_, rfl⟩
  have H80 : Hid (∀ W, Below w.heap.size w W → Calls Tryz.prog 80 #[.slice pea pem pec, .slice qea qem qec] W fun e w' => e = .returned (.bool ee) ∧ Below W.heap.size W w') := fun W hb => by rw [← hee]; exact eq80_any a.ends b.ends _ _ B W (Nat.le_trans hB hb.size) (HRA.out.he.keep (hb.mono hB)) (HRB.out.he.keep (hb.mono hB))
  obtain ⟨ek, hek⟩ : ∃ z, decide (a.keys = b.keys) = z := ⟨_, rfl⟩
  have H81 : Hid (∀ W, Below w.heap.size w W → Calls Tryz.prog 81 #[.slice pka pkm pkc, .slice qka qkm qkc] W fun e w' => e = .returned (.bool ek) ∧ Below W.heap.size W w') := fun W hb => by rw [← hek]; exact eq81_any a.keys b.keys _ _ B W (Nat.le_trans hB hb.size) (HRA.out.hk.keep (hb.mono hB)) (HRB.out.hk.keep (hb.mono hB))
  have HDD : Hid (D = (decide (pn = qn) && (decide (pr = qr) && (el && (et && (ee && ek)))))) := by
    show _ = _
    rw [← HD.out]
    unfold sameB
    rw [HNR.out.1, HNR.out.2.1, HNR.out.2.2.1, HNR.out.2.2.2, hel, het, hee, hek]
  clear hel het hee hek HD HNR HLEN HRA HRB
  go_enter Tryz.func38, Tryz.ntmps38
  go_upto_region 1 with fail
  obtain ⟨W1, hW1⟩ : ∃ W, w.alloc (.cells #[.int .i64 pn, .int .i64 pr, .slice pla plm plc, .slice pta ptm ptc, .slice pea pem pec, .slice pka pkm pkc] 33) = W := ⟨_, rfl⟩
  have hz1 : W1.heap.size = w.heap.size + 1 := by rw [← hW1]; simp
  have HP0 := hidE (sbox_new w (.int .i64 pn) (.int .i64 pr) (.slice pla plm plc) (.slice pta ptm ptc) (.slice pea pem pec) (.slice pka pkm pkc) 33)
  have HB1 := hidE (below_new w (.cells #[.int .i64 pn, .int .i64 pr, .slice pla plm plc, .slice pta ptm ptc, .slice pea pem pec, .slice pka pkm pkc] 33))
  rw [hW1] at HP0 HB1
  obtain ⟨W2, hW2⟩ : ∃ W, W1.alloc (.cells #[.int .i64 qn, .int .i64 qr, .slice qla qlm qlc, .slice qta qtm qtc, .slice qea qem qec, .slice qka qkm qkc] 33) = W := ⟨_, rfl⟩
  have HQ2 := hidE (sbox_new W1 (.int .i64 qn) (.int .i64 qr) (.slice qla qlm qlc) (.slice qta qtm qtc) (.slice qea qem qec) (.slice qka qkm qkc) 33)
  have HB12 := hidE (below_new W1 (.cells #[.int .i64 qn, .int .i64 qr, .slice qla qlm qlc, .slice qta qtm qtc, .slice qea qem qec, .slice qka qkm qkc] 33))
  rw [hW2] at HQ2 HB12
  rw [hz1] at HQ2
  have HP2 := hidE (HP0.out.keep HB12.out)
  have HB2 := hidE (Below.on HB1.out HB12.out)
  try rw [hW1]
  try rw [hW2]
  clear hW1 hW2 hz1 HP0 HB1 HB12
  have f0 := HP2.out.c0
  have g0 := HQ2.out.c0
  have f1 := HP2.out.c1
  have g1 := HQ2.out.c1
  have f2 := HP2.out.c2
  have g2 := HQ2.out.c2
  by_cases en : pn = qn
  · subst en
    by_cases er : pr = qr
    · subst er
      cases el
      · have HE0 := hidE HB2.out
        go_wp2_with (first | (go_at_call 78; refine (H78.out _ HE0.out).mono ?_; rintro e u40 ⟨rfl, y⟩; have HC0 := hidE (Below.on (Below.refl W2.heap.size W2) y); have HE1 := hidE (Below.on HE0.out y); have f3 := (HP2.out.keep HC0.out).c3; have g3 := (HQ2.out.keep HC0.out).c3; clear y))
        go_ret
        exact ⟨by rw [HDD.out]; simp, HE1.out⟩
      · cases et
        · have HE0 := hidE HB2.out
          go_wp2_with (first | (go_at_call 78; refine (H78.out _ HE0.out).mono ?_; rintro e u40 ⟨rfl, y⟩; have HC0 := hidE (Below.on (Below.refl W2.heap.size W2) y); have HE1 := hidE (Below.on HE0.out y); have f3 := (HP2.out.keep HC0.out).c3; have g3 := (HQ2.out.keep HC0.out).c3; clear y) | (go_at_call 79; refine (H79.out _ HE1.out).mono ?_; rintro e u41 ⟨rfl, y⟩; have HC1 := hidE (Below.on (HC0.out) y); have HE2 := hidE (Below.on HE1.out y); have f4 := (HP2.out.keep HC1.out).c4; have g4 := (HQ2.out.keep HC1.out).c4; clear y))
          go_ret
          exact ⟨by rw [HDD.out]; simp, HE2.out⟩
        · cases ee
          · have HE0 := hidE HB2.out
            go_wp2_with (first | (go_at_call 78; refine (H78.out _ HE0.out).mono ?_; rintro e u40 ⟨rfl, y⟩; have HC0 := hidE (Below.on (Below.refl W2.heap.size W2) y); have HE1 := hidE (Below.on HE0.out y); have f3 := (HP2.out.keep HC0.out).c3; have g3 := (HQ2.out.keep HC0.out).c3; clear y) | (go_at_call 79; refine (H79.out _ HE1.out).mono ?_; rintro e u41 ⟨rfl, y⟩; have HC1 := hidE (Below.on (HC0.out) y); have HE2 := hidE (Below.on HE1.out y); have f4 := (HP2.out.keep HC1.out).c4; have g4 := (HQ2.out.keep HC1.out).c4; clear y) | (go_at_call 80; refine (H80.out _ HE2.out).mono ?_; rintro e u42 ⟨rfl, y⟩; have HC2 := hidE (Below.on (HC1.out) y); have HE3 := hidE (Below.on HE2.out y); have f5 := (HP2.out.keep HC2.out).c5; have g5 := (HQ2.out.keep HC2.out).c5; clear y))
            go_ret
            exact ⟨by rw [HDD.out]; simp, HE3.out⟩
          · cases ek
            · have HE0 := hidE HB2.out
              go_wp2_with (first | (go_at_call 78; refine (H78.out _ HE0.out).mono ?_; rintro e u40 ⟨rfl, y⟩; have HC0 := hidE (Below.on (Below.refl W2.heap.size W2) y); have HE1 := hidE (Below.on HE0.out y); have f3 := (HP2.out.keep HC0.out).c3; have g3 := (HQ2.out.keep HC0.out).c3; clear y) | (go_at_call 79; refine (H79.out _ HE1.out).mono ?_; rintro e u41 ⟨rfl, y⟩; have HC1 := hidE (Below.on (HC0.out) y); have HE2 := hidE (Below.on HE1.out y); have f4 := (HP2.out.keep HC1.out).c4; have g4 := (HQ2.out.keep HC1.out).c4; clear y) | (go_at_call 80; refine (H80.out _ HE2.out).mono ?_; rintro e u42 ⟨rfl, y⟩; have HC2 := hidE (Below.on (HC1.out) y); have HE3 := hidE (Below.on HE2.out y); have f5 := (HP2.out.keep HC2.out).c5; have g5 := (HQ2.out.keep HC2.out).c5; clear y) | (go_at_call 81; refine (H81.out _ HE3.out).mono ?_; rintro e u43 ⟨rfl, y⟩; have HC3 := hidE (Below.on (HC2.out) y); have HE4 := hidE (Below.on HE3.out y); clear y))
              go_ret
              exact ⟨by rw [HDD.out]; simp, HE4.out⟩
            · have HE0 := hidE HB2.out
              go_wp2_with (first | (go_at_call 78; refine (H78.out _ HE0.out).mono ?_; rintro e u40 ⟨rfl, y⟩; have HC0 := hidE (Below.on (Below.refl W2.heap.size W2) y); have HE1 := hidE (Below.on HE0.out y); have f3 := (HP2.out.keep HC0.out).c3; have g3 := (HQ2.out.keep HC0.out).c3; clear y) | (go_at_call 79; refine (H79.out _ HE1.out).mono ?_; rintro e u41 ⟨rfl, y⟩; have HC1 := hidE (Below.on (HC0.out) y); have HE2 := hidE (Below.on HE1.out y); have f4 := (HP2.out.keep HC1.out).c4; have g4 := (HQ2.out.keep HC1.out).c4; clear y) | (go_at_call 80; refine (H80.out _ HE2.out).mono ?_; rintro e u42 ⟨rfl, y⟩; have HC2 := hidE (Below.on (HC1.out) y); have HE3 := hidE (Below.on HE2.out y); have f5 := (HP2.out.keep HC2.out).c5; have g5 := (HQ2.out.keep HC2.out).c5; clear y) | (go_at_call 81; refine (H81.out _ HE3.out).mono ?_; rintro e u43 ⟨rfl, y⟩; have HC3 := hidE (Below.on (HC2.out) y); have HE4 := hidE (Below.on HE3.out y); clear y))
              go_ret
              exact ⟨by rw [HDD.out]; simp, HE4.out⟩
    · have br : (pr == qr) = false := beq_eq_false_iff_ne.2 er
      have HDF : Hid (D = false) := by
        show _ = _
        rw [HDD.out, decide_eq_false er]; simp
      clear er
      go_wp2_with fail
      go_ret
      exact ⟨by rw [HDF.out]; rfl, HB2.out⟩
  · have bn : (pn == qn) = false := beq_eq_false_iff_ne.2 en
    have HDF : Hid (D = false) := by
      show _ = _
      rw [HDD.out, decide_eq_false en]; simp
    clear en
    go_wp2_with fail
    go_ret
    exact ⟨by rw [HDF.out]; rfl, HB2.out⟩
end Go.Proofs.YthfilnflgahcjaaGreatDoor

