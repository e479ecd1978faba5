/- Rows held against each other (slices.Equal). -/
import Derived.Test.YthfilnflgahcjaaGreatDoorJoin3
import Derived.Test.YthfilnflgahcjaaGreatDoorJoin14
import Derived.Test.YthfilnflgahcjaaGreatDoorJoin12
namespace Go.Proofs.YthfilnflgahcjaaGreatDoor
open Go.RowKit Go.Shelf Go.Maps
set_option linter.unusedVariables false
set_option linter.unusedSimpArgs false
attribute [local go_sem] Oper.semAt_some
theorem take_eq_step {α : Type} {xs ys : List α} {j : Nat} {x y : α} (h : xs.take j = ys.take j) (hx : xs[j]? = some x) (hy : ys[j]? = some y) (e : x = y) : xs.take (j + 1) = ys.take (j + 1) := by
  rw [List.take_add_one, List.take_add_one, h, hx, hy, e]
theorem ne_at {α : Type} {xs ys : List α} {j : Nat} {x y : α} (hx : xs[j]? = some x) (hy : ys[j]? = some y) (e : x ≠ y) : xs ≠ ys := fun h => by
  rw [h, hy] at hx
  exact e (Option.some.inj hx).symm
theorem take_all_eq {α : Type} {xs ys : List α} {j : Nat} (h : xs.take j = ys.take j) (hx : xs.length ≤ j) (hy : ys.length ≤ j) : xs = ys := by
  rwa [List.take_of_length_le hx, List.take_of_length_le hy] at h
set_option maxRecDepth 100000 in
set_option maxHeartbeats 4000000 in
theorem eq78_any (xs ys : List (ByteArray × Int)) (vx vy : Value) (B : Nat) (w : World) (hB : B ≤ w.heap.size) (hx : SRow 2 labC B w vx xs) (hy : SRow 2 labC B w vy ys) : Calls Tryz.prog 78 #[vx, vy] w fun e w' => e = .returned (.bool (decide (xs = ys))) ∧ Below w.heap.size w w' := by
  obtain ⟨xa, xc, rfl, a1, a2, a3⟩ := hx
  obtain ⟨ya, yc, rfl, b1, b2, b3⟩ := hy
  have HX := hidE a3
  have HY := hidE b3
  obtain ⟨m, hm⟩ : ∃ m, xs.length = m := ⟨_, rfl⟩
  obtain ⟨m', hm'⟩ : ∃ m, ys.length = m := ⟨_, rfl⟩
  have HM := hidE (And.intro hm hm')
  rw [hm] at a1 ⊢
  rw [hm'] at b1 ⊢
  obtain ⟨D, hD⟩ : ∃ D, decide (xs = ys) = D := ⟨_, rfl⟩
  have HD := hidE hD
  rw [hD]
  clear hD hm hm' a3 b3
  by_cases hl : m = m'
  · subst hl
    go_enter Tryz.func78, Tryz.ntmps78
    go_wp2_with fail
    go_loopw [13] (fun i wr => ∃ (j : Nat), j ≤ m ∧ i = .int .i64 j ∧ xs.take j = ys.take j ∧ Below w.heap.size w wr) (fun i _ => m - (intOf i).toNat)
    case atStart => exact ⟨0, Nat.zero_le _, rfl, rfl, Below.refl _ _⟩
    case round =>
      obtain ⟨j, hj, rfl, hte, hbr⟩ := hrel
      have HTE := hidE hte
      have HBR := hidE hbr
      clear hte hbr
      by_cases hlt : j < m
      · have hlt' : (j : Int) < m := by omega
        obtain ⟨⟨x0, x1⟩, hx⟩ : ∃ q, xs[j]? = some q := ⟨_, List.getElem?_eq_getElem (by have := HM.out.1; omega)⟩
        obtain ⟨⟨y0, y1⟩, hy⟩ : ∃ q, ys[j]? = some q := ⟨_, List.getElem?_eq_getElem (by have := HM.out.2; omega)⟩
        obtain ⟨bl, off, rfl, hbl, hc⟩ := HX.out.resolve_left (by intro e; rw [e] at hx; simp at hx)
        obtain ⟨bl', off', rfl, hbl', hc'⟩ := HY.out.resolve_left (by intro e; rw [e] at hy; simp at hy)
        have c0 := (HBR.out.cell (p := ⟨bl, off + j * 2 + 0, none⟩) (Nat.lt_of_lt_of_le hbl hB)).trans (hc j _ hx 0 _ rfl)
        have d0 := (HBR.out.cell (p := ⟨bl', off' + j * 2 + 0, none⟩) (Nat.lt_of_lt_of_le hbl' hB)).trans (hc' j _ hy 0 _ rfl)
        have c1 := (HBR.out.cell (p := ⟨bl, off + j * 2 + 1, none⟩) (Nat.lt_of_lt_of_le hbl hB)).trans (hc j _ hx 1 _ rfl)
        have d1 := (HBR.out.cell (p := ⟨bl', off' + j * 2 + 1, none⟩) (Nat.lt_of_lt_of_le hbl' hB)).trans (hc' j _ hy 1 _ rfl)
        rw [Nat.add_zero] at c0 d0
        simp only at c0 d0 c1 d1
        have fx0 : ∀ u : Up wr, u.x.cell? ⟨bl, off + j * 2, none⟩ = some (.string x0) := fun u => u.cell c0
        have fy0 : ∀ u : Up wr, u.x.cell? ⟨bl', off' + j * 2, none⟩ = some (.string y0) := fun u => u.cell d0
        have fx1 : ∀ u : Up wr, u.x.cell? ⟨bl, off + j * 2 + 1, none⟩ = some (.int .i64 x1) := fun u => u.cell c1
        have fy1 : ∀ u : Up wr, u.x.cell? ⟨bl', off' + j * 2 + 1, none⟩ = some (.int .i64 y1) := fun u => u.cell d1
        have up_ne : Nonempty (Up wr) := ⟨⟨wr, Below.refl _ _⟩⟩
        have HXY := hidE (And.intro hx hy)
        clear hx hy hc hc' c0 d0 c1 d1
        by_cases e0 : x0 = y0
        · subst e0
          have b0 := str_yes (rfl : x0 = x0)
          by_cases e1 : x1 = y1
          · subst e1
            have b1 : (x1 == x1) = true := beq_self_eq_true _
            have HS := hidE (take_eq_step HTE.out HXY.out.1 HXY.out.2 rfl)
            go_upto_region 6 with fail
            refine wp_up (by kernel_rfl) (by kernel_rfl) ?_
            repeat (go_big_quiet_step (fail))
            refine wpQuiet_nil ?_
            rintro w4 ⟨⟨W4, hb4⟩, rfl⟩
            have HB4 := hidE (Below.on HBR.out hb4)
            clear fx0 fy0 fx1 fy1 up_ne hb4
            go_wp2_with fail
            go_roundw
            case rel => exact ⟨j + 1, by omega, by go_num, HS.out, HB4.out⟩
            case measure => simp [intOf]; omega
          · have b1 : (x1 == y1) = false := beq_eq_false_iff_ne.2 e1
            have HF : Hid (D = false) := by
              show _ = _
              rw [← HD.out]
              exact decide_eq_false (ne_at HXY.out.1 HXY.out.2 fun e => e1 (by injections))
            clear e1
            go_upto_region 6 with fail
            refine wp_up (by kernel_rfl) (by kernel_rfl) ?_
            repeat (go_big_quiet_step (fail))
            refine wpQuiet_nil ?_
            rintro w4 ⟨⟨W4, hb4⟩, rfl⟩
            have HB4 := hidE (Below.on HBR.out hb4)
            clear fx0 fy0 fx1 fy1 up_ne hb4
            go_wp2_with fail
            go_ret
            exact ⟨by rw [HF.out]; rfl, HB4.out⟩
        · have b0 := str_no e0
          have HF : Hid (D = false) := by
            show _ = _
            rw [← HD.out]
            exact decide_eq_false (ne_at HXY.out.1 HXY.out.2 fun e => e0 (by injections))
          clear e0
          go_upto_region 6 with fail
          refine wp_up (by kernel_rfl) (by kernel_rfl) ?_
          repeat (go_big_quiet_step (fail))
          refine wpQuiet_nil ?_
          rintro w4 ⟨⟨W4, hb4⟩, rfl⟩
          have HB4 := hidE (Below.on HBR.out hb4)
          clear fx0 fy0 fx1 fy1 up_ne hb4
          go_wp2_with fail
          go_ret
          exact ⟨by rw [HF.out]; rfl, HB4.out⟩
      · have hlt' : ¬ (j : Int) < m := by omega
        have HF : Hid (D = true) := by
          show _ = _
          rw [← HD.out]
          exact decide_eq_true (take_all_eq HTE.out (by have := HM.out.1; omega) (by have := HM.out.2; omega))
        go_wp2_with fail
        go_ret
        exact ⟨by rw [HF.out]; rfl, HBR.out⟩
  · have HF : Hid (D = false) := by
      show _ = _
      rw [← HD.out]
      exact decide_eq_false fun e => hl (by rw [← HM.out.1, ← HM.out.2, e])
    have hl' : ((m : Int) == m') = false := by
      apply beq_eq_false_iff_ne.2
      omega
    go_enter Tryz.func78, Tryz.ntmps78
    go_wp2_with fail
    go_ret
    exact ⟨by rw [HF.out]; rfl, Below.refl _ _⟩
set_option maxRecDepth 100000 in
set_option maxHeartbeats 4000000 in
theorem eq79_any (xs ys : List (ByteArray × Int)) (vx vy : Value) (B : Nat) (w : World) (hB : B ≤ w.heap.size) (hx : SRow 2 labC B w vx xs) (hy : SRow 2 labC B w vy ys) : Calls Tryz.prog 79 #[vx, vy] w fun e w' => e = .returned (.bool (decide (xs = ys))) ∧ Below w.heap.size w w' := by
  obtain ⟨xa, xc, rfl, a1, a2, a3⟩ := hx
  obtain ⟨ya, yc, rfl, b1, b2, b3⟩ := hy
  have HX := hidE a3
  have HY := hidE b3
  obtain ⟨m, hm⟩ : ∃ m, xs.length = m := ⟨_, rfl⟩
  obtain ⟨m', hm'⟩ : ∃ m, ys.length = m := ⟨_, rfl⟩
  have HM := hidE (And.intro hm hm')
  rw [hm] at a1 ⊢
  rw [hm'] at b1 ⊢
  obtain ⟨D, hD⟩ : ∃ D, decide (xs = ys) = D := ⟨_, rfl⟩
  have HD := hidE hD
  rw [hD]
  clear hD hm hm' a3 b3
  by_cases hl : m = m'
  · subst hl
    go_enter Tryz.func79, Tryz.ntmps79
    go_wp2_with fail
    go_loopw [13] (fun i wr => ∃ (j : Nat), j ≤ m ∧ i = .int .i64 j ∧ xs.take j = ys.take j ∧ Below w.heap.size w wr) (fun i _ => m - (intOf i).toNat)
    case atStart => exact ⟨0, Nat.zero_le _, rfl, rfl, Below.refl _ _⟩
    case round =>
      obtain ⟨j, hj, rfl, hte, hbr⟩ := hrel
      have HTE := hidE hte
      have HBR := hidE hbr
      clear hte hbr
      by_cases hlt : j < m
      · have hlt' : (j : Int) < m := by omega
        obtain ⟨⟨x0, x1⟩, hx⟩ : ∃ q, xs[j]? = some q := ⟨_, List.getElem?_eq_getElem (by have := HM.out.1; omega)⟩
        obtain ⟨⟨y0, y1⟩, hy⟩ : ∃ q, ys[j]? = some q := ⟨_, List.getElem?_eq_getElem (by have := HM.out.2; omega)⟩
        obtain ⟨bl, off, rfl, hbl, hc⟩ := HX.out.resolve_left (by intro e; rw [e] at hx; simp at hx)
        obtain ⟨bl', off', rfl, hbl', hc'⟩ := HY.out.resolve_left (by intro e; rw [e] at hy; simp at hy)
        have c0 := (HBR.out.cell (p := ⟨bl, off + j * 2 + 0, none⟩) (Nat.lt_of_lt_of_le hbl hB)).trans (hc j _ hx 0 _ rfl)
        have d0 := (HBR.out.cell (p := ⟨bl', off' + j * 2 + 0, none⟩) (Nat.lt_of_lt_of_le hbl' hB)).trans (hc' j _ hy 0 _ rfl)
        have c1 := (HBR.out.cell (p := ⟨bl, off + j * 2 + 1, none⟩) (Nat.lt_of_lt_of_le hbl hB)).trans (hc j _ hx 1 _ rfl)
        have d1 := (HBR.out.cell (p := ⟨bl', off' + j * 2 + 1, none⟩) (Nat.lt_of_lt_of_le hbl' hB)).trans (hc' j _ hy 1 _ rfl)
        rw [Nat.add_zero] at c0 d0
        simp only at c0 d0 c1 d1
        have fx0 : ∀ u : Up wr, u.x.cell? ⟨bl, off + j * 2, none⟩ = some (.string x0) := fun u => u.cell c0
        have fy0 : ∀ u : Up wr, u.x.cell? ⟨bl', off' + j * 2, none⟩ = some (.string y0) := fun u => u.cell d0
        have fx1 : ∀ u : Up wr, u.x.cell? ⟨bl, off + j * 2 + 1, none⟩ = some (.int .i64 x1) := fun u => u.cell c1
        have fy1 : ∀ u : Up wr, u.x.cell? ⟨bl', off' + j * 2 + 1, none⟩ = some (.int .i64 y1) := fun u => u.cell d1
        have up_ne : Nonempty (Up wr) := ⟨⟨wr, Below.refl _ _⟩⟩
        have HXY := hidE (And.intro hx hy)
        clear hx hy hc hc' c0 d0 c1 d1
        by_cases e0 : x0 = y0
        · subst e0
          have b0 := str_yes (rfl : x0 = x0)
          by_cases e1 : x1 = y1
          · subst e1
            have b1 : (x1 == x1) = true := beq_self_eq_true _
            have HS := hidE (take_eq_step HTE.out HXY.out.1 HXY.out.2 rfl)
            go_upto_region 6 with fail
            refine wp_up (by kernel_rfl) (by kernel_rfl) ?_
            repeat (go_big_quiet_step (fail))
            refine wpQuiet_nil ?_
            rintro w4 ⟨⟨W4, hb4⟩, rfl⟩
            have HB4 := hidE (Below.on HBR.out hb4)
            clear fx0 fy0 fx1 fy1 up_ne hb4
            go_wp2_with fail
            go_roundw
            case rel => exact ⟨j + 1, by omega, by go_num, HS.out, HB4.out⟩
            case measure => simp [intOf]; omega
          · have b1 : (x1 == y1) = false := beq_eq_false_iff_ne.2 e1
            have HF : Hid (D = false) := by
              show _ = _
              rw [← HD.out]
              exact decide_eq_false (ne_at HXY.out.1 HXY.out.2 fun e => e1 (by injections))
            clear e1
            go_upto_region 6 with fail
            refine wp_up (by kernel_rfl) (by kernel_rfl) ?_
            repeat (go_big_quiet_step (fail))
            refine wpQuiet_nil ?_
            rintro w4 ⟨⟨W4, hb4⟩, rfl⟩
            have HB4 := hidE (Below.on HBR.out hb4)
            clear fx0 fy0 fx1 fy1 up_ne hb4
            go_wp2_with fail
            go_ret
            exact ⟨by rw [HF.out]; rfl, HB4.out⟩
        · have b0 := str_no e0
          have HF : Hid (D = false) := by
            show _ = _
            rw [← HD.out]
            exact decide_eq_false (ne_at HXY.out.1 HXY.out.2 fun e => e0 (by injections))
          clear e0
          go_upto_region 6 with fail
          refine wp_up (by kernel_rfl) (by kernel_rfl) ?_
          repeat (go_big_quiet_step (fail))
          refine wpQuiet_nil ?_
          rintro w4 ⟨⟨W4, hb4⟩, rfl⟩
          have HB4 := hidE (Below.on HBR.out hb4)
          clear fx0 fy0 fx1 fy1 up_ne hb4
          go_wp2_with fail
          go_ret
          exact ⟨by rw [HF.out]; rfl, HB4.out⟩
      · have hlt' : ¬ (j : Int) < m := by omega
        have HF : Hid (D = true) := by
          show _ = _
          rw [← HD.out]
          exact decide_eq_true (take_all_eq HTE.out (by have := HM.out.1; omega) (by have := HM.out.2; omega))
        go_wp2_with fail
        go_ret
        exact ⟨by rw [HF.out]; rfl, HBR.out⟩
  · have HF : Hid (D = false) := by
      show _ = _
      rw [← HD.out]
      exact decide_eq_false fun e => hl (by rw [← HM.out.1, ← HM.out.2, e])
    have hl' : ((m : Int) == m') = false := by
      apply beq_eq_false_iff_ne.2
      omega
    go_enter Tryz.func79, Tryz.ntmps79
    go_wp2_with fail
    go_ret
    exact ⟨by rw [HF.out]; rfl, Below.refl _ _⟩
set_option maxRecDepth 100000 in
set_option maxHeartbeats 4000000 in
theorem eq80_any (xs ys : List (EndR)) (vx vy : Value) (B : Nat) (w : World) (hB : B ≤ w.heap.size) (hx : SRow 4 endC B w vx xs) (hy : SRow 4 endC B w vy ys) : Calls Tryz.prog 80 #[vx, vy] w fun e w' => e = .returned (.bool (decide (xs = ys))) ∧ Below w.heap.size w w' := by
  obtain ⟨xa, xc, rfl, a1, a2, a3⟩ := hx
  obtain ⟨ya, yc, rfl, b1, b2, b3⟩ := hy
  have HX := hidE a3
  have HY := hidE b3
  obtain ⟨m, hm⟩ : ∃ m, xs.length = m := ⟨_, rfl⟩
  obtain ⟨m', hm'⟩ : ∃ m, ys.length = m := ⟨_, rfl⟩
  have HM := hidE (And.intro hm hm')
  rw [hm] at a1 ⊢
  rw [hm'] at b1 ⊢
  obtain ⟨D, hD⟩ : ∃ D, decide (xs = ys) = D := ⟨_, rfl⟩
  have HD := hidE hD
  rw [hD]
  clear hD hm hm' a3 b3
  by_cases hl : m = m'
  · subst hl
    go_enter Tryz.func80, Tryz.ntmps80
    go_wp2_with fail
    go_loopw [13] (fun i wr => ∃ (j : Nat), j ≤ m ∧ i = .int .i64 j ∧ xs.take j = ys.take j ∧ Below w.heap.size w wr) (fun i _ => m - (intOf i).toNat)
    case atStart => exact ⟨0, Nat.zero_le _, rfl, rfl, Below.refl _ _⟩
    case round =>
      obtain ⟨j, hj, rfl, hte, hbr⟩ := hrel
      have HTE := hidE hte
      have HBR := hidE hbr
      clear hte hbr
      by_cases hlt : j < m
      · have hlt' : (j : Int) < m := by omega
        obtain ⟨⟨x0, x1, x2, x3⟩, hx⟩ : ∃ q, xs[j]? = some q := ⟨_, List.getElem?_eq_getElem (by have := HM.out.1; omega)⟩
        obtain ⟨⟨y0, y1, y2, y3⟩, hy⟩ : ∃ q, ys[j]? = some q := ⟨_, List.getElem?_eq_getElem (by have := HM.out.2; omega)⟩
        obtain ⟨bl, off, rfl, hbl, hc⟩ := HX.out.resolve_left (by intro e; rw [e] at hx; simp at hx)
        obtain ⟨bl', off', rfl, hbl', hc'⟩ := HY.out.resolve_left (by intro e; rw [e] at hy; simp at hy)
        have c0 := (HBR.out.cell (p := ⟨bl, off + j * 4 + 0, none⟩) (Nat.lt_of_lt_of_le hbl hB)).trans (hc j _ hx 0 _ rfl)
        have d0 := (HBR.out.cell (p := ⟨bl', off' + j * 4 + 0, none⟩) (Nat.lt_of_lt_of_le hbl' hB)).trans (hc' j _ hy 0 _ rfl)
        have c1 := (HBR.out.cell (p := ⟨bl, off + j * 4 + 1, none⟩) (Nat.lt_of_lt_of_le hbl hB)).trans (hc j _ hx 1 _ rfl)
        have d1 := (HBR.out.cell (p := ⟨bl', off' + j * 4 + 1, none⟩) (Nat.lt_of_lt_of_le hbl' hB)).trans (hc' j _ hy 1 _ rfl)
        have c2 := (HBR.out.cell (p := ⟨bl, off + j * 4 + 2, none⟩) (Nat.lt_of_lt_of_le hbl hB)).trans (hc j _ hx 2 _ rfl)
        have d2 := (HBR.out.cell (p := ⟨bl', off' + j * 4 + 2, none⟩) (Nat.lt_of_lt_of_le hbl' hB)).trans (hc' j _ hy 2 _ rfl)
        have c3 := (HBR.out.cell (p := ⟨bl, off + j * 4 + 3, none⟩) (Nat.lt_of_lt_of_le hbl hB)).trans (hc j _ hx 3 _ rfl)
        have d3 := (HBR.out.cell (p := ⟨bl', off' + j * 4 + 3, none⟩) (Nat.lt_of_lt_of_le hbl' hB)).trans (hc' j _ hy 3 _ rfl)
        rw [Nat.add_zero] at c0 d0
        simp only at c0 d0 c1 d1 c2 d2 c3 d3
        have fx0 : ∀ u : Up wr, u.x.cell? ⟨bl, off + j * 4, none⟩ = some (.string x0) := fun u => u.cell c0
        have fy0 : ∀ u : Up wr, u.x.cell? ⟨bl', off' + j * 4, none⟩ = some (.string y0) := fun u => u.cell d0
        have fx1 : ∀ u : Up wr, u.x.cell? ⟨bl, off + j * 4 + 1, none⟩ = some (.string x1) := fun u => u.cell c1
        have fy1 : ∀ u : Up wr, u.x.cell? ⟨bl', off' + j * 4 + 1, none⟩ = some (.string y1) := fun u => u.cell d1
        have fx2 : ∀ u : Up wr, u.x.cell? ⟨bl, off + j * 4 + 2, none⟩ = some (.bool x2) := fun u => u.cell c2
        have fy2 : ∀ u : Up wr, u.x.cell? ⟨bl', off' + j * 4 + 2, none⟩ = some (.bool y2) := fun u => u.cell d2
        have fx3 : ∀ u : Up wr, u.x.cell? ⟨bl, off + j * 4 + 3, none⟩ = some (.int .i64 x3) := fun u => u.cell c3
        have fy3 : ∀ u : Up wr, u.x.cell? ⟨bl', off' + j * 4 + 3, none⟩ = some (.int .i64 y3) := fun u => u.cell d3
        have up_ne : Nonempty (Up wr) := ⟨⟨wr, Below.refl _ _⟩⟩
        have HXY := hidE (And.intro hx hy)
        clear hx hy hc hc' c0 d0 c1 d1 c2 d2 c3 d3
        by_cases e0 : x0 = y0
        · subst e0
          have b0 := str_yes (rfl : x0 = x0)
          by_cases e1 : x1 = y1
          · subst e1
            have b1 := str_yes (rfl : x1 = x1)
            by_cases e2 : x2 = y2
            · subst e2
              have b2 : (x2 == x2) = true := beq_self_eq_true _
              by_cases e3 : x3 = y3
              · subst e3
                have b3 : (x3 == x3) = true := beq_self_eq_true _
                have HS := hidE (take_eq_step HTE.out HXY.out.1 HXY.out.2 rfl)
                go_upto_region 6 with fail
                refine wp_up (by kernel_rfl) (by kernel_rfl) ?_
                repeat (go_big_quiet_step (fail))
                refine wpQuiet_nil ?_
                rintro w4 ⟨⟨W4, hb4⟩, rfl⟩
                have HB4 := hidE (Below.on HBR.out hb4)
                clear fx0 fy0 fx1 fy1 fx2 fy2 fx3 fy3 up_ne hb4
                go_wp2_with fail
                go_roundw
                case rel => exact ⟨j + 1, by omega, by go_num, HS.out, HB4.out⟩
                case measure => simp [intOf]; omega
              · have b3 : (x3 == y3) = false := beq_eq_false_iff_ne.2 e3
                have HF : Hid (D = false) := by
                  show _ = _
                  rw [← HD.out]
                  exact decide_eq_false (ne_at HXY.out.1 HXY.out.2 fun e => e3 (by injections))
                clear e3
                go_upto_region 6 with fail
                refine wp_up (by kernel_rfl) (by kernel_rfl) ?_
                repeat (go_big_quiet_step (fail))
                refine wpQuiet_nil ?_
                rintro w4 ⟨⟨W4, hb4⟩, rfl⟩
                have HB4 := hidE (Below.on HBR.out hb4)
                clear fx0 fy0 fx1 fy1 fx2 fy2 fx3 fy3 up_ne hb4
                go_wp2_with fail
                go_ret
                exact ⟨by rw [HF.out]; rfl, HB4.out⟩
            · have b2 : (x2 == y2) = false := beq_eq_false_iff_ne.2 e2
              have HF : Hid (D = false) := by
                show _ = _
                rw [← HD.out]
                exact decide_eq_false (ne_at HXY.out.1 HXY.out.2 fun e => e2 (by injections))
              clear e2
              go_upto_region 6 with fail
              refine wp_up (by kernel_rfl) (by kernel_rfl) ?_
              repeat (go_big_quiet_step (fail))
              refine wpQuiet_nil ?_
              rintro w4 ⟨⟨W4, hb4⟩, rfl⟩
              have HB4 := hidE (Below.on HBR.out hb4)
              clear fx0 fy0 fx1 fy1 fx2 fy2 fx3 fy3 up_ne hb4
              go_wp2_with fail
              go_ret
              exact ⟨by rw [HF.out]; rfl, HB4.out⟩
          · have b1 := str_no e1
            have HF : Hid (D = false) := by
              show _ = _
              rw [← HD.out]
              exact decide_eq_false (ne_at HXY.out.1 HXY.out.2 fun e => e1 (by injections))
            clear e1
            go_upto_region 6 with fail
            refine wp_up (by kernel_rfl) (by kernel_rfl) ?_
            repeat (go_big_quiet_step (fail))
            refine wpQuiet_nil ?_
            rintro w4 ⟨⟨W4, hb4⟩, rfl⟩
            have HB4 := hidE (Below.on HBR.out hb4)
            clear fx0 fy0 fx1 fy1 fx2 fy2 fx3 fy3 up_ne hb4
            go_wp2_with fail
            go_ret
            exact ⟨by rw [HF.out]; rfl, HB4.out⟩
        · have b0 := str_no e0
          have HF : Hid (D = false) := by
            show _ = _
            rw [← HD.out]
            exact decide_eq_false (ne_at HXY.out.1 HXY.out.2 fun e => e0 (by injections))
          clear e0
          go_upto_region 6 with fail
          refine wp_up (by kernel_rfl) (by kernel_rfl) ?_
          repeat (go_big_quiet_step (fail))
          refine wpQuiet_nil ?_
          rintro w4 ⟨⟨W4, hb4⟩, rfl⟩
          have HB4 := hidE (Below.on HBR.out hb4)
          clear fx0 fy0 fx1 fy1 fx2 fy2 fx3 fy3 up_ne hb4
          go_wp2_with fail
          go_ret
          exact ⟨by rw [HF.out]; rfl, HB4.out⟩
      · have hlt' : ¬ (j : Int) < m := by omega
        have HF : Hid (D = true) := by
          show _ = _
          rw [← HD.out]
          exact decide_eq_true (take_all_eq HTE.out (by have := HM.out.1; omega) (by have := HM.out.2; omega))
        go_wp2_with fail
        go_ret
        exact ⟨by rw [HF.out]; rfl, HBR.out⟩
  · have HF : Hid (D = false) := by
      show _ = _
      rw [← HD.out]
      exact decide_eq_false fun e => hl (by rw [← HM.out.1, ← HM.out.2, e])
    have hl' : ((m : Int) == m') = false := by
      apply beq_eq_false_iff_ne.2
      omega
    go_enter Tryz.func80, Tryz.ntmps80
    go_wp2_with fail
    go_ret
    exact ⟨by rw [HF.out]; rfl, Below.refl _ _⟩
set_option maxRecDepth 100000 in
set_option maxHeartbeats 4000000 in
theorem eq81_any (xs ys : List (KeyR)) (vx vy : Value) (B : Nat) (w : World) (hB : B ≤ w.heap.size) (hx : SRow 4 keyC B w vx xs) (hy : SRow 4 keyC B w vy ys) : Calls Tryz.prog 81 #[vx, vy] w fun e w' => e = .returned (.bool (decide (xs = ys))) ∧ Below w.heap.size w w' := by
  obtain ⟨xa, xc, rfl, a1, a2, a3⟩ := hx
  obtain ⟨ya, yc, rfl, b1, b2, b3⟩ := hy
  have HX := hidE a3
  have HY := hidE b3
  obtain ⟨m, hm⟩ : ∃ m, xs.length = m := ⟨_, rfl⟩
  obtain ⟨m', hm'⟩ : ∃ m, ys.length = m := ⟨_, rfl⟩
  have HM := hidE (And.intro hm hm')
  rw [hm] at a1 ⊢
  rw [hm'] at b1 ⊢
  obtain ⟨D, hD⟩ : ∃ D, decide (xs = ys) = D := ⟨_, rfl⟩
  have HD := hidE hD
  rw [hD]
  clear hD hm hm' a3 b3
  by_cases hl : m = m'
  · subst hl
    go_enter Tryz.func81, Tryz.ntmps81
    go_wp2_with fail
    go_loopw [13] (fun i wr => ∃ (j : Nat), j ≤ m ∧ i = .int .i64 j ∧ xs.take j = ys.take j ∧ Below w.heap.size w wr) (fun i _ => m - (intOf i).toNat)
    case atStart => exact ⟨0, Nat.zero_le _, rfl, rfl, Below.refl _ _⟩
    case round =>
      obtain ⟨j, hj, rfl, hte, hbr⟩ := hrel
      have HTE := hidE hte
      have HBR := hidE hbr
      clear hte hbr
      by_cases hlt : j < m
      · have hlt' : (j : Int) < m := by omega
        obtain ⟨⟨x0, x1, x2, x3⟩, hx⟩ : ∃ q, xs[j]? = some q := ⟨_, List.getElem?_eq_getElem (by have := HM.out.1; omega)⟩
        obtain ⟨⟨y0, y1, y2, y3⟩, hy⟩ : ∃ q, ys[j]? = some q := ⟨_, List.getElem?_eq_getElem (by have := HM.out.2; omega)⟩
        obtain ⟨bl, off, rfl, hbl, hc⟩ := HX.out.resolve_left (by intro e; rw [e] at hx; simp at hx)
        obtain ⟨bl', off', rfl, hbl', hc'⟩ := HY.out.resolve_left (by intro e; rw [e] at hy; simp at hy)
        have c0 := (HBR.out.cell (p := ⟨bl, off + j * 4 + 0, none⟩) (Nat.lt_of_lt_of_le hbl hB)).trans (hc j _ hx 0 _ rfl)
        have d0 := (HBR.out.cell (p := ⟨bl', off' + j * 4 + 0, none⟩) (Nat.lt_of_lt_of_le hbl' hB)).trans (hc' j _ hy 0 _ rfl)
        have c1 := (HBR.out.cell (p := ⟨bl, off + j * 4 + 1, none⟩) (Nat.lt_of_lt_of_le hbl hB)).trans (hc j _ hx 1 _ rfl)
        have d1 := (HBR.out.cell (p := ⟨bl', off' + j * 4 + 1, none⟩) (Nat.lt_of_lt_of_le hbl' hB)).trans (hc' j _ hy 1 _ rfl)
        have c2 := (HBR.out.cell (p := ⟨bl, off + j * 4 + 2, none⟩) (Nat.lt_of_lt_of_le hbl hB)).trans (hc j _ hx 2 _ rfl)
        have d2 := (HBR.out.cell (p := ⟨bl', off' + j * 4 + 2, none⟩) (Nat.lt_of_lt_of_le hbl' hB)).trans (hc' j _ hy 2 _ rfl)
        have c3 := (HBR.out.cell (p := ⟨bl, off + j * 4 + 3, none⟩) (Nat.lt_of_lt_of_le hbl hB)).trans (hc j _ hx 3 _ rfl)
        have d3 := (HBR.out.cell (p := ⟨bl', off' + j * 4 + 3, none⟩) (Nat.lt_of_lt_of_le hbl' hB)).trans (hc' j _ hy 3 _ rfl)
        rw [Nat.add_zero] at c0 d0
        simp only at c0 d0 c1 d1 c2 d2 c3 d3
        have fx0 : ∀ u : Up wr, u.x.cell? ⟨bl, off + j * 4, none⟩ = some (.string x0) := fun u => u.cell c0
        have fy0 : ∀ u : Up wr, u.x.cell? ⟨bl', off' + j * 4, none⟩ = some (.string y0) := fun u => u.cell d0
        have fx1 : ∀ u : Up wr, u.x.cell? ⟨bl, off + j * 4 + 1, none⟩ = some (.string x1) := fun u => u.cell c1
        have fy1 : ∀ u : Up wr, u.x.cell? ⟨bl', off' + j * 4 + 1, none⟩ = some (.string y1) := fun u => u.cell d1
        have fx2 : ∀ u : Up wr, u.x.cell? ⟨bl, off + j * 4 + 2, none⟩ = some (.int .i64 x2) := fun u => u.cell c2
        have fy2 : ∀ u : Up wr, u.x.cell? ⟨bl', off' + j * 4 + 2, none⟩ = some (.int .i64 y2) := fun u => u.cell d2
        have fx3 : ∀ u : Up wr, u.x.cell? ⟨bl, off + j * 4 + 3, none⟩ = some (.int .i64 x3) := fun u => u.cell c3
        have fy3 : ∀ u : Up wr, u.x.cell? ⟨bl', off' + j * 4 + 3, none⟩ = some (.int .i64 y3) := fun u => u.cell d3
        have up_ne : Nonempty (Up wr) := ⟨⟨wr, Below.refl _ _⟩⟩
        have HXY := hidE (And.intro hx hy)
        clear hx hy hc hc' c0 d0 c1 d1 c2 d2 c3 d3
        by_cases e0 : x0 = y0
        · subst e0
          have b0 := str_yes (rfl : x0 = x0)
          by_cases e1 : x1 = y1
          · subst e1
            have b1 := str_yes (rfl : x1 = x1)
            by_cases e2 : x2 = y2
            · subst e2
              have b2 : (x2 == x2) = true := beq_self_eq_true _
              by_cases e3 : x3 = y3
              · subst e3
                have b3 : (x3 == x3) = true := beq_self_eq_true _
                have HS := hidE (take_eq_step HTE.out HXY.out.1 HXY.out.2 rfl)
                go_upto_region 6 with fail
                refine wp_up (by kernel_rfl) (by kernel_rfl) ?_
                repeat (go_big_quiet_step (fail))
                refine wpQuiet_nil ?_
                rintro w4 ⟨⟨W4, hb4⟩, rfl⟩
                have HB4 := hidE (Below.on HBR.out hb4)
                clear fx0 fy0 fx1 fy1 fx2 fy2 fx3 fy3 up_ne hb4
                go_wp2_with fail
                go_roundw
                case rel => exact ⟨j + 1, by omega, by go_num, HS.out, HB4.out⟩
                case measure => simp [intOf]; omega
              · have b3 : (x3 == y3) = false := beq_eq_false_iff_ne.2 e3
                have HF : Hid (D = false) := by
                  show _ = _
                  rw [← HD.out]
                  exact decide_eq_false (ne_at HXY.out.1 HXY.out.2 fun e => e3 (by injections))
                clear e3
                go_upto_region 6 with fail
                refine wp_up (by kernel_rfl) (by kernel_rfl) ?_
                repeat (go_big_quiet_step (fail))
                refine wpQuiet_nil ?_
                rintro w4 ⟨⟨W4, hb4⟩, rfl⟩
                have HB4 := hidE (Below.on HBR.out hb4)
                clear fx0 fy0 fx1 fy1 fx2 fy2 fx3 fy3 up_ne hb4
                go_wp2_with fail
                go_ret
                exact ⟨by rw [HF.out]; rfl, HB4.out⟩
            · have b2 : (x2 == y2) = false := beq_eq_false_iff_ne.2 e2
              have HF : Hid (D = false) := by
                show _ = _
                rw [← HD.out]
                exact decide_eq_false (ne_at HXY.out.1 HXY.out.2 fun e => e2 (by injections))
              clear e2
              go_upto_region 6 with fail
              refine wp_up (by kernel_rfl) (by kernel_rfl) ?_
              repeat (go_big_quiet_step (fail))
              refine wpQuiet_nil ?_
              rintro w4 ⟨⟨W4, hb4⟩, rfl⟩
              have HB4 := hidE (Below.on HBR.out hb4)
              clear fx0 fy0 fx1 fy1 fx2 fy2 fx3 fy3 up_ne hb4
              go_wp2_with fail
              go_ret
              exact ⟨by rw [HF.out]; rfl, HB4.out⟩
          · have b1 := str_no e1
            have HF : Hid (D = false) := by
              show _ = _
              rw [← HD.out]
              exact decide_eq_false (ne_at HXY.out.1 HXY.out.2 fun e => e1 (by injections))
            clear e1
            go_upto_region 6 with fail
            refine wp_up (by kernel_rfl) (by kernel_rfl) ?_
            repeat (go_big_quiet_step (fail))
            refine wpQuiet_nil ?_
            rintro w4 ⟨⟨W4, hb4⟩, rfl⟩
            have HB4 := hidE (Below.on HBR.out hb4)
            clear fx0 fy0 fx1 fy1 fx2 fy2 fx3 fy3 up_ne hb4
            go_wp2_with fail
            go_ret
            exact ⟨by rw [HF.out]; rfl, HB4.out⟩
        · have b0 := str_no e0
          have HF : Hid (D = false) := by
            show _ = _
            rw [← HD.out]
            exact decide_eq_false (ne_at HXY.out.1 HXY.out.2 fun e => e0 (by injections))
          clear e0
          go_upto_region 6 with fail
          refine wp_up (by kernel_rfl) (by kernel_rfl) ?_
          repeat (go_big_quiet_step (fail))
          refine wpQuiet_nil ?_
          rintro w4 ⟨⟨W4, hb4⟩, rfl⟩
          have HB4 := hidE (Below.on HBR.out hb4)
          clear fx0 fy0 fx1 fy1 fx2 fy2 fx3 fy3 up_ne hb4
          go_wp2_with fail
          go_ret
          exact ⟨by rw [HF.out]; rfl, HB4.out⟩
      · have hlt' : ¬ (j : Int) < m := by omega
        have HF : Hid (D = true) := by
          show _ = _
          rw [← HD.out]
          exact decide_eq_true (take_all_eq HTE.out (by have := HM.out.1; omega) (by have := HM.out.2; omega))
        go_wp2_with fail
        go_ret
        exact ⟨by rw [HF.out]; rfl, HBR.out⟩
  · have HF : Hid (D = false) := by
      show _ = _
      rw [← HD.out]
      exact decide_eq_false fun e => hl (by rw [← HM.out.1, ← HM.out.2, e])
    have hl' : ((m : Int) == m') = false := by
      apply beq_eq_false_iff_ne.2
      omega
    go_enter Tryz.func81, Tryz.ntmps81
    go_wp2_with fail
    go_ret
    exact ⟨by rw [HF.out]; rfl, Below.refl _ _⟩
end Go.Proofs.YthfilnflgahcjaaGreatDoor
