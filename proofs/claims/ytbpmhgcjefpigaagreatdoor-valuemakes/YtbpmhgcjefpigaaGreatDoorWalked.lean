/- works, walked. -/
import Derived.Test.YtbpmhgcjefpigaaGreatDoorWorksR4
namespace Go.Proofs.YtbpmhgcjefpigaaGreatDoor
open Go.RowKit Go.Shelf Go.Lib
set_option linter.unusedVariables false
set_option linter.unusedSimpArgs false
set_option maxRecDepth 100000 in
set_option maxHeartbeats 4000000 in
theorem works_any (w : World) (hT : Tabs w) (hP : TabBelow Tryz.prog w.heap.size w "internal/strconv.uint64pow10" .u64 pow10Tab) :
    Calls Tryz.prog 16 #[] w fun e w' => e = .returned (.bool true) ∧ Below w.heap.size w w' := by
  have HP := hidE (And.intro hT hP)
  clear hT hP
  obtain ⟨W1, hW1⟩ : ∃ W1, w.alloc (.cells #[.string ⟨#[98]⟩, .string ⟨#[97, 32, 98]⟩] 9) = W1 := ⟨_, rfl⟩
  have HW1 := hidE hW1
  have hb1 : Below w.heap.size w W1 := hW1 ▸ (Below.refl _ _).alloc (Nat.le_refl _) _
  have hk0 : W1.cell? ⟨w.heap.size, 0, none⟩ = some (.string ⟨#[98]⟩) := hW1 ▸ cell_new _ _ _ 0 _ rfl
  have hk1 : W1.cell? ⟨w.heap.size, 1, none⟩ = some (.string ⟨#[97, 32, 98]⟩) := hW1 ▸ cell_new _ _ _ 1 _ rfl
  have HX1 := hidE (And.intro hb1 (And.intro hk0 hk1))
  clear hW1 hb1 hk0 hk1
  go_enter Tryz.func16, Tryz.ntmps16
  go_wp2_with fail
  rw [HW1.out]
  refine (int_any 2 W1).mono ?_
  rintro e w2 ⟨rfl, hb2⟩
  go_wp2_with fail
  refine (null_any w2).mono ?_
  rintro e w3 ⟨rfl, hb3⟩
  go_wp2_with fail
  refine (bool_any true w3).mono ?_
  rintro e w4 ⟨rfl, hb4⟩
  have hb14 : Below W1.heap.size W1 w4 := below_on (below_on hb2 hb3) hb4
  have HB14 := hidE hb14
  clear hb2 hb3 hb4 hb14
  obtain ⟨W5, hW5⟩ : ∃ W5, w4.alloc (.cells #[.int .i64 0, .bool false, .int .i64 0, .string ⟨#[]⟩, .slice none 0 0, .slice none 0 0, .int .i64 1, .bool true, .int .i64 0, .string ⟨#[]⟩, .slice none 0 0, .slice none 0 0] 26) = W5 := ⟨_, rfl⟩
  have hb5 : Below w4.heap.size w4 W5 := hW5 ▸ (Below.refl _ _).alloc (Nat.le_refl _) _
  have hq5 : W5.heap[w4.heap.size]? = some (.cells #[.int .i64 0, .bool false, .int .i64 0, .string ⟨#[]⟩, .slice none 0 0, .slice none 0 0, .int .i64 1, .bool true, .int .i64 0, .string ⟨#[]⟩, .slice none 0 0, .slice none 0 0] 26 (0, 0)) := hW5 ▸ World.alloc_heap_new _ _
  have hs5 : w4.heap.size < W5.heap.size := (Array.getElem?_eq_some_iff.1 hq5).1
  have hkl5 : KidsLie W5.heap.size W5 w4.heap.size 0 [leafT 0 false 0, leafT 1 true 0] := two_kids hq5 (leaf_lies 0 false 0 _ _) (leaf_lies 1 true 0 _ _)
  have HL5 := hidE (list_any [leafT 0 false 0, leafT 1 true 0] W5.heap.size (some ⟨w4.heap.size, 0, none⟩) 2 W5 (Nat.le_refl _) (.inr ⟨_, _, rfl, hs5, hkl5⟩) (Nat.le_refl _) (by unfold maxLen; omega) (by decide))
  have HW5 := hidE hW5
  have HB5 := hidE hb5
  clear hW5 hb5 hq5 hs5 hkl5
  go_wp2_with fail
  rw [HW5.out]
  refine HL5.out.mono ?_
  rintro e w6 ⟨lv, rfl, hl6, hb6⟩
  have HL6 : Hid (Lies w6.heap.size w6 lv listT) := hl6
  have hl6' : Lies w6.heap.size w6 lv (.mk 4 false 0 ⟨#[]⟩ [] [leafT 0 false 0, leafT 1 true 0]) := hl6
  simp only [Lies] at hl6'
  obtain ⟨lka, lkc, lla, llc, rfl, -⟩ := hl6'
  have hb16 : Below W1.heap.size W1 w6 := below_on (below_on HB14.out HB5.out) hb6
  have HB16 := hidE hb16
  clear hb6 hl6 hb16 HL5 HB5 HB14 HW5
  obtain ⟨W7, hW7⟩ : ∃ W7, w6.alloc (.cells #[.int .i64 2, .bool false, .int .i64 2, .string ⟨#[]⟩, .slice none 0 0, .slice none 0 0, .int .i64 4, .bool false, .int .i64 0, .string ⟨#[]⟩, .slice lka 0 lkc, .slice lla 2 llc] 26) = W7 := ⟨_, rfl⟩
  have hb7 : Below w6.heap.size w6 W7 := hW7 ▸ (Below.refl _ _).alloc (Nat.le_refl _) _
  have hq7 : W7.heap[w6.heap.size]? = some (.cells #[.int .i64 2, .bool false, .int .i64 2, .string ⟨#[]⟩, .slice none 0 0, .slice none 0 0, .int .i64 4, .bool false, .int .i64 0, .string ⟨#[]⟩, .slice lka 0 lkc, .slice lla 2 llc] 26 (0, 0)) := hW7 ▸ World.alloc_heap_new _ _
  have hs7 : w6.heap.size < W7.heap.size := (Array.getElem?_eq_some_iff.1 hq7).1
  have hb17 : Below W1.heap.size W1 W7 := below_on HB16.out hb7
  have hkl7 : KidsLie W7.heap.size W7 w6.heap.size 0 [leafT 2 false 2, listT] := two_kids (ks := []) (ts := []) (ks' := []) (ts' := [leafT 0 false 0, leafT 1 true 0]) hq7 (leaf_lies 2 false 2 _ _) ((HL6.out.below hb7).mono hb7.size)
  obtain ⟨hx1, hx2, hx3⟩ := HX1.out
  have hkb : w.heap.size < W1.heap.size := lt_of_cell hx2
  have HM := hidE (map_lt ⟨#[98]⟩ ⟨#[97, 32, 98]⟩ (leafT 2 false 2) listT w.heap.size 0 2 w6.heap.size 0 2 W7 (Nat.lt_of_lt_of_le hkb hb17.size) ((hb17.cell (p := ⟨w.heap.size, 0, none⟩) hkb).trans hx2) ((hb17.cell (p := ⟨w.heap.size, 1, none⟩) hkb).trans hx3) hs7 hkl7 (by decide) (by decide) (by decide) (by decide) (by decide))
  have HW7 := hidE hW7
  have HB17 := hidE hb17
  clear hW7 hb7 hq7 hs7 hb17 hkl7 hx1 hx2 hx3 hkb HB16 HL6
  go_wp2_with fail
  rw [HW7.out]
  refine HM.out.mono ?_
  rintro e w8 ⟨mv, rfl, hl8, hb8⟩
  have HL8 : Hid (Lies w8.heap.size w8 mv mapT) := hl8
  simp only [Lies] at hl8
  obtain ⟨mka, mkc, mla, mlc, rfl, -⟩ := hl8
  have HB18 : Hid (Below W1.heap.size W1 w8) := below_on HB17.out hb8
  clear hb8 HM HB17 HW7
  obtain ⟨W9, hW9⟩ : ∃ W9, w8.alloc (.cells #[.int .i64 5, .bool false, .int .i64 0, .string ⟨#[]⟩, .slice mka 2 mkc, .slice mla 2 mlc] 26) = W9 := ⟨_, rfl⟩
  have hb9 : Below w8.heap.size w8 W9 := hW9 ▸ (Below.refl _ _).alloc (Nat.le_refl _) _
  have hq9 : W9.heap[w8.heap.size]? = some (.cells #[.int .i64 5, .bool false, .int .i64 0, .string ⟨#[]⟩, .slice mka 2 mkc, .slice mla 2 mlc] 26 (0, 0)) := hW9 ▸ World.alloc_heap_new _ _
  have hl9 : Lies w8.heap.size W9 (.agg #[.int .i64 5, .bool false, .int .i64 0, .string ⟨#[]⟩, .slice mka 2 mkc, .slice mla 2 mlc]) mapT := HL8.out.below hb9
  have hb19 : Below w.heap.size w W9 := below_on (below_on HX1.out.1 HB18.out) hb9
  have HTX := hidE (Text_any mapT easy_map check_map (by rw [tell_map]; decide) (by rw [tell_map]; decide) w8.heap.size _ W9 hb9.size hl9 (HP.out.1.below hb19) (fun w' h => HP.out.2 w' (hb19.trans (h.mono hb19.size))) modest_map)
  rw [tell_map] at HTX
  have HW9 := hidE hW9
  have HX9 := hidE (And.intro hb19 (And.intro hq9 hl9))
  clear hW9 hb9 hq9 hl9 hb19 HL8 HB18 HX1
  go_wp2_with fail
  rw [HW9.out]
  refine HTX.out.mono ?_
  rintro e w10 ⟨rfl, hb10⟩
  clear HTX
  obtain ⟨W12, hW12⟩ : ∃ W12, (w10.alloc (.cells #[.string ⟨#[97]⟩, .string ⟨#[97]⟩] 9)).alloc (.cells #[.int .i64 0, .bool false, .int .i64 0, .string ⟨#[]⟩, .slice none 0 0, .slice none 0 0, .int .i64 0, .bool false, .int .i64 0, .string ⟨#[]⟩, .slice none 0 0, .slice none 0 0] 26) = W12 := ⟨_, rfl⟩
  have hb11 : Below w10.heap.size w10 W12 := hW12 ▸ ((Below.refl _ _).alloc (Nat.le_refl _) _).alloc (by simp) _
  have hs12 : W12.heap.size = w10.heap.size + 2 := by rw [← hW12]; simp
  have hq12 : W12.heap[w10.heap.size + 1]? = some (.cells #[.int .i64 0, .bool false, .int .i64 0, .string ⟨#[]⟩, .slice none 0 0, .slice none 0 0, .int .i64 0, .bool false, .int .i64 0, .string ⟨#[]⟩, .slice none 0 0, .slice none 0 0] 26 (0, 0)) := by
    have h := World.alloc_heap_new (w10.alloc (.cells #[.string ⟨#[97]⟩, .string ⟨#[97]⟩] 9)) (.cells #[.int .i64 0, .bool false, .int .i64 0, .string ⟨#[]⟩, .slice none 0 0, .slice none 0 0, .int .i64 0, .bool false, .int .i64 0, .string ⟨#[]⟩, .slice none 0 0, .slice none 0 0] 26)
    rw [World.size_alloc, hW12] at h
    exact h
  have hc12 : ∀ i u, (#[Value.string ⟨#[97]⟩, .string ⟨#[97]⟩] : Array Value)[i]? = some u → W12.cell? ⟨w10.heap.size, i, none⟩ = some u := fun i u h => by
    rw [← hW12, World.cell?_alloc_lt _ _ _ (by show w10.heap.size < _; simp)]
    exact cell_new _ _ _ i _ h
  have hkl12 : KidsLie W12.heap.size W12 (w10.heap.size + 1) 0 [leafT 0 false 0, leafT 0 false 0] := two_kids hq12 (leaf_lies 0 false 0 _ _) (leaf_lies 0 false 0 _ _)
  have HM2 := hidE (map_eq ⟨#[97]⟩ (leafT 0 false 0) (leafT 0 false 0) w10.heap.size 0 2 (w10.heap.size + 1) 0 2 W12 (by omega) (hc12 0 _ rfl) (hc12 1 _ rfl) (by omega) hkl12 (by decide))
  have HW12 := hidE hW12
  have HB912 : Hid (Below W9.heap.size W9 W12) := below_on hb10 hb11
  clear hW12 hb11 hs12 hq12 hc12 hkl12 hb10
  go_wp2_with fail
  rw [HW12.out]
  refine HM2.out.mono ?_
  rintro e w13 ⟨rfl, hb13⟩
  have hb913 : Below W9.heap.size W9 w13 := below_on HB912.out hb13
  obtain ⟨W14, hW14⟩ : ∃ W14, w13.alloc (.cells #[.int .i64 0, .bool false, .int .i64 0, .string ⟨#[]⟩, .slice none 0 0, .slice none 0 0] 26) = W14 := ⟨_, rfl⟩
  have hb14 : Below W9.heap.size W9 W14 := hW14 ▸ below_on hb913 ((Below.refl _ _).alloc (Nat.le_refl _) _)
  have HW14 := hidE hW14
  have HB14 := hidE hb14
  clear hb13 hb913 hW14 hb14 HM2 HB912 HW12
  go_upto_region 4 with fail
  rw [HW14.out]
  show (Code.region 4 RW4 true).wp _ _ _ _
  obtain ⟨hb19, hq9, hl9⟩ := HX9.out
  have hlt9 : w8.heap.size < W9.heap.size := (Array.getElem?_eq_some_iff.1 hq9).1
  refine regionW4 w8.heap.size w8.heap.size mkc mlc mka mla _ _ W14 rfl ⟨rfl, rfl, rfl, rfl, rfl⟩ (fun w15 hb15 => ?_) ?_
  · have hb : Below W9.heap.size W9 w15 := below_on HB14.out hb15
    have hq : w15.heap[w8.heap.size]? = some (.cells #[.int .i64 5, .bool false, .int .i64 0, .string ⟨#[]⟩, .slice mka 2 mkc, .slice mla 2 mlc] 26 (0, 0)) := (hb.block _ hlt9).trans hq9
    exact ⟨box_cell hq rfl, box_cell hq rfl, box_cell hq rfl, box_cell hq rfl, box_cell hq rfl, box_cell hq rfl, hl9.below (hb.mono (Nat.le_of_lt hlt9)), Nat.le_trans (Nat.le_of_lt hlt9) hb.size, HP.out.1.below (below_on hb19 hb)⟩
  intro c w15 hS hb15 hv
  have HF : Hid (Below w.heap.size w w15) := below_on (below_on hb19 HB14.out) hb15
  clear hb15 hb19 hq9 hl9 hlt9
  have hl : c = ⟨#[c.eval (.tmp 0), Value.pointer (some { block := w8.heap.size, off := 0 }), Value.int IntKind.i64 0, Value.string { data := #[123, 96, 97, 32, 98, 96, 58, 32, 91, 110, 117, 108, 108, 44, 32, 116, 114, 117, 101, 93, 44, 32, 98, 58, 32, 50, 125] }, Value.int IntKind.i64 0, Value.pointer (some { block := w13.heap.size, off := 0 }), Value.int IntKind.i64 2, Value.tuple #[Value.agg #[Value.int IntKind.i64 5, Value.bool false, Value.int IntKind.i64 0, Value.string { data := #[] }, Value.slice mka 2 mkc, Value.slice mla 2 mlc], Value.int IntKind.i64 0], Value.slice (some { block := w.heap.size, off := 0 }) 2 2, leaf 2 false 2 { data := #[] }, leaf 0 false 0 { data := #[] }, leaf 1 true 0 { data := #[] }, Value.slice (some { block := w4.heap.size, off := 0 }) 2 2, Value.agg #[Value.int IntKind.i64 4, Value.bool false, Value.int IntKind.i64 0, Value.string { data := #[] }, Value.slice lka 0 lkc, Value.slice lla 2 llc], Value.slice (some { block := w6.heap.size, off := 0 }) 2 2, Value.tuple #[Value.agg #[Value.int IntKind.i64 5, Value.bool false, Value.int IntKind.i64 0, Value.string { data := #[] }, Value.slice mka 2 mkc, Value.slice mla 2 mlc], Value.int IntKind.i64 0], Value.agg #[Value.int IntKind.i64 5, Value.bool false, Value.int IntKind.i64 0, Value.string { data := #[] }, Value.slice mka 2 mkc, Value.slice mla 2 mlc], Value.int IntKind.i64 0, Value.tuple #[Value.string { data := #[123, 96, 97, 32, 98, 96, 58, 32, 91, 110, 117, 108, 108, 44, 32, 116, 114, 117, 101, 93, 44, 32, 98, 58, 32, 50, 125] }, Value.int IntKind.i64 0], Value.agg #[Value.int IntKind.i64 5, Value.bool false, Value.int IntKind.i64 0, Value.string { data := #[] }, Value.slice mka 2 mkc, Value.slice mla 2 mlc], Value.tuple #[Value.string { data := #[123, 96, 97, 32, 98, 96, 58, 32, 91, 110, 117, 108, 108, 44, 32, 116, 114, 117, 101, 93, 44, 32, 98, 58, 32, 50, 125] }, Value.int IntKind.i64 0], Value.string { data := #[123, 96, 97, 32, 98, 96, 58, 32, 91, 110, 117, 108, 108, 44, 32, 116, 114, 117, 101, 93, 44, 32, 98, 58, 32, 50, 125] }, Value.int IntKind.i64 0, Value.tuple #[leaf 0 false 0 { data := #[] }, Value.int IntKind.i64 2], Value.slice (some { block := w10.heap.size, off := 0 }) 2 2, Value.agg #[Value.int IntKind.i64 0, Value.bool false, Value.int IntKind.i64 0, Value.string { data := #[] }, Value.slice none 0 0, Value.slice none 0 0], Value.agg #[Value.int IntKind.i64 0, Value.bool false, Value.int IntKind.i64 0, Value.string { data := #[] }, Value.slice none 0 0, Value.slice none 0 0], Value.slice (some { block := w10.heap.size + 1, off := 0 }) 2 2, Value.tuple #[leaf 0 false 0 { data := #[] }, Value.int IntKind.i64 2], leaf 0 false 0 { data := #[] }, Value.int IntKind.i64 2, c.eval (.tmp 31), c.eval (.tmp 32), c.eval (.tmp 33), c.eval (.tmp 34), c.eval (.tmp 35), c.eval (.tmp 36), c.eval (.tmp 37), c.eval (.tmp 38), c.eval (.tmp 39), c.eval (.tmp 40), c.eval (.tmp 41), c.eval (.tmp 42), c.eval (.tmp 43), c.eval (.tmp 44), c.eval (.tmp 45), c.eval (.tmp 46), c.eval (.tmp 47), c.eval (.tmp 48), c.eval (.tmp 49), c.eval (.tmp 50), c.eval (.tmp 51), c.eval (.tmp 52), c.eval (.tmp 53), c.eval (.tmp 54), c.eval (.tmp 55), c.eval (.tmp 56), c.eval (.tmp 57), c.eval (.tmp 58), c.eval (.tmp 59), c.eval (.tmp 60), c.eval (.tmp 61), c.eval (.tmp 62), c.eval (.tmp 63), c.eval (.tmp 64), c.eval (.tmp 65), c.eval (.tmp 66), c.eval (.tmp 67), c.eval (.tmp 68), c.eval (.tmp 69)], []⟩ := (same_lay hS).trans (by kernel_rfl)
  rw [hv] at hl
  generalize c.eval (.tmp 31) = z31 at hl
  generalize c.eval (.tmp 32) = z32 at hl
  generalize c.eval (.tmp 33) = z33 at hl
  generalize c.eval (.tmp 34) = z34 at hl
  generalize c.eval (.tmp 35) = z35 at hl
  generalize c.eval (.tmp 36) = z36 at hl
  generalize c.eval (.tmp 37) = z37 at hl
  generalize c.eval (.tmp 38) = z38 at hl
  generalize c.eval (.tmp 39) = z39 at hl
  generalize c.eval (.tmp 40) = z40 at hl
  generalize c.eval (.tmp 41) = z41 at hl
  generalize c.eval (.tmp 42) = z42 at hl
  generalize c.eval (.tmp 43) = z43 at hl
  generalize c.eval (.tmp 44) = z44 at hl
  generalize c.eval (.tmp 45) = z45 at hl
  generalize c.eval (.tmp 46) = z46 at hl
  generalize c.eval (.tmp 47) = z47 at hl
  generalize c.eval (.tmp 48) = z48 at hl
  generalize c.eval (.tmp 49) = z49 at hl
  generalize c.eval (.tmp 50) = z50 at hl
  generalize c.eval (.tmp 51) = z51 at hl
  generalize c.eval (.tmp 52) = z52 at hl
  generalize c.eval (.tmp 53) = z53 at hl
  generalize c.eval (.tmp 54) = z54 at hl
  generalize c.eval (.tmp 55) = z55 at hl
  generalize c.eval (.tmp 56) = z56 at hl
  generalize c.eval (.tmp 57) = z57 at hl
  generalize c.eval (.tmp 58) = z58 at hl
  generalize c.eval (.tmp 59) = z59 at hl
  generalize c.eval (.tmp 60) = z60 at hl
  generalize c.eval (.tmp 61) = z61 at hl
  generalize c.eval (.tmp 62) = z62 at hl
  generalize c.eval (.tmp 63) = z63 at hl
  generalize c.eval (.tmp 64) = z64 at hl
  generalize c.eval (.tmp 65) = z65 at hl
  generalize c.eval (.tmp 66) = z66 at hl
  generalize c.eval (.tmp 67) = z67 at hl
  generalize c.eval (.tmp 68) = z68 at hl
  generalize c.eval (.tmp 69) = z69 at hl
  clear hS hv
  subst hl
  go_wp2_with fail
  go_ret
  exact ⟨rfl, HF.out⟩
end Go.Proofs.YtbpmhgcjefpigaaGreatDoor
