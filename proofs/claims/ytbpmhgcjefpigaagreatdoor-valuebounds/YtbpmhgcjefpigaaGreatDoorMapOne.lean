/- A map of a key that stands twice is none. -/
import Derived.Test.YtbpmhgcjefpigaaGreatDoorMapTwo
import Derived.Test.YtbpmhgcjefpigaaGreatDoorTotal
namespace Go.Proofs.YtbpmhgcjefpigaaGreatDoor
open Go.RowKit Go.Shelf Go.WideShapes
set_option linter.unusedVariables false

set_option maxRecDepth 100000 in
set_option maxHeartbeats 4000000 in
theorem map_eq (k0 : ByteArray) (T0 T1 : Tree) (b off kc lb loff lc : Nat) (w : World) (hb : b < w.heap.size) (h1 : w.cell? ⟨b, off, none⟩ = some (.string k0)) (h2 : w.cell? ⟨b, off + 1, none⟩ = some (.string k0))
    (hlb : lb < w.heap.size) (hk : KidsLie w.heap.size w lb loff [T0, T1]) (ht0 : T0.total ≤ 1000000) :
    Calls Tryz.prog 50 #[.slice (some ⟨b, off, none⟩) 2 kc, .slice (some ⟨lb, loff, none⟩) 2 lc] w fun e w' => e = .returned (.tuple #[leaf 0 false 0 ⟨#[]⟩, .int .i64 2]) ∧ Below w.heap.size w w' := by
  obtain ⟨u0, u1, u2, u3, u4, u5⟩ := T0
  obtain ⟨v0, v1, v2, v3, v4, v5⟩ := T1
  obtain ⟨ua, uc, ul, ud, ⟨a0, a1, a2, a3, a4, a5⟩, hL0⟩ := hk.cells (i := 0) rfl
  obtain ⟨va, vc, vl, vd, ⟨b0, b1, b2, b3, b4, b5⟩, hL1⟩ := hk.cells (i := 1) rfl
  have hne : (k0.toList == k0.toList) = true := by simp
  have HNE := hidE hne
  clear hne hk
  have hpl : placesOf k0 k0 = #[0, 1] := by
    have := cmpB_turn k0.data.toList k0.data.toList
    unfold placesOf; rw [if_neg (by omega)]
  obtain ⟨W2, hW2⟩ : ∃ W2, (w.alloc (.cells #[.int .i64 0, .bool false, .int .i64 0, .string ⟨#[]⟩, .slice none 0 0, .slice none 0 0] 26)).alloc (.cells #[.int .i64 5, .bool false, .int .i64 0, .string ⟨#[]⟩, .slice none 0 0, .slice none 0 0] 26) = W2 := ⟨_, rfl⟩
  have HX : Hid (∀ w1, Below W2.heap.size W2 w1 → (Below w.heap.size w w1 ∧ (∀ i v, (#[Value.int .i64 0, .bool false, .int .i64 0, .string ⟨#[]⟩, .slice none 0 0, .slice none 0 0] : Array Value)[i]? = some v → w1.cell? ⟨w.heap.size, i, none⟩ = some v) ∧ (∀ i v, (#[Value.int .i64 5, .bool false, .int .i64 0, .string ⟨#[]⟩, .slice none 0 0, .slice none 0 0] : Array Value)[i]? = some v → w1.cell? ⟨w.heap.size + 1, i, none⟩ = some v)) ∧
      (∀ i, w1.frozen? ⟨w.heap.size, i, none⟩ = false) ∧ (∀ i, w1.frozen? ⟨w.heap.size + 1, i, none⟩ = false)) := fun w1 hb => by
    rw [← hW2] at hb
    exact ⟨two_boxes hb, box_frozen hb⟩
  have hs2 : W2.heap.size = w.heap.size + 2 := by rw [← hW2]; simp
  have hbW := (HX.out W2 (Below.refl _ _)).1.1
  have HBK := hidE (bykeys_two b off kc k0 k0 W2 (by omega) ((hbW.cell (p := ⟨b, off, none⟩) hb).trans h1) ((hbW.cell (p := ⟨b, off + 1, none⟩) hb).trans h2))
  rw [hpl] at HBK
  have HW2 := hidE hW2
  clear hW2
  go_enter Tryz.func50, Tryz.ntmps50
  go_wp2_with fail
  rw [HW2.out]
  refine HBK.out.mono ?_
  rintro e w3 ⟨rfl, hb3, hsz3, p0, p1⟩
  rw [hs2] at hsz3 p0 p1
  obtain ⟨⟨hbw3, hq, hr⟩, fz, fy⟩ := HX.out w3 hb3
  have p0' : w3.cell? ⟨w.heap.size + 2 + 1, 0, none⟩ = some (.int .i64 0) := p0
  have p1' : w3.cell? ⟨w.heap.size + 2 + 1, 1, none⟩ = some (.int .i64 1) := p1
  have x4 := hr 4 _ rfl
  have x5 := hr 5 _ rfl
  clear p0 p1
  go_wp2_with fail
  refine wp_loop_rounds 3 ?_
  rw [rounds_succ]
  go_upto_region 8 with fail
  go_quiet (fail)
  go_upto_region 10 with fail
  have hc2 := (hbw3.cell (p := ⟨b, off, none⟩) hb).trans h1
  show (Code.region 10 RK10 true).wp _ _ _ _
  refine regionK10 (w.heap.size + 1) b off 2 kc 0 0 (.slice none 0 0) [] k0 w3.heap.size _ _ _ ⟨rfl, rfl, rfl, rfl⟩ ⟨x4, fy 4, hc2, by omega, by omega, World.ownsRow_nil _ _ _ _, by omega, Nat.le_refl _, by omega⟩ ?_
  intro c kg kcap W4 hS hown4 hgr4 hob4
  have hl : c = ⟨#[Value.slice (some { block := b, off := off }) 2 kc, Value.slice (some { block := lb, off := loff }) 2 lc, undef, undef, Value.pointer (some { block := w.heap.size, off := 0 }), Value.int IntKind.i64 0, Value.pointer (some { block := w.heap.size + 1, off := 0 }), undef, Value.int IntKind.i64 0, Value.int IntKind.i64 0, Value.slice (some { block := b, off := off }) 2 kc, Value.int IntKind.i64 2, Value.slice (some { block := lb, off := loff }) 2 lc, Value.int IntKind.i64 2, Value.bool false, undef, Value.agg #[Value.int IntKind.i64 5, Value.bool false, Value.int IntKind.i64 0, Value.string { data := #[] }, Value.slice none 0 0, Value.slice none 0 0], Value.slice (some { block := b, off := off }) 2 kc, Value.slice (some { block := w.heap.size + 2 + 1, off := 0 }) 2 2, Value.int IntKind.i64 2, Value.int IntKind.i64 0, Value.bool true, Value.pointer (some { block := w.heap.size + 2 + 1, off := 0 }), Value.int IntKind.i64 0, Value.pointer (some { block := w.heap.size + 1, off := 4 }), Value.slice none 0 0, Value.int IntKind.i64 0, Value.int IntKind.i64 0, Value.bool false, Value.bool false, undef, undef, undef, undef, undef, undef, undef, undef, undef, undef, undef, Value.bool false, undef, c.eval (.tmp 43), c.eval (.tmp 44), c.eval (.tmp 45), c.eval (.tmp 46), c.eval (.tmp 47), c.eval (.tmp 48), c.eval (.tmp 49), c.eval (.tmp 50), c.eval (.tmp 51), undef, undef, undef, undef, undef, undef, undef, undef, undef, undef, undef, undef], []⟩ := (same_lay hS).trans (by kernel_rfl)
  generalize c.eval (.tmp 43) = y43 at hl
  generalize c.eval (.tmp 44) = y44 at hl
  generalize c.eval (.tmp 45) = y45 at hl
  generalize c.eval (.tmp 46) = y46 at hl
  generalize c.eval (.tmp 47) = y47 at hl
  generalize c.eval (.tmp 48) = y48 at hl
  generalize c.eval (.tmp 49) = y49 at hl
  generalize c.eval (.tmp 50) = y50 at hl
  generalize c.eval (.tmp 51) = y51 at hl
  clear hS
  subst hl
  have hgr4' : w3.grownBy W4 none := ⟨hgr4.os, hgr4.tape, hgr4.output, hgr4.size, hgr4.block⟩
  obtain ⟨w4, hw4⟩ : ∃ w4, W4.setCell ⟨w.heap.size + 1, 4, none⟩ (.slice (some ⟨kg, 0, none⟩) (0 + 1) kcap) = w4 := ⟨_, rfl⟩
  have hs4 : w3.heap.size ≤ w4.heap.size := by rw [← hw4]; simpa using hgr4'.size
  have hc4 : ∀ q o, q < w3.heap.size → (q ≠ w.heap.size + 1 ∨ o ≠ 4) → w4.cell? ⟨q, o, none⟩ = w3.cell? ⟨q, o, none⟩ := fun q o h h' => hw4 ▸ after_cell hgr4' _ _ _ h (by simp) h'
  have hf4 : ∀ q o, q < w3.heap.size → w4.frozen? ⟨q, o, none⟩ = w3.frozen? ⟨q, o, none⟩ := fun q o h => hw4 ▸ after_frozen hgr4' _ _ _ h (by simp)
  have hb4 : w4.cell? ⟨w.heap.size + 1, 4, none⟩ = some (.slice (some ⟨kg, 0, none⟩) (0 + 1) kcap) := hw4 ▸ after_box hgr4' _ x4 (by simp)
  have hbw4 : Below w.heap.size w w4 := hw4 ▸ after_below hbw3 hgr4' (by simp) hbw3.size (by omega) _
  have hko4 : w4.ownsRow w3.heap.size 9 1 (.slice (some ⟨kg, 0, none⟩) (0 + 1) kcap) (0 + 1) [.string k0] := hw4 ▸ ownsRow_setCell_below hown4 (by show w.heap.size + 1 < _; omega) _
  have z5 := (hc4 (w.heap.size + 1) 5 (by omega) (by omega)).trans x5
  have z5f := (hf4 (w.heap.size + 1) 5 (by omega)).trans (fy 5)
  have HF4 := hidE (And.intro hs4 (And.intro hc4 (And.intro hf4 (And.intro hb4 (And.intro hbw4 hko4)))))
  have HB3 := hidE (And.intro hb3 (And.intro hbw3 (And.intro hq (And.intro hr (And.intro fz fy)))))
  rw [hw4]
  clear hs4 hc4 hf4 hb4 hbw4 hko4 hw4 hown4 hgr4 hgr4' hb3 hbw3 hq hr fz fy
  go_upto_region 11 with fail
  show (Code.region 11 RK11 true).wp _ _ _ _
  have hB4 := HF4.out.2.2.2.2.1
  refine regionK11 (w.heap.size + 1) lb loff 2 lc 0 0 (.slice none 0 0) [] u0 u1 u2 u3 ua u4.length uc ul u5.length ud (.mk u0 u1 u2 u3 u4 u5) w4.heap.size _ _ _ ⟨rfl, rfl, rfl, rfl⟩
    ⟨z5, z5f, (hB4.cell (p := ⟨lb, _, none⟩) hlb).trans a0, (hB4.cell (p := ⟨lb, _, none⟩) hlb).trans a1, (hB4.cell (p := ⟨lb, _, none⟩) hlb).trans a2, (hB4.cell (p := ⟨lb, _, none⟩) hlb).trans a3, (hB4.cell (p := ⟨lb, _, none⟩) hlb).trans a4, (hB4.cell (p := ⟨lb, _, none⟩) hlb).trans a5, by omega, by omega, World.ownsRow_nil _ _ _ _, by omega, Nat.le_refl _, by have := HF4.out.1; omega, (hL0.below hB4).mono hB4.size, ht0⟩ ?_
  intro c lg lcap W5 e0 e1 e2 e3 e4 e5 hi5 hS hown5 hgr5 hlr5 hhi5 hob5
  have hl : c = ⟨#[Value.slice (some { block := b, off := off }) 2 kc, Value.slice (some { block := lb, off := loff }) 2 lc, undef, undef, Value.pointer (some { block := w.heap.size, off := 0 }), Value.int IntKind.i64 0, Value.pointer (some { block := w.heap.size + 1, off := 0 }), undef, Value.int IntKind.i64 0, Value.int IntKind.i64 0, Value.slice (some { block := b, off := off }) 2 kc, Value.int IntKind.i64 2, Value.slice (some { block := lb, off := loff }) 2 lc, Value.int IntKind.i64 2, Value.bool false, undef, Value.agg #[Value.int IntKind.i64 5, Value.bool false, Value.int IntKind.i64 0, Value.string { data := #[] }, Value.slice none 0 0, Value.slice none 0 0], Value.slice (some { block := b, off := off }) 2 kc, Value.slice (some { block := w.heap.size + 2 + 1, off := 0 }) 2 2, Value.int IntKind.i64 2, Value.int IntKind.i64 0, Value.bool true, Value.pointer (some { block := w.heap.size + 2 + 1, off := 0 }), Value.int IntKind.i64 0, Value.pointer (some { block := w.heap.size + 1, off := 4 }), Value.slice none 0 0, Value.int IntKind.i64 0, Value.int IntKind.i64 0, Value.bool false, Value.bool false, undef, undef, undef, undef, undef, undef, undef, undef, undef, undef, undef, Value.bool false, undef, y43, y44, y45, y46, y47, y48, y49, y50, y51, c.eval (.tmp 52), c.eval (.tmp 53), c.eval (.tmp 54), c.eval (.tmp 55), c.eval (.tmp 56), c.eval (.tmp 57), c.eval (.tmp 58), c.eval (.tmp 59), c.eval (.tmp 60), c.eval (.tmp 61), undef, undef], []⟩ := (same_lay hS).trans (by kernel_rfl)
  generalize c.eval (.tmp 52) = z52 at hl
  generalize c.eval (.tmp 53) = z53 at hl
  generalize c.eval (.tmp 54) = z54 at hl
  generalize c.eval (.tmp 55) = z55 at hl
  generalize c.eval (.tmp 56) = z56 at hl
  generalize c.eval (.tmp 57) = z57 at hl
  generalize c.eval (.tmp 58) = z58 at hl
  generalize c.eval (.tmp 59) = z59 at hl
  generalize c.eval (.tmp 60) = z60 at hl
  generalize c.eval (.tmp 61) = z61 at hl
  clear hS
  subst hl
  have hi5' : hi5 ≤ lg := by
    rcases hob5 with h | h
    · cases h
    · exact h
  have hgr5' : w4.grownBy W5 none := ⟨hgr5.os, hgr5.tape, hgr5.output, hgr5.size, hgr5.block⟩
  obtain ⟨w5, hw5⟩ : ∃ w5, W5.setCell ⟨w.heap.size + 1, 5, none⟩ (.slice (some ⟨lg, 0, none⟩) (0 + 1) lcap) = w5 := ⟨_, rfl⟩
  obtain ⟨hs4, hc4, hf4, hb4, hbw4, hko4⟩ := HF4.out
  obtain ⟨hb3, hbw3, hq, hr, fz, fy⟩ := HB3.out
  have hs5 : w4.heap.size ≤ w5.heap.size := by rw [← hw5]; simpa using hgr5'.size
  have hc5 : ∀ q o, q < w4.heap.size → (q ≠ w.heap.size + 1 ∨ o ≠ 5) → w5.cell? ⟨q, o, none⟩ = w4.cell? ⟨q, o, none⟩ := fun q o h h' => hw5 ▸ after_cell hgr5' _ _ _ h (by simp) h'
  have hf5 : ∀ q o, q < w4.heap.size → w5.frozen? ⟨q, o, none⟩ = w4.frozen? ⟨q, o, none⟩ := fun q o h => hw5 ▸ after_frozen hgr5' _ _ _ h (by simp)
  have hb5 : w5.cell? ⟨w.heap.size + 1, 5, none⟩ = some (.slice (some ⟨lg, 0, none⟩) (0 + 1) lcap) := hw5 ▸ after_box hgr5' _ z5 (by simp)
  have hbw5 : Below w.heap.size w w5 := hw5 ▸ after_below hbw4 hgr5' (by simp) hbw4.size (by omega) _
  have hko5 : w5.ownsRow w3.heap.size 9 1 (.slice (some ⟨kg, 0, none⟩) (0 + 1) kcap) (0 + 1) [.string k0] := hw5 ▸ ownsRow_setCell_below (hko4.kept hgr5' (.inr (by simp [Value.ownBlock]))) (by show w.heap.size + 1 < _; omega) _
  have hlo5 : w5.ownsRow w4.heap.size 26 6 (.slice (some ⟨lg, 0, none⟩) (0 + 1) lcap) (0 + 1) [e0, e1, e2, e3, e4, e5] := hw5 ▸ ownsRow_setCell_below hown5 (by show w.heap.size + 1 < _; omega) _
  have hkc5 : w5.cell? ⟨kg, 0, none⟩ = some (.string k0) := by
    have := hko5.cells (g := kg) rfl 0 (.string k0) rfl
    rw [add_plain] at this; exact this
  have pl5 : w5.cell? ⟨w.heap.size + 2 + 1, 1, none⟩ = some (.int .i64 1) := (hc5 _ _ (by omega) (by omega)).trans ((hc4 _ _ (by omega) (by omega)).trans p1')
  have kb5 : w5.cell? ⟨w.heap.size + 1, 4, none⟩ = some (.slice (some ⟨kg, 0, none⟩) 1 kcap) := (hc5 _ _ (by omega) (by omega)).trans hb4
  have kk5 : w5.cell? ⟨b, off + 1, none⟩ = some (.string k0) := (hbw5.cell (p := ⟨b, off + 1, none⟩) hb).trans h2
  have lcp := (ownsRow_caps hko5 rfl).1
  have hne := HNE.out
  have fz7 : ∀ o, w5.frozen? ⟨w.heap.size, o, none⟩ = false := fun o => (hf5 _ _ (by omega)).trans ((hf4 _ _ (by omega)).trans (fz o))
  have q7 : ∀ o v, (#[Value.int .i64 0, .bool false, .int .i64 0, .string ⟨#[]⟩, .slice none 0 0, .slice none 0 0] : Array Value)[o]? = some v → w5.cell? ⟨w.heap.size, o, none⟩ = some v := fun o v h => (hc5 _ _ (by omega) (by omega)).trans ((hc4 _ _ (by omega) (by omega)).trans (hq o v h))
  have m0 := q7 0 _ rfl
  have n0 := fz7 0
  have m1 := q7 1 _ rfl
  have n1 := fz7 1
  have m2 := q7 2 _ rfl
  have n2 := fz7 2
  have m3 := q7 3 _ rfl
  have n3 := fz7 3
  have m4 := q7 4 _ rfl
  have n4 := fz7 4
  have m5 := q7 5 _ rfl
  have n5 := fz7 5
  have HBW5 := hidE hbw5
  rw [hw5]
  clear fz7 q7 hs5 hc5 hf5 hb5 hbw5 hko5 hlo5 hw5 hown5 hgr5 hgr5' hlr5 hhi5 hob5 hi5' hs4 hc4 hf4 hb4 hbw4 hko4 hb3 hbw3 hq hr fz fy z5 z5f x4 x5 p0' p1' hB4 hc2 h1 h2 hob4
  go_wp2_with fail
  rw [rounds_succ]
  go_upto_region 8 with fail
  go_quiet (fail)
  go_wp2_with fail
  have HFB : Hid (Below w.heap.size w (six (w5.drewN nq) w.heap.size 0 (.int .i64 0) (.bool false) (.int .i64 0) (.string ⟨#[]⟩) (.slice none 0 0) (.slice none 0 0))) := six_below (below_drewN' HBW5.out _) (Nat.le_refl _) _ _ _ _ _ _
  exact bodyPost_ret (v := .tuple #[leaf 0 false 0 ⟨#[]⟩, .int .i64 2]) (by simp [results, Tryz.results50, go_sem, m0, m1, m2, m3, m4, m5]) rfl ⟨rfl, HFB.out⟩

end Go.Proofs.YtbpmhgcjefpigaaGreatDoor
