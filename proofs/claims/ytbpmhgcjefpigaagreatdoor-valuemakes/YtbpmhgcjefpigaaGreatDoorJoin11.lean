/- A map of a key that stands twice is none. List, and Less at every two values. -/
import Derived.Test.YtbpmhgcjefpigaaGreatDoorMapTwo
import Derived.Test.YtbpmhgcjefpigaaGreatDoorJoin8
namespace Go.Proofs.YtbpmhgcjefpigaaGreatDoor
open Go.RowKit Go.Shelf Go.WideShapes
set_option linter.unusedVariables false
set_option maxRecDepth 100000 in
set_option maxHeartbeats 4000000 in
theorem map_eq (k0 : ByteArray) (T0 T1 : Tree) (b off kc lb loff lc : Nat) (w : World) (hb : b < w.heap.size) (h1 : w.cell? ⟨b, off, none⟩ = some (.string k0)) (h2 : w.cell? ⟨b, off + 1, none⟩ = some (.string k0))
    (hlb : lb < w.heap.size) (hk : KidsLie w.heap.size w lb loff [T0, T1]) (ht0 : T0.total ≤ 1000000) :
    Calls Tryz.prog 50 #[.slice (some ⟨b, off, none⟩) 2 kc, .slice (some ⟨lb, loff, none⟩) 2 lc] w fun e w' => e = .returned (.tuple #[leaf 0 false 0 ⟨#[]⟩, .int .i64 2]) ∧ Below w.heap.size w w' := by
  obtain ⟨u0, u1, u2, u3, u4, u5⟩ := T0
  obtain ⟨v0, v1, v2, v3, v4, v5⟩ := T1
  obtain ⟨ua, uc, ul, ud, ⟨a0, a1, a2, a3, a4, a5⟩, hL0⟩ := hk.cells (i := 0) rfl
  obtain ⟨va, vc, vl, vd, ⟨b0, b1, b2, b3, b4, b5⟩, hL1⟩ := hk.cells (i := 1) rfl
  have hne : (k0.toList == k0.toList) = true := by simp
  have HNE := hidE hne
  clear hne hk
  have hpl : placesOf k0 k0 = #[0, 1] := by
    have := cmpB_turn k0.data.toList k0.data.toList
    unfold placesOf; rw [if_neg (by omega)]
  obtain ⟨W2, hW2⟩ : ∃ W2, (w.alloc (.cells #[.int .i64 0, .bool false, .int .i64 0, .string ⟨#[]⟩, .slice none 0 0, .slice none 0 0] 26)).alloc (.cells #[.int .i64 5, .bool false, .int .i64 0, .string ⟨#[]⟩, .slice none 0 0, .slice none 0 0] 26) = W2 := ⟨_, rfl⟩
  have HX : Hid (∀ w1, Below W2.heap.size W2 w1 → (Below w.heap.size w w1 ∧ (∀ i v, (#[Value.int .i64 0, .bool false, .int .i64 0, .string ⟨#[]⟩, .slice none 0 0, .slice none 0 0] : Array Value)[i]? = some v → w1.cell? ⟨w.heap.size, i, none⟩ = some v) ∧ (∀ i v, (#[Value.int .i64 5, .bool false, .int .i64 0, .string ⟨#[]⟩, .slice none 0 0, .slice none 0 0] : Array Value)[i]? = some v → w1.cell? ⟨w.heap.size + 1, i, none⟩ = some v)) ∧
      (∀ i, w1.frozen? ⟨w.heap.size, i, none⟩ = false) ∧ (∀ i, w1.frozen? ⟨w.heap.size + 1, i, none⟩ = false)) := fun w1 hb => by
    rw [← hW2] at hb
    exact ⟨two_boxes hb, box_frozen hb⟩
  have hs2 : W2.heap.size = w.heap.size + 2 := by rw [← hW2]; simp
  have hbW := (HX.out W2 (Below.refl _ _)).1.1
  have HBK := hidE (bykeys_two b off kc k0 k0 W2 (by omega) ((hbW.cell (p := ⟨b, off, none⟩) hb).trans h1) ((hbW.cell (p := ⟨b, off + 1, none⟩) hb).trans h2))
  rw [hpl] at HBK
  have HW2 := hidE hW2
  clear hW2
  go_enter Tryz.func50, Tryz.ntmps50
  go_wp2_with fail
  rw [HW2.out]
  refine HBK.out.mono ?_
  rintro e w3 ⟨rfl, hb3, hsz3, p0, p1⟩
  rw [hs2] at hsz3 p0 p1
  obtain ⟨⟨hbw3, hq, hr⟩, fz, fy⟩ := HX.out w3 hb3
  have p0' : w3.cell? ⟨w.heap.size + 2 + 1, 0, none⟩ = some (.int .i64 0) := p0
  have p1' : w3.cell? ⟨w.heap.size + 2 + 1, 1, none⟩ = some (.int .i64 1) := p1
  have x4 := hr 4 _ rfl
  have x5 := hr 5 _ rfl
  clear p0 p1
  go_wp2_with fail
  refine wp_loop_rounds 3 ?_
  rw [rounds_succ]
  go_upto_region 8 with fail
  go_quiet (fail)
  go_upto_region 10 with fail
  have hc2 := (hbw3.cell (p := ⟨b, off, none⟩) hb).trans h1
  show (Code.region 10 RK10 true).wp _ _ _ _
  refine regionK10 (w.heap.size + 1) b off 2 kc 0 0 (.slice none 0 0) [] k0 w3.heap.size _ _ _ ⟨rfl, rfl, rfl, rfl⟩ ⟨x4, fy 4, hc2, by omega, by omega, World.ownsRow_nil _ _ _ _, by omega, Nat.le_refl _, by omega⟩ ?_
  intro c kg kcap W4 hS hown4 hgr4 hob4
  have hl : c = ⟨#[Value.slice (some { block := b, off := off }) 2 kc, Value.slice (some { block := lb, off := loff }) 2 lc, undef, undef, Value.pointer (some { block := w.heap.size, off := 0 }), Value.int IntKind.i64 0, Value.pointer (some { block := w.heap.size + 1, off := 0 }), undef, Value.int IntKind.i64 0, Value.int IntKind.i64 0, Value.slice (some { block := b, off := off }) 2 kc, Value.int IntKind.i64 2, Value.slice (some { block := lb, off := loff }) 2 lc, Value.int IntKind.i64 2, Value.bool false, undef, Value.agg #[Value.int IntKind.i64 5, Value.bool false, Value.int IntKind.i64 0, Value.string { data := #[] }, Value.slice none 0 0, Value.slice none 0 0], Value.slice (some { block := b, off := off }) 2 kc, Value.slice (some { block := w.heap.size + 2 + 1, off := 0 }) 2 2, Value.int IntKind.i64 2, Value.int IntKind.i64 0, Value.bool true, Value.pointer (some { block := w.heap.size + 2 + 1, off := 0 }), Value.int IntKind.i64 0, Value.pointer (some { block := w.heap.size + 1, off := 4 }), Value.slice none 0 0, Value.int IntKind.i64 0, Value.int IntKind.i64 0, Value.bool false, Value.bool false, undef, undef, undef, undef, undef, undef, undef, undef, undef, undef, undef, Value.bool false, undef, c.eval (.tmp 43), c.eval (.tmp 44), c.eval (.tmp 45), c.eval (.tmp 46), c.eval (.tmp 47), c.eval (.tmp 48), c.eval (.tmp 49), c.eval (.tmp 50), c.eval (.tmp 51), undef, undef, undef, undef, undef, undef, undef, undef, undef, undef, undef, undef], []⟩ := (same_lay hS).trans (by kernel_rfl)
  generalize c.eval (.tmp 43) = y43 at hl
  generalize c.eval (.tmp 44) = y44 at hl
  generalize c.eval (.tmp 45) = y45 at hl
  generalize c.eval (.tmp 46) = y46 at hl
  generalize c.eval (.tmp 47) = y47 at hl
  generalize c.eval (.tmp 48) = y48 at hl
  generalize c.eval (.tmp 49) = y49 at hl
  generalize c.eval (.tmp 50) = y50 at hl
  generalize c.eval (.tmp 51) = y51 at hl
  clear hS
  subst hl
  have hgr4' : w3.grownBy W4 none := ⟨hgr4.os, hgr4.tape, hgr4.output, hgr4.size, hgr4.block⟩
  obtain ⟨w4, hw4⟩ : ∃ w4, W4.setCell ⟨w.heap.size + 1, 4, none⟩ (.slice (some ⟨kg, 0, none⟩) (0 + 1) kcap) = w4 := ⟨_, rfl⟩
  have hs4 : w3.heap.size ≤ w4.heap.size := by rw [← hw4]; simpa using hgr4'.size
  have hc4 : ∀ q o, q < w3.heap.size → (q ≠ w.heap.size + 1 ∨ o ≠ 4) → w4.cell? ⟨q, o, none⟩ = w3.cell? ⟨q, o, none⟩ := fun q o h h' => hw4 ▸ after_cell hgr4' _ _ _ h (by simp) h'
  have hf4 : ∀ q o, q < w3.heap.size → w4.frozen? ⟨q, o, none⟩ = w3.frozen? ⟨q, o, none⟩ := fun q o h => hw4 ▸ after_frozen hgr4' _ _ _ h (by simp)
  have hb4 : w4.cell? ⟨w.heap.size + 1, 4, none⟩ = some (.slice (some ⟨kg, 0, none⟩) (0 + 1) kcap) := hw4 ▸ after_box hgr4' _ x4 (by simp)
  have hbw4 : Below w.heap.size w w4 := hw4 ▸ after_below hbw3 hgr4' (by simp) hbw3.size (by omega) _
  have hko4 : w4.ownsRow w3.heap.size 9 1 (.slice (some ⟨kg, 0, none⟩) (0 + 1) kcap) (0 + 1) [.string k0] := hw4 ▸ ownsRow_setCell_below hown4 (by show w.heap.size + 1 < _; omega) _
  have z5 := (hc4 (w.heap.size + 1) 5 (by omega) (by omega)).trans x5
  have z5f := (hf4 (w.heap.size + 1) 5 (by omega)).trans (fy 5)
  have HF4 := hidE (And.intro hs4 (And.intro hc4 (And.intro hf4 (And.intro hb4 (And.intro hbw4 hko4)))))
  have HB3 := hidE (And.intro hb3 (And.intro hbw3 (And.intro hq (And.intro hr (And.intro fz fy)))))
  rw [hw4]
  clear hs4 hc4 hf4 hb4 hbw4 hko4 hw4 hown4 hgr4 hgr4' hb3 hbw3 hq hr fz fy
  go_upto_region 11 with fail
  show (Code.region 11 RK11 true).wp _ _ _ _
  have hB4 := HF4.out.2.2.2.2.1
  refine regionK11 (w.heap.size + 1) lb loff 2 lc 0 0 (.slice none 0 0) [] u0 u1 u2 u3 ua u4.length uc ul u5.length ud (.mk u0 u1 u2 u3 u4 u5) w4.heap.size _ _ _ ⟨rfl, rfl, rfl, rfl⟩
    ⟨z5, z5f, (hB4.cell (p := ⟨lb, _, none⟩) hlb).trans a0, (hB4.cell (p := ⟨lb, _, none⟩) hlb).trans a1, (hB4.cell (p := ⟨lb, _, none⟩) hlb).trans a2, (hB4.cell (p := ⟨lb, _, none⟩) hlb).trans a3, (hB4.cell (p := ⟨lb, _, none⟩) hlb).trans a4, (hB4.cell (p := ⟨lb, _, none⟩) hlb).trans a5, by omega, by omega, World.ownsRow_nil _ _ _ _, by omega, Nat.le_refl _, by have := HF4.out.1; omega, (hL0.below hB4).mono hB4.size, ht0⟩ ?_
  intro c lg lcap W5 e0 e1 e2 e3 e4 e5 hi5 hS hown5 hgr5 hlr5 hhi5 hob5
  have hl : c = ⟨#[Value.slice (some { block := b, off := off }) 2 kc, Value.slice (some { block := lb, off := loff }) 2 lc, undef, undef, Value.pointer (some { block := w.heap.size, off := 0 }), Value.int IntKind.i64 0, Value.pointer (some { block := w.heap.size + 1, off := 0 }), undef, Value.int IntKind.i64 0, Value.int IntKind.i64 0, Value.slice (some { block := b, off := off }) 2 kc, Value.int IntKind.i64 2, Value.slice (some { block := lb, off := loff }) 2 lc, Value.int IntKind.i64 2, Value.bool false, undef, Value.agg #[Value.int IntKind.i64 5, Value.bool false, Value.int IntKind.i64 0, Value.string { data := #[] }, Value.slice none 0 0, Value.slice none 0 0], Value.slice (some { block := b, off := off }) 2 kc, Value.slice (some { block := w.heap.size + 2 + 1, off := 0 }) 2 2, Value.int IntKind.i64 2, Value.int IntKind.i64 0, Value.bool true, Value.pointer (some { block := w.heap.size + 2 + 1, off := 0 }), Value.int IntKind.i64 0, Value.pointer (some { block := w.heap.size + 1, off := 4 }), Value.slice none 0 0, Value.int IntKind.i64 0, Value.int IntKind.i64 0, Value.bool false, Value.bool false, undef, undef, undef, undef, undef, undef, undef, undef, undef, undef, undef, Value.bool false, undef, y43, y44, y45, y46, y47, y48, y49, y50, y51, c.eval (.tmp 52), c.eval (.tmp 53), c.eval (.tmp 54), c.eval (.tmp 55), c.eval (.tmp 56), c.eval (.tmp 57), c.eval (.tmp 58), c.eval (.tmp 59), c.eval (.tmp 60), c.eval (.tmp 61), undef, undef], []⟩ := (same_lay hS).trans (by kernel_rfl)
  generalize c.eval (.tmp 52) = z52 at hl
  generalize c.eval (.tmp 53) = z53 at hl
  generalize c.eval (.tmp 54) = z54 at hl
  generalize c.eval (.tmp 55) = z55 at hl
  generalize c.eval (.tmp 56) = z56 at hl
  generalize c.eval (.tmp 57) = z57 at hl
  generalize c.eval (.tmp 58) = z58 at hl
  generalize c.eval (.tmp 59) = z59 at hl
  generalize c.eval (.tmp 60) = z60 at hl
  generalize c.eval (.tmp 61) = z61 at hl
  clear hS
  subst hl
  have hi5' : hi5 ≤ lg := by
    rcases hob5 with h | h
    · cases h
    · exact h
  have hgr5' : w4.grownBy W5 none := ⟨hgr5.os, hgr5.tape, hgr5.output, hgr5.size, hgr5.block⟩
  obtain ⟨w5, hw5⟩ : ∃ w5, W5.setCell ⟨w.heap.size + 1, 5, none⟩ (.slice (some ⟨lg, 0, none⟩) (0 + 1) lcap) = w5 := ⟨_, rfl⟩
  obtain ⟨hs4, hc4, hf4, hb4, hbw4, hko4⟩ := HF4.out
  obtain ⟨hb3, hbw3, hq, hr, fz, fy⟩ := HB3.out
  have hs5 : w4.heap.size ≤ w5.heap.size := by rw [← hw5]; simpa using hgr5'.size
  have hc5 : ∀ q o, q < w4.heap.size → (q ≠ w.heap.size + 1 ∨ o ≠ 5) → w5.cell? ⟨q, o, none⟩ = w4.cell? ⟨q, o, none⟩ := fun q o h h' => hw5 ▸ after_cell hgr5' _ _ _ h (by simp) h'
  have hf5 : ∀ q o, q < w4.heap.size → w5.frozen? ⟨q, o, none⟩ = w4.frozen? ⟨q, o, none⟩ := fun q o h => hw5 ▸ after_frozen hgr5' _ _ _ h (by simp)
  have hb5 : w5.cell? ⟨w.heap.size + 1, 5, none⟩ = some (.slice (some ⟨lg, 0, none⟩) (0 + 1) lcap) := hw5 ▸ after_box hgr5' _ z5 (by simp)
  have hbw5 : Below w.heap.size w w5 := hw5 ▸ after_below hbw4 hgr5' (by simp) hbw4.size (by omega) _
  have hko5 : w5.ownsRow w3.heap.size 9 1 (.slice (some ⟨kg, 0, none⟩) (0 + 1) kcap) (0 + 1) [.string k0] := hw5 ▸ ownsRow_setCell_below (hko4.kept hgr5' (.inr (by simp [Value.ownBlock]))) (by show w.heap.size + 1 < _; omega) _
  have hlo5 : w5.ownsRow w4.heap.size 26 6 (.slice (some ⟨lg, 0, none⟩) (0 + 1) lcap) (0 + 1) [e0, e1, e2, e3, e4, e5] := hw5 ▸ ownsRow_setCell_below hown5 (by show w.heap.size + 1 < _; omega) _
  have hkc5 : w5.cell? ⟨kg, 0, none⟩ = some (.string k0) := by
    have := hko5.cells (g := kg) rfl 0 (.string k0) rfl
    rw [add_plain] at this; exact this
  have pl5 : w5.cell? ⟨w.heap.size + 2 + 1, 1, none⟩ = some (.int .i64 1) := (hc5 _ _ (by omega) (by omega)).trans ((hc4 _ _ (by omega) (by omega)).trans p1')
  have kb5 : w5.cell? ⟨w.heap.size + 1, 4, none⟩ = some (.slice (some ⟨kg, 0, none⟩) 1 kcap) := (hc5 _ _ (by omega) (by omega)).trans hb4
  have kk5 : w5.cell? ⟨b, off + 1, none⟩ = some (.string k0) := (hbw5.cell (p := ⟨b, off + 1, none⟩) hb).trans h2
  have lcp := (ownsRow_caps hko5 rfl).1
  have hne := HNE.out
  have fz7 : ∀ o, w5.frozen? ⟨w.heap.size, o, none⟩ = false := fun o => (hf5 _ _ (by omega)).trans ((hf4 _ _ (by omega)).trans (fz o))
  have q7 : ∀ o v, (#[Value.int .i64 0, .bool false, .int .i64 0, .string ⟨#[]⟩, .slice none 0 0, .slice none 0 0] : Array Value)[o]? = some v → w5.cell? ⟨w.heap.size, o, none⟩ = some v := fun o v h => (hc5 _ _ (by omega) (by omega)).trans ((hc4 _ _ (by omega) (by omega)).trans (hq o v h))
  have m0 := q7 0 _ rfl
  have n0 := fz7 0
  have m1 := q7 1 _ rfl
  have n1 := fz7 1
  have m2 := q7 2 _ rfl
  have n2 := fz7 2
  have m3 := q7 3 _ rfl
  have n3 := fz7 3
  have m4 := q7 4 _ rfl
  have n4 := fz7 4
  have m5 := q7 5 _ rfl
  have n5 := fz7 5
  have HBW5 := hidE hbw5
  rw [hw5]
  clear fz7 q7 hs5 hc5 hf5 hb5 hbw5 hko5 hlo5 hw5 hown5 hgr5 hgr5' hlr5 hhi5 hob5 hi5' hs4 hc4 hf4 hb4 hbw4 hko4 hb3 hbw3 hq hr fz fy z5 z5f x4 x5 p0' p1' hB4 hc2 h1 h2 hob4
  go_wp2_with fail
  rw [rounds_succ]
  go_upto_region 8 with fail
  go_quiet (fail)
  go_wp2_with fail
  have HFB : Hid (Below w.heap.size w (six (w5.drewN nq) w.heap.size 0 (.int .i64 0) (.bool false) (.int .i64 0) (.string ⟨#[]⟩) (.slice none 0 0) (.slice none 0 0))) := six_below (below_drewN' HBW5.out _) (Nat.le_refl _) _ _ _ _ _ _
  exact bodyPost_ret (v := .tuple #[leaf 0 false 0 ⟨#[]⟩, .int .i64 2]) (by simp [results, Tryz.results50, go_sem, m0, m1, m2, m3, m4, m5]) rfl ⟨rfl, HFB.out⟩
end Go.Proofs.YtbpmhgcjefpigaaGreatDoor

namespace Go.Proofs.YtbpmhgcjefpigaaGreatDoor
open Go.RowKit Go.Shelf
set_option linter.unusedVariables false
theorem new_free (w : World) (A : Array Value) (t : TypeId) (i : Nat) : (w.alloc (.cells A t)).frozen? ⟨w.heap.size, i, none⟩ = false := by
  have h := World.alloc_heap_new w (.cells A t)
  unfold World.frozen?
  rw [show (⟨w.heap.size, i, none⟩ : Addr).block = w.heap.size from rfl, h]
  simp
set_option maxHeartbeats 1000000 in
theorem list_any (ts : List Tree) (B : Nat) (la : Option Addr) (lc : Nat) (w : World) (hB : B ≤ w.heap.size) (hl : ListLies B w la ts) (h1 : ts.length ≤ lc) (h2 : lc ≤ maxLen) (htot : Tree.totalL ts ≤ 1000000) :
    Calls Tryz.prog 52 #[.slice la ts.length lc] w fun e w' => ∃ v', e = .returned v' ∧ Lies w'.heap.size w' v' (.mk 4 false 0 ⟨#[]⟩ [] ts) ∧ Below w.heap.size w w' := by
  obtain ⟨W1, hW1⟩ : ∃ W1, w.alloc (.cells #[.int .i64 0, .bool false, .int .i64 0, .string ⟨#[]⟩, .slice none 0 0, .slice none 0 0] 26) = W1 := ⟨_, rfl⟩
  have hb1 : Below w.heap.size w W1 := hW1 ▸ (Below.refl _ _).alloc (Nat.le_refl _) _
  have hsz1 : W1.heap.size = w.heap.size + 1 := by rw [← hW1]; simp
  have HX : Hid (∀ w2, Below W1.heap.size W1 w2 → (∀ i v, (#[Value.int .i64 0, .bool false, .int .i64 0, .string ⟨#[]⟩, .slice none 0 0, .slice none 0 0] : Array Value)[i]? = some v → w2.cell? ⟨w.heap.size, i, none⟩ = some v) ∧ (∀ i, w2.frozen? ⟨w.heap.size, i, none⟩ = false)) := fun w2 hb => by
    have hlt : w.heap.size < W1.heap.size := by omega
    refine ⟨fun i v h => ?_, fun i => ?_⟩
    · rw [hb.cell (p := ⟨w.heap.size, i, none⟩) hlt, ← hW1]
      exact cell_new _ _ _ i _ h
    · rw [hb.frozen (p := ⟨w.heap.size, i, none⟩) hlt, ← hW1]
      exact new_free _ _ _ _
  have hl1 : ListLies W1.heap.size W1 la ts := hl.imp id fun ⟨bl, off, e, h3, h4⟩ => ⟨bl, off, e, by omega, (h4.below (hb1.mono hB) h3).mono (by omega)⟩
  have HC := hidE (copies_any ts (fun t _ => copy_any t) W1.heap.size la lc W1 (Nat.le_refl _) hl1 h1 h2 htot)
  have HW1 := hidE hW1
  have HB1 := hidE hb1
  clear hW1 hl hl1 hb1
  go_enter Tryz.func52, Tryz.ntmps52
  go_wp2_with fail
  rw [HW1.out]
  refine HC.out.mono ?_
  rintro e w2 ⟨la', lc', rfl, ⟨g1, g2⟩, hlr, hb2⟩
  obtain ⟨hq, hf⟩ := HX.out w2 hb2
  have m0 := hq 0 _ rfl
  have n0 := hf 0
  have m1 := hq 1 _ rfl
  have n1 := hf 1
  have m2 := hq 2 _ rfl
  have n2 := hf 2
  have m3 := hq 3 _ rfl
  have n3 := hf 3
  have m4 := hq 4 _ rfl
  have n4 := hf 4
  have m5 := hq 5 _ rfl
  have n5 := hf 5
  have HLR := hidE hlr
  have HB2 := hidE hb2
  clear hq hf hlr hb2
  go_wp2_with fail
  have HFB : Hid (Below w.heap.size w (six w2 w.heap.size 0 (.int .i64 4) (.bool false) (.int .i64 0) (.string ⟨#[]⟩) (.slice none 0 0) (.slice la' ts.length lc'))) := six_below (HB1.out.trans (HB2.out.mono HB1.out.size)) (Nat.le_refl _) _ _ _ _ _ _
  refine bodyPost_ret (v := .agg #[.int .i64 4, .bool false, .int .i64 0, .string ⟨#[]⟩, .slice none 0 0, .slice la' ts.length lc']) (by simp [results, Tryz.results52, go_sem, m0, m1, m2, m3, m4, m5]) rfl ⟨_, rfl, ?_, HFB.out⟩
  show Lies (six w2 w.heap.size 0 (.int .i64 4) (.bool false) (.int .i64 0) (.string ⟨#[]⟩) (.slice none 0 0) (.slice la' ts.length lc')).heap.size (six w2 w.heap.size 0 (.int .i64 4) (.bool false) (.int .i64 0) (.string ⟨#[]⟩) (.slice none 0 0) (.slice la' ts.length lc')) _ _
  have hfin : Keeps W1.heap.size w2.heap.size w2 (six w2 w.heap.size 0 (.int .i64 4) (.bool false) (.int .i64 0) (.string ⟨#[]⟩) (.slice none 0 0) (.slice la' ts.length lc')) := fun b o h1 _ => six_out (fun e => by omega)
  rw [six_size]
  simp only [Lies]
  exact ⟨none, 0, la', lc', rfl, ⟨by show 0 ≤ _; omega, by simp, by unfold maxLen; omega, g1, g2⟩, .inl rfl, (HLR.out.keep hfin).lie⟩
def plainB (k : Int) : Bool := k == 1 || k == 2 || k == 3
theorem plain_any (k : Int) (w : World) : Calls Tryz.prog 66 #[.int .i64 k] w fun e w' => e = .returned (.bool (plainB k)) ∧ w' = w := by
  go_enter Tryz.func66, Tryz.ntmps66
  by_cases h1 : k = 1
  · subst h1; go_wp2_with fail; go_ret; exact ⟨rfl, rfl⟩
  by_cases h2 : k = 2
  · subst h2; go_wp2_with fail; go_ret; exact ⟨rfl, rfl⟩
  go_wp2_with fail
  go_ret
  have e1 : (k == 1) = false := by simpa using h1
  have e2 : (k == 2) = false := by simpa using h2
  refine ⟨?_, rfl⟩
  unfold plainB
  rw [e1, e2]
  rfl
/-- What Less answers. -/
def lessN (T T' : Tree) : Int := if T.kind = T'.kind ∧ plainB T.kind = true ∧ checkN T = 0 ∧ checkN T' = 0 then truthI (decide (ordT T T' < 0)) else 1
set_option maxHeartbeats 1000000 in
theorem Less_any (T T' : Tree) (B : Nat) (v v' : Value) (w : World) (hB : B ≤ w.heap.size) (hv : Lies B w v T) (hv' : Lies B w v' T') (hT : Tabs w) (hm : Modest T) (hm' : Modest T') :
    Calls Tryz.prog 38 #[v, v'] w fun e w' => e = .returned (.int .i64 (lessN T T')) ∧ Below w.heap.size w w' := by
  obtain ⟨k, x, n, s, ks, ts⟩ := T
  obtain ⟨k', x', n', s', ks', ts'⟩ := T'
  have HV := hidE hv
  have HV' := hidE hv'
  simp only [Lies] at hv hv'
  obtain ⟨ka, kc, la, lc, rfl, _, _, _⟩ := hv
  obtain ⟨ka', kc', la', lc', rfl, _, _, _⟩ := hv'
  obtain ⟨W3, hW3⟩ : ∃ W3, ((w.alloc (.cells #[.int .i64 k, .bool x, .int .i64 n, .string s, .slice ka ks.length kc, .slice la ts.length lc] 26)).alloc (.cells #[.int .i64 k', .bool x', .int .i64 n', .string s', .slice ka' ks'.length kc', .slice la' ts'.length lc'] 26)).alloc (.cells #[.int .i64 k, .bool x, .int .i64 n, .string s, .slice ka ks.length kc, .slice la ts.length lc, .int .i64 k', .bool x', .int .i64 n', .string s', .slice ka' ks'.length kc', .slice la' ts'.length lc'] 26) = W3 := ⟨_, rfl⟩
  have hbx : ∀ W, Below W3.heap.size W3 W → Below w.heap.size w W ∧ (∀ i v, (#[Value.int .i64 k, .bool x, .int .i64 n, .string s, .slice ka ks.length kc, .slice la ts.length lc] : Array Value)[i]? = some v → W.cell? ⟨w.heap.size, i, none⟩ = some v) ∧
      (∀ i v, (#[Value.int .i64 k', .bool x', .int .i64 n', .string s', .slice ka' ks'.length kc', .slice la' ts'.length lc'] : Array Value)[i]? = some v → W.cell? ⟨w.heap.size + 1, i, none⟩ = some v) := fun W hb => by
    rw [← hW3] at hb
    exact two_boxes (((Below.refl _ _).alloc (Nat.le_refl _) _).trans (hb.mono (by simp)))
  have hc3 : W3.heap[w.heap.size + 1 + 1]? = some (.cells #[.int .i64 k, .bool x, .int .i64 n, .string s, .slice ka ks.length kc, .slice la ts.length lc, .int .i64 k', .bool x', .int .i64 n', .string s', .slice ka' ks'.length kc', .slice la' ts'.length lc'] 26 (0, 0)) := by
    rw [← hW3]
    have := World.alloc_heap_new ((w.alloc (.cells #[.int .i64 k, .bool x, .int .i64 n, .string s, .slice ka ks.length kc, .slice la ts.length lc] 26)).alloc (.cells #[.int .i64 k', .bool x', .int .i64 n', .string s', .slice ka' ks'.length kc', .slice la' ts'.length lc'] 26)) (.cells #[.int .i64 k, .bool x, .int .i64 n, .string s, .slice ka ks.length kc, .slice la ts.length lc, .int .i64 k', .bool x', .int .i64 n', .string s', .slice ka' ks'.length kc', .slice la' ts'.length lc'] 26)
    simpa only [World.size_alloc] using this
  have hlt3 : w.heap.size + 1 + 1 < W3.heap.size := by rw [← hW3]; simp
  have hb3 : Below w.heap.size w W3 := (hbx W3 (Below.refl _ _)).1
  have HV3 := hidE ((HV.out.below (hb3.mono hB)).mono (Nat.le_trans hB hb3.size))
  have HV3' := hidE ((HV'.out.below (hb3.mono hB)).mono (Nat.le_trans hB hb3.size))
  have HC := hidE (refused_any [.mk k x n s ks ts, .mk k' x' n' s' ks' ts'] W3.heap.size (some ⟨w.heap.size + 1 + 1, 0, none⟩) 2 W3 (Nat.le_refl _) (.inr ⟨_, _, rfl, hlt3, two_kids hc3 HV3.out HV3'.out⟩) (Nat.le_refl _) (by unfold maxLen; omega) (hT.below hb3)
    (by intro t ht; simp only [List.mem_cons, List.not_mem_nil, or_false] at ht; rcases ht with rfl | rfl; exact hm; exact hm'))
  have HBX := hidE hbx
  have HW3 := hidE hW3
  clear hbx hW3 hc3 hm hm'
  have hb2 : Below w.heap.size w ((w.alloc (.cells #[.int .i64 k, .bool x, .int .i64 n, .string s, .slice ka ks.length kc, .slice la ts.length lc] 26)).alloc (.cells #[.int .i64 k', .bool x', .int .i64 n', .string s', .slice ka' ks'.length kc', .slice la' ts'.length lc'] 26)) := ((Below.refl _ _).alloc (Nat.le_refl _) _).alloc (by simp) _
  go_enter Tryz.func38, Tryz.ntmps38
  by_cases hk : k = k'
  · subst hk
    have HP := hidE (plain_any k)
    go_wp2_with fail
    refine (HP.out _).mono ?_
    rintro e _ ⟨rfl, rfl⟩
    cases hp : plainB k with
    | false =>
      have HN : Hid (lessN (.mk k x n s ks ts) (.mk k x' n' s' ks' ts') = 1) := by
        show _ = _
        unfold lessN
        rw [if_neg]
        rintro ⟨_, h, _⟩
        simp [Tree.kind, hp] at h
      clear hp HP
      go_wp2_with fail
      go_ret
      exact ⟨by rw [HN.out]; rfl, hb2⟩
    | true =>
      have HPT := hidE hp
      clear hp HP hb2
      go_wp2_with fail
      rw [HW3.out]
      refine HC.out.mono ?_
      rintro e w4 ⟨rfl, hb4⟩
      obtain ⟨hbw, hq, hr⟩ := HBX.out w4 hb4
      have q0 := hq 0 _ rfl
      have q1 := hq 1 _ rfl
      have q2 := hq 2 _ rfl
      have q3 := hq 3 _ rfl
      have q4 := hq 4 _ rfl
      have q5 := hq 5 _ rfl
      have r0 := hr 0 _ rfl
      have r1 := hr 1 _ rfl
      have r2 := hr 2 _ rfl
      have r3 := hr 3 _ rfl
      have r4 := hr 4 _ rfl
      have r5 := hr 5 _ rfl
      have HQ := hidE (order_any _ W3.heap.size _ _ _ w4 hb4.size (HV3.out.below hb4) (HV3'.out.below hb4))
      have hsz := hb4.size
      clear hq hr HBX HC HW3 hb4
      cases hany : [Tree.mk k x n s ks ts, .mk k x' n' s' ks' ts'].any (fun t => checkN t != 0) with
      | true =>
        have HN : Hid (lessN (.mk k x n s ks ts) (.mk k x' n' s' ks' ts') = 1) := by
          show _ = _
          unfold lessN
          rw [if_neg]
          rintro ⟨_, _, h1, h2⟩
          simp [h1, h2] at hany
        clear hany
        go_wp2_with fail
        go_ret
        exact ⟨by rw [HN.out]; rfl, hbw⟩
      | false =>
        have HN : Hid (lessN (.mk k x n s ks ts) (.mk k x' n' s' ks' ts') = truthI (decide (ordT (.mk k x n s ks ts) (.mk k x' n' s' ks' ts') < 0))) := by
          show _ = _
          unfold lessN
          simp at hany
          rw [if_pos ⟨rfl, HPT.out, hany⟩]
        clear hany
        go_wp2_with fail
        refine HQ.out.mono ?_
        rintro e w5 ⟨rfl, hb5⟩
        have hfin := below_on hbw hb5
        clear hb5 q0 q1 q2 q3 q4 q5 r0 r1 r2 r3 r4 r5
        obtain ⟨z, hz⟩ : ∃ z, ordT (.mk k x n s ks ts) (.mk k x' n' s' ks' ts') = z := ⟨_, rfl⟩
        rw [hz] at HN ⊢
        have HTR := hidE (truth_any (decide (z < 0)) w5)
        go_wp2_with fail
        refine HTR.out.mono ?_
        rintro e _ ⟨rfl, rfl⟩
        go_wp2_with fail
        go_ret
        exact ⟨by rw [HN.out]; rfl, hfin⟩
  · have HN : Hid (lessN (.mk k x n s ks ts) (.mk k' x' n' s' ks' ts') = 1) := by
      show _ = _
      unfold lessN
      rw [if_neg]
      rintro ⟨h, _⟩
      exact hk h
    go_wp2_with fail
    go_ret
    exact ⟨by rw [HN.out]; rfl, hb2⟩
end Go.Proofs.YtbpmhgcjefpigaaGreatDoor

