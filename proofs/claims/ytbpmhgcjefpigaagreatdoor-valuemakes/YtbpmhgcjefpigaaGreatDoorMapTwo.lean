/- A map of two keys. -/
import Derived.Test.YtbpmhgcjefpigaaGreatDoorMap11
import Derived.Test.YtbpmhgcjefpigaaGreatDoorJoin8
namespace Go.Proofs.YtbpmhgcjefpigaaGreatDoor
open Go.RowKit Go.Shelf Go.WideShapes
set_option linter.unusedVariables false
theorem after_cell {w0 W : World} {row : Option Nat} (hg : w0.grownBy W row) (bx fld : Nat) (v : Value) {q o : Nat} (hq : q < w0.heap.size) (hr : some q ≠ row) (hx : q ≠ bx ∨ o ≠ fld) :
    (W.setCell ⟨bx, fld, none⟩ v).cell? ⟨q, o, none⟩ = w0.cell? ⟨q, o, none⟩ := by
  rw [World.cell?_setCell_other _ _ _ _ (fun e => by simp only [Addr.mk.injEq] at e; omega)]
  exact World.cell?_of_block (hg.block q hq hr)
theorem after_frozen {w0 W : World} {row : Option Nat} (hg : w0.grownBy W row) (bx fld : Nat) (v : Value) {q o : Nat} (hq : q < w0.heap.size) (hr : some q ≠ row) :
    (W.setCell ⟨bx, fld, none⟩ v).frozen? ⟨q, o, none⟩ = w0.frozen? ⟨q, o, none⟩ := by
  rw [World.frozen?_setCell]
  exact World.frozen?_of_block (hg.block q hq hr)
theorem after_box {w0 W : World} {row : Option Nat} (hg : w0.grownBy W row) {bx fld : Nat} {u : Value} (v : Value) (hc : w0.cell? ⟨bx, fld, none⟩ = some u) (hr : some bx ≠ row) : (W.setCell ⟨bx, fld, none⟩ v).cell? ⟨bx, fld, none⟩ = some v :=
  World.cell?_setCell_same _ _ _ ((World.cell?_of_block (hg.block bx (lt_of_cell hc) hr)).trans hc)
theorem after_below {B : Nat} {w w0 W : World} {row : Option Nat} (hb : Below B w w0) (hg : w0.grownBy W row) (hr : ∀ q, row = some q → B ≤ q) (hB : B ≤ w0.heap.size) {bx fld : Nat} (hx : B ≤ bx) (v : Value) : Below B w (W.setCell ⟨bx, fld, none⟩ v) :=
  (hb.grown hg hB hr).setCell (p := ⟨bx, fld, none⟩) hx v
theorem ownsRow_caps {w : World} {base : Nat} {e : TypeId} {size n : Nat} {g : Addr} {m cap : Nat} {xs : List Value} {v : Value} (h : w.ownsRow base e size v n xs) (hv : v = .slice (some g) m cap) : m ≤ cap ∧ cap ≤ maxLen := by
  obtain ⟨_, ⟨h1, _⟩ | ⟨g', cap', cur, h1, _, _, h2, h3, _⟩⟩ := h
  · rw [hv] at h1; cases h1
  · rw [hv] at h1
    simp only [Value.slice.injEq] at h1
    omega
set_option maxRecDepth 100000 in
set_option maxHeartbeats 4000000 in
theorem map_lt (k0 k1 : ByteArray) (T0 T1 : Tree) (b off kc lb loff lc : Nat) (w : World) (hb : b < w.heap.size) (h1 : w.cell? ⟨b, off, none⟩ = some (.string k0)) (h2 : w.cell? ⟨b, off + 1, none⟩ = some (.string k1))
    (hlb : lb < w.heap.size) (hk : KidsLie w.heap.size w lb loff [T0, T1]) (ht0 : T0.total ≤ 1000000) (ht1 : T1.total ≤ 1000000) (hs0 : k0.size ≤ maxLen) (hs1 : k1.size ≤ maxLen) (hlt : Lib.compareBytes k1.data.toList k0.data.toList < 0) :
    Calls Tryz.prog 50 #[.slice (some ⟨b, off, none⟩) 2 kc, .slice (some ⟨lb, loff, none⟩) 2 lc] w fun e w' => ∃ v', e = .returned (.tuple #[v', .int .i64 0]) ∧ Lies w'.heap.size w' v' (.mk 5 false 0 ⟨#[]⟩ [k1, k0] [T1, T0]) ∧ Below w.heap.size w w' := by
  obtain ⟨u0, u1, u2, u3, u4, u5⟩ := T0
  obtain ⟨v0, v1, v2, v3, v4, v5⟩ := T1
  obtain ⟨ua, uc, ul, ud, ⟨a0, a1, a2, a3, a4, a5⟩, hL0⟩ := hk.cells (i := 0) rfl
  obtain ⟨va, vc, vl, vd, ⟨b0, b1, b2, b3, b4, b5⟩, hL1⟩ := hk.cells (i := 1) rfl
  have hne : (k1.toList == k0.toList) = false := by
    rw [beq_eq_false_iff_ne]
    intro e
    have : k1.data.toList = k0.data.toList := by simpa [ByteArray.toList_eq] using e
    rw [this] at hlt
    have := cmpB_turn k0.data.toList k0.data.toList
    omega
  have HNE := hidE hne
  clear hne hk
  have hpl : placesOf k0 k1 = #[1, 0] := by unfold placesOf; rw [if_pos hlt]
  obtain ⟨W2, hW2⟩ : ∃ W2, (w.alloc (.cells #[.int .i64 0, .bool false, .int .i64 0, .string ⟨#[]⟩, .slice none 0 0, .slice none 0 0] 26)).alloc (.cells #[.int .i64 5, .bool false, .int .i64 0, .string ⟨#[]⟩, .slice none 0 0, .slice none 0 0] 26) = W2 := ⟨_, rfl⟩
  have HX : Hid (∀ w1, Below W2.heap.size W2 w1 → (Below w.heap.size w w1 ∧ (∀ i v, (#[Value.int .i64 0, .bool false, .int .i64 0, .string ⟨#[]⟩, .slice none 0 0, .slice none 0 0] : Array Value)[i]? = some v → w1.cell? ⟨w.heap.size, i, none⟩ = some v) ∧ (∀ i v, (#[Value.int .i64 5, .bool false, .int .i64 0, .string ⟨#[]⟩, .slice none 0 0, .slice none 0 0] : Array Value)[i]? = some v → w1.cell? ⟨w.heap.size + 1, i, none⟩ = some v)) ∧
      (∀ i, w1.frozen? ⟨w.heap.size, i, none⟩ = false) ∧ (∀ i, w1.frozen? ⟨w.heap.size + 1, i, none⟩ = false)) := fun w1 hb => by
    rw [← hW2] at hb
    exact ⟨two_boxes hb, box_frozen hb⟩
  have hs2 : W2.heap.size = w.heap.size + 2 := by rw [← hW2]; simp
  have hbW := (HX.out W2 (Below.refl _ _)).1.1
  have HBK := hidE (bykeys_two b off kc k0 k1 W2 (by omega) ((hbW.cell (p := ⟨b, off, none⟩) hb).trans h1) ((hbW.cell (p := ⟨b, off + 1, none⟩) hb).trans h2))
  rw [hpl] at HBK
  have HW2 := hidE hW2
  clear hW2
  go_enter Tryz.func50, Tryz.ntmps50
  go_wp2_with fail
  rw [HW2.out]
  refine HBK.out.mono ?_
  rintro e w3 ⟨rfl, hb3, hsz3, p0, p1⟩
  rw [hs2] at hsz3 p0 p1
  obtain ⟨⟨hbw3, hq, hr⟩, fz, fy⟩ := HX.out w3 hb3
  have p0' : w3.cell? ⟨w.heap.size + 2 + 1, 0, none⟩ = some (.int .i64 1) := p0
  have p1' : w3.cell? ⟨w.heap.size + 2 + 1, 1, none⟩ = some (.int .i64 0) := p1
  have x4 := hr 4 _ rfl
  have x5 := hr 5 _ rfl
  clear p0 p1
  go_wp2_with fail
  refine wp_loop_rounds 3 ?_
  rw [rounds_succ]
  go_upto_region 8 with fail
  go_quiet (fail)
  go_upto_region 10 with fail
  have hc2 := (hbw3.cell (p := ⟨b, off + 1, none⟩) hb).trans h2
  show (Code.region 10 RK10 true).wp _ _ _ _
  refine regionK10 (w.heap.size + 1) b off 2 kc 1 0 (.slice none 0 0) [] k1 w3.heap.size _ _ _ ⟨rfl, rfl, rfl, rfl⟩ ⟨x4, fy 4, hc2, by omega, by omega, World.ownsRow_nil _ _ _ _, by omega, Nat.le_refl _, by omega⟩ ?_
  intro c kg kcap W4 hS hown4 hgr4 hob4
  have hl : c = ⟨#[Value.slice (some { block := b, off := off }) 2 kc, Value.slice (some { block := lb, off := loff }) 2 lc, undef, undef, Value.pointer (some { block := w.heap.size, off := 0 }), Value.int IntKind.i64 0, Value.pointer (some { block := w.heap.size + 1, off := 0 }), undef, Value.int IntKind.i64 1, Value.int IntKind.i64 0, Value.slice (some { block := b, off := off }) 2 kc, Value.int IntKind.i64 2, Value.slice (some { block := lb, off := loff }) 2 lc, Value.int IntKind.i64 2, Value.bool false, undef, Value.agg #[Value.int IntKind.i64 5, Value.bool false, Value.int IntKind.i64 0, Value.string { data := #[] }, Value.slice none 0 0, Value.slice none 0 0], Value.slice (some { block := b, off := off }) 2 kc, Value.slice (some { block := w.heap.size + 2 + 1, off := 0 }) 2 2, Value.int IntKind.i64 2, Value.int IntKind.i64 0, Value.bool true, Value.pointer (some { block := w.heap.size + 2 + 1, off := 0 }), Value.int IntKind.i64 1, Value.pointer (some { block := w.heap.size + 1, off := 4 }), Value.slice none 0 0, Value.int IntKind.i64 0, Value.int IntKind.i64 0, Value.bool false, Value.bool false, undef, undef, undef, undef, undef, undef, undef, undef, undef, undef, undef, Value.bool false, undef, c.eval (.tmp 43), c.eval (.tmp 44), c.eval (.tmp 45), c.eval (.tmp 46), c.eval (.tmp 47), c.eval (.tmp 48), c.eval (.tmp 49), c.eval (.tmp 50), c.eval (.tmp 51), undef, undef, undef, undef, undef, undef, undef, undef, undef, undef, undef, undef], []⟩ := (same_lay hS).trans (by kernel_rfl)
  generalize c.eval (.tmp 43) = y43 at hl
  generalize c.eval (.tmp 44) = y44 at hl
  generalize c.eval (.tmp 45) = y45 at hl
  generalize c.eval (.tmp 46) = y46 at hl
  generalize c.eval (.tmp 47) = y47 at hl
  generalize c.eval (.tmp 48) = y48 at hl
  generalize c.eval (.tmp 49) = y49 at hl
  generalize c.eval (.tmp 50) = y50 at hl
  generalize c.eval (.tmp 51) = y51 at hl
  clear hS
  subst hl
  have hgr4' : w3.grownBy W4 none := ⟨hgr4.os, hgr4.tape, hgr4.output, hgr4.size, hgr4.block⟩
  obtain ⟨w4, hw4⟩ : ∃ w4, W4.setCell ⟨w.heap.size + 1, 4, none⟩ (.slice (some ⟨kg, 0, none⟩) (0 + 1) kcap) = w4 := ⟨_, rfl⟩
  have hs4 : w3.heap.size ≤ w4.heap.size := by rw [← hw4]; simpa using hgr4'.size
  have hc4 : ∀ q o, q < w3.heap.size → (q ≠ w.heap.size + 1 ∨ o ≠ 4) → w4.cell? ⟨q, o, none⟩ = w3.cell? ⟨q, o, none⟩ := fun q o h h' => hw4 ▸ after_cell hgr4' _ _ _ h (by simp) h'
  have hf4 : ∀ q o, q < w3.heap.size → w4.frozen? ⟨q, o, none⟩ = w3.frozen? ⟨q, o, none⟩ := fun q o h => hw4 ▸ after_frozen hgr4' _ _ _ h (by simp)
  have hb4 : w4.cell? ⟨w.heap.size + 1, 4, none⟩ = some (.slice (some ⟨kg, 0, none⟩) (0 + 1) kcap) := hw4 ▸ after_box hgr4' _ x4 (by simp)
  have hbw4 : Below w.heap.size w w4 := hw4 ▸ after_below hbw3 hgr4' (by simp) hbw3.size (by omega) _
  have hko4 : w4.ownsRow w3.heap.size 9 1 (.slice (some ⟨kg, 0, none⟩) (0 + 1) kcap) (0 + 1) [.string k1] := hw4 ▸ ownsRow_setCell_below hown4 (by show w.heap.size + 1 < _; omega) _
  have z5 := (hc4 (w.heap.size + 1) 5 (by omega) (by omega)).trans x5
  have z5f := (hf4 (w.heap.size + 1) 5 (by omega)).trans (fy 5)
  have HF4 := hidE (And.intro hs4 (And.intro hc4 (And.intro hf4 (And.intro hb4 (And.intro hbw4 hko4)))))
  have HB3 := hidE (And.intro hb3 (And.intro hbw3 (And.intro hq (And.intro hr (And.intro fz fy)))))
  rw [hw4]
  clear hs4 hc4 hf4 hb4 hbw4 hko4 hw4 hown4 hgr4 hgr4' hb3 hbw3 hq hr fz fy
  go_upto_region 11 with fail
  show (Code.region 11 RK11 true).wp _ _ _ _
  have hB4 := HF4.out.2.2.2.2.1
  refine regionK11 (w.heap.size + 1) lb loff 2 lc 1 0 (.slice none 0 0) [] v0 v1 v2 v3 va v4.length vc vl v5.length vd (.mk v0 v1 v2 v3 v4 v5) w4.heap.size _ _ _ ⟨rfl, rfl, rfl, rfl⟩
    ⟨z5, z5f, (hB4.cell (p := ⟨lb, _, none⟩) hlb).trans b0, (hB4.cell (p := ⟨lb, _, none⟩) hlb).trans b1, (hB4.cell (p := ⟨lb, _, none⟩) hlb).trans b2, (hB4.cell (p := ⟨lb, _, none⟩) hlb).trans b3, (hB4.cell (p := ⟨lb, _, none⟩) hlb).trans b4, (hB4.cell (p := ⟨lb, _, none⟩) hlb).trans b5, by omega, by omega, World.ownsRow_nil _ _ _ _, by omega, Nat.le_refl _, by have := HF4.out.1; omega, (hL1.below hB4).mono hB4.size, ht1⟩ ?_
  intro c lg lcap W5 e0 e1 e2 e3 e4 e5 hi5 hS hown5 hgr5 hlr5 hhi5 hob5
  have hl : c = ⟨#[Value.slice (some { block := b, off := off }) 2 kc, Value.slice (some { block := lb, off := loff }) 2 lc, undef, undef, Value.pointer (some { block := w.heap.size, off := 0 }), Value.int IntKind.i64 0, Value.pointer (some { block := w.heap.size + 1, off := 0 }), undef, Value.int IntKind.i64 1, Value.int IntKind.i64 0, Value.slice (some { block := b, off := off }) 2 kc, Value.int IntKind.i64 2, Value.slice (some { block := lb, off := loff }) 2 lc, Value.int IntKind.i64 2, Value.bool false, undef, Value.agg #[Value.int IntKind.i64 5, Value.bool false, Value.int IntKind.i64 0, Value.string { data := #[] }, Value.slice none 0 0, Value.slice none 0 0], Value.slice (some { block := b, off := off }) 2 kc, Value.slice (some { block := w.heap.size + 2 + 1, off := 0 }) 2 2, Value.int IntKind.i64 2, Value.int IntKind.i64 0, Value.bool true, Value.pointer (some { block := w.heap.size + 2 + 1, off := 0 }), Value.int IntKind.i64 1, Value.pointer (some { block := w.heap.size + 1, off := 4 }), Value.slice none 0 0, Value.int IntKind.i64 0, Value.int IntKind.i64 0, Value.bool false, Value.bool false, undef, undef, undef, undef, undef, undef, undef, undef, undef, undef, undef, Value.bool false, undef, y43, y44, y45, y46, y47, y48, y49, y50, y51, c.eval (.tmp 52), c.eval (.tmp 53), c.eval (.tmp 54), c.eval (.tmp 55), c.eval (.tmp 56), c.eval (.tmp 57), c.eval (.tmp 58), c.eval (.tmp 59), c.eval (.tmp 60), c.eval (.tmp 61), undef, undef], []⟩ := (same_lay hS).trans (by kernel_rfl)
  generalize c.eval (.tmp 52) = z52 at hl
  generalize c.eval (.tmp 53) = z53 at hl
  generalize c.eval (.tmp 54) = z54 at hl
  generalize c.eval (.tmp 55) = z55 at hl
  generalize c.eval (.tmp 56) = z56 at hl
  generalize c.eval (.tmp 57) = z57 at hl
  generalize c.eval (.tmp 58) = z58 at hl
  generalize c.eval (.tmp 59) = z59 at hl
  generalize c.eval (.tmp 60) = z60 at hl
  generalize c.eval (.tmp 61) = z61 at hl
  clear hS
  subst hl
  have hi5' : hi5 ≤ lg := by
    rcases hob5 with h | h
    · cases h
    · exact h
  have hgr5' : w4.grownBy W5 none := ⟨hgr5.os, hgr5.tape, hgr5.output, hgr5.size, hgr5.block⟩
  obtain ⟨w5, hw5⟩ : ∃ w5, W5.setCell ⟨w.heap.size + 1, 5, none⟩ (.slice (some ⟨lg, 0, none⟩) (0 + 1) lcap) = w5 := ⟨_, rfl⟩
  obtain ⟨hs4, hc4, hf4, hb4, hbw4, hko4⟩ := HF4.out
  obtain ⟨hb3, hbw3, hq, hr, fz, fy⟩ := HB3.out
  have hs5 : w4.heap.size ≤ w5.heap.size := by rw [← hw5]; simpa using hgr5'.size
  have hc5 : ∀ q o, q < w4.heap.size → (q ≠ w.heap.size + 1 ∨ o ≠ 5) → w5.cell? ⟨q, o, none⟩ = w4.cell? ⟨q, o, none⟩ := fun q o h h' => hw5 ▸ after_cell hgr5' _ _ _ h (by simp) h'
  have hf5 : ∀ q o, q < w4.heap.size → w5.frozen? ⟨q, o, none⟩ = w4.frozen? ⟨q, o, none⟩ := fun q o h => hw5 ▸ after_frozen hgr5' _ _ _ h (by simp)
  have hb5 : w5.cell? ⟨w.heap.size + 1, 5, none⟩ = some (.slice (some ⟨lg, 0, none⟩) (0 + 1) lcap) := hw5 ▸ after_box hgr5' _ z5 (by simp)
  have hbw5 : Below w.heap.size w w5 := hw5 ▸ after_below hbw4 hgr5' (by simp) hbw4.size (by omega) _
  have hko5 : w5.ownsRow w3.heap.size 9 1 (.slice (some ⟨kg, 0, none⟩) (0 + 1) kcap) (0 + 1) [.string k1] := hw5 ▸ ownsRow_setCell_below (hko4.kept hgr5' (.inr (by simp [Value.ownBlock]))) (by show w.heap.size + 1 < _; omega) _
  have hlo5 : w5.ownsRow w4.heap.size 26 6 (.slice (some ⟨lg, 0, none⟩) (0 + 1) lcap) (0 + 1) [e0, e1, e2, e3, e4, e5] := hw5 ▸ ownsRow_setCell_below hown5 (by show w.heap.size + 1 < _; omega) _
  have hlr5' : LiesR w4.heap.size hi5 w5 (.agg #[e0, e1, e2, e3, e4, e5]) (.mk v0 v1 v2 v3 v4 v5) := hw5 ▸ hlr5.keep fun q o h1 h2 => World.cell?_setCell_other _ _ _ _ (fun e => by simp only [Addr.mk.injEq] at e; omega)
  have hkc5 : w5.cell? ⟨kg, 0, none⟩ = some (.string k1) := by
    have := hko5.cells (g := kg) rfl 0 (.string k1) rfl
    rw [add_plain] at this; exact this
  have pl5 : w5.cell? ⟨w.heap.size + 2 + 1, 1, none⟩ = some (.int .i64 0) := (hc5 _ _ (by omega) (by omega)).trans ((hc4 _ _ (by omega) (by omega)).trans p1')
  have kb5 : w5.cell? ⟨w.heap.size + 1, 4, none⟩ = some (.slice (some ⟨kg, 0, none⟩) 1 kcap) := (hc5 _ _ (by omega) (by omega)).trans hb4
  have kk5 : w5.cell? ⟨b, off, none⟩ = some (.string k0) := (hbw5.cell (p := ⟨b, off, none⟩) hb).trans h1
  have hkg : w3.heap.size ≤ kg := (hko5.lt kg rfl).1
  have hlg : w4.heap.size ≤ lg := (hlo5.lt lg rfl).1
  have lcp : 1 ≤ kcap := by
    obtain ⟨_, ⟨h, _⟩ | ⟨g', cap', cur, h, _, _, h5, _⟩⟩ := hko5
    · cases h
    · simp only [Value.slice.injEq] at h; omega
  have hne := HNE.out
  have HF5 := hidE (And.intro hs5 (And.intro hc5 (And.intro hf5 (And.intro hb5 (And.intro hbw5 (And.intro hko5 (And.intro hlo5 hlr5')))))))
  have HG := hidE (And.intro hkg (And.intro hlg (And.intro hi5' hhi5)))
  rw [hw5]
  clear hs5 hc5 hf5 hb5 hbw5 hko5 hlo5 hlr5' hw5 hown5 hgr5 hgr5' hlr5 hhi5 hob5 hi5' hkg hlg hs4 hc4 hf4 hb4 hbw4 hko4 hb3 hbw3 hq hr fz fy z5 z5f x4 x5 p0' p1' hB4 hc2
  go_wp2_with fail
  rw [rounds_succ]
  go_upto_region 8 with fail
  go_quiet (fail)
  go_upto_region 10 with fail
  obtain ⟨hs5, hc5, hf5, hb5, hbw5, hko5, hlo5, hlr5⟩ := HF5.out
  obtain ⟨hkg, hlg, hi5', hhi5⟩ := HG.out
  obtain ⟨hs4, hc4, hf4, hb4, hbw4, hko4⟩ := HF4.out
  obtain ⟨hb3, hbw3, hq, hr, fz, fy⟩ := HB3.out
  have ff5 : ∀ o, w5.frozen? ⟨w.heap.size + 1, o, none⟩ = false := fun o => (hf5 _ _ (by omega)).trans ((hf4 _ _ (by omega)).trans (fy o))
  show (Code.region 10 RK10 true).wp _ _ _ _
  refine regionK10 (w.heap.size + 1) b off 2 kc 0 1 (.slice (some ⟨kg, 0, none⟩) 1 kcap) [.string k1] k0 w3.heap.size _ _ _ ⟨rfl, rfl, rfl, rfl⟩ ⟨kb5, ff5 4, kk5, by omega, by omega, hko5, by omega, (by show w3.heap.size ≤ w5.heap.size; omega), by omega⟩ ?_
  intro c kg2 kcap2 W6 hS hown6 hgr6 hob6
  have hl : c = ⟨#[Value.slice (some { block := b, off := off }) 2 kc, Value.slice (some { block := lb, off := loff }) 2 lc, undef, undef, Value.pointer (some { block := w.heap.size, off := 0 }), Value.int IntKind.i64 0, Value.pointer (some { block := w.heap.size + 1, off := 0 }), undef, Value.int IntKind.i64 0, Value.int IntKind.i64 1, Value.slice (some { block := b, off := off }) 2 kc, Value.int IntKind.i64 2, Value.slice (some { block := lb, off := loff }) 2 lc, Value.int IntKind.i64 2, Value.bool false, undef, Value.agg #[Value.int IntKind.i64 5, Value.bool false, Value.int IntKind.i64 0, Value.string { data := #[] }, Value.slice none 0 0, Value.slice none 0 0], Value.slice (some { block := b, off := off }) 2 kc, Value.slice (some { block := w.heap.size + 2 + 1, off := 0 }) 2 2, Value.int IntKind.i64 2, Value.int IntKind.i64 1, Value.bool true, Value.pointer (some { block := w.heap.size + 2 + 1, off := 1 }), Value.int IntKind.i64 0, Value.pointer (some { block := w.heap.size + 1, off := 4 }), Value.slice (some { block := kg, off := 0 }) 1 kcap, Value.int IntKind.i64 1, Value.int IntKind.i64 1, Value.bool true, Value.bool true, Value.pointer (some { block := w.heap.size + 1, off := 4 }), Value.slice (some { block := kg, off := 0 }) 1 kcap, Value.int IntKind.i64 1, Value.int IntKind.i64 0, Value.pointer (some { block := kg, off := 0 }), Value.string k1, Value.slice (some { block := b, off := off }) 2 kc, Value.int IntKind.i64 0, Value.pointer (some { block := b, off := off }), Value.string k0, Value.bool false, Value.bool false, undef, c.eval (.tmp 43), c.eval (.tmp 44), c.eval (.tmp 45), c.eval (.tmp 46), c.eval (.tmp 47), c.eval (.tmp 48), c.eval (.tmp 49), c.eval (.tmp 50), c.eval (.tmp 51), z52, z53, z54, z55, z56, z57, z58, z59, z60, z61, Value.int IntKind.i64 1, undef], []⟩ := (same_lay hS).trans (by kernel_rfl)
  generalize c.eval (.tmp 43) = r43 at hl
  generalize c.eval (.tmp 44) = r44 at hl
  generalize c.eval (.tmp 45) = r45 at hl
  generalize c.eval (.tmp 46) = r46 at hl
  generalize c.eval (.tmp 47) = r47 at hl
  generalize c.eval (.tmp 48) = r48 at hl
  generalize c.eval (.tmp 49) = r49 at hl
  generalize c.eval (.tmp 50) = r50 at hl
  generalize c.eval (.tmp 51) = r51 at hl
  clear hS
  subst hl
  have hgr6' : w5.grownBy W6 (some kg) := ⟨hgr6.os, hgr6.tape, hgr6.output, hgr6.size, hgr6.block⟩
  obtain ⟨w6, hw6⟩ : ∃ w6, W6.setCell ⟨w.heap.size + 1, 4, none⟩ (.slice (some ⟨kg2, 0, none⟩) (1 + 1) kcap2) = w6 := ⟨_, rfl⟩
  have hs6 : w5.heap.size ≤ w6.heap.size := by rw [← hw6]; simpa using hgr6'.size
  have hc6 : ∀ q o, q < w5.heap.size → q ≠ kg → (q ≠ w.heap.size + 1 ∨ o ≠ 4) → w6.cell? ⟨q, o, none⟩ = w5.cell? ⟨q, o, none⟩ := fun q o h hn h' => hw6 ▸ after_cell hgr6' _ _ _ h (by simpa using hn) h'
  have hf6 : ∀ q o, q < w5.heap.size → q ≠ kg → w6.frozen? ⟨q, o, none⟩ = w5.frozen? ⟨q, o, none⟩ := fun q o h hn => hw6 ▸ after_frozen hgr6' _ _ _ h (by simpa using hn)
  have hb6 : w6.cell? ⟨w.heap.size + 1, 4, none⟩ = some (.slice (some ⟨kg2, 0, none⟩) (1 + 1) kcap2) := hw6 ▸ after_box hgr6' _ kb5 (by simp; omega)
  have hbw6 : Below w.heap.size w w6 := hw6 ▸ after_below hbw5 hgr6' (fun q h => by cases h; omega) hbw5.size (by omega) _
  have hko6 : w6.ownsRow w3.heap.size 9 1 (.slice (some ⟨kg2, 0, none⟩) (1 + 1) kcap2) (1 + 1) [.string k1, .string k0] := hw6 ▸ ownsRow_setCell_below hown6 (by show w.heap.size + 1 < _; omega) _
  have hkglt : kg < w4.heap.size := (hko4.lt kg rfl).2
  have hlo6 : w6.ownsRow w4.heap.size 26 6 (.slice (some ⟨lg, 0, none⟩) (0 + 1) lcap) (0 + 1) [e0, e1, e2, e3, e4, e5] := hw6 ▸ ownsRow_setCell_below (hlo5.kept hgr6' (.inr (by simp [Value.ownBlock]; omega))) (by show w.heap.size + 1 < _; omega) _
  have hlglt : lg < w5.heap.size := (hlo5.lt lg rfl).2
  have hlr6 : LiesR w4.heap.size hi5 w6 (.agg #[e0, e1, e2, e3, e4, e5]) (.mk v0 v1 v2 v3 v4 v5) := hlr5.keep fun q o g1 g2 => hc6 q o (by omega) (by omega) (.inl (by omega))
  have z6 := (hc6 (w.heap.size + 1) 5 (by omega) (by omega) (by omega)).trans hb5
  have z6f := (hf6 (w.heap.size + 1) 5 (by omega) (by omega)).trans (ff5 5)
  have HF6 := hidE (And.intro hs6 (And.intro hc6 (And.intro hf6 (And.intro hb6 (And.intro hbw6 (And.intro hko6 (And.intro hlo6 (And.intro hlr6 (And.intro hkglt (And.intro hlglt (And.intro ff5 hob6)))))))))))
  rw [hw6]
  clear hs6 hc6 hf6 hb6 hbw6 hko6 hlo6 hlr6 hw6 hown6 hgr6 hgr6' hob6 ff5 hs5 hc5 hf5 hb5 hbw5 hko5 hlo5 hlr5 hkg hlg hi5' hhi5 hs4 hc4 hf4 hb4 hbw4 hko4 hb3 hbw3 hq hr fz fy hkc5 pl5 kb5 kk5 hne hkglt hlglt lcp
  go_upto_region 11 with fail
  show (Code.region 11 RK11 true).wp _ _ _ _
  have hB6 := HF6.out.2.2.2.2.1
  refine regionK11 (w.heap.size + 1) lb loff 2 lc 0 1 (.slice (some ⟨lg, 0, none⟩) 1 lcap) [e0, e1, e2, e3, e4, e5] u0 u1 u2 u3 ua u4.length uc ul u5.length ud (.mk u0 u1 u2 u3 u4 u5) w4.heap.size _ _ _ ⟨rfl, rfl, rfl, rfl⟩
    ⟨z6, z6f, (hB6.cell (p := ⟨lb, _, none⟩) hlb).trans a0, (hB6.cell (p := ⟨lb, _, none⟩) hlb).trans a1, (hB6.cell (p := ⟨lb, _, none⟩) hlb).trans a2, (hB6.cell (p := ⟨lb, _, none⟩) hlb).trans a3, (hB6.cell (p := ⟨lb, _, none⟩) hlb).trans a4, (hB6.cell (p := ⟨lb, _, none⟩) hlb).trans a5, by omega, by omega, HF6.out.2.2.2.2.2.2.1, by omega, (by have := HF6.out.1; have := HF5.out.1; omega), by have := HF4.out.1; omega, (hL0.below hB6).mono hB6.size, ht0⟩ ?_
  intro c lg2 lcap2 W7 f0 f1 f2 f3 f4 f5 hi7 hS hown7 hgr7 hlr7 hhi7 hob7
  have hl : c = ⟨#[Value.slice (some { block := b, off := off }) 2 kc, Value.slice (some { block := lb, off := loff }) 2 lc, undef, undef, Value.pointer (some { block := w.heap.size, off := 0 }), Value.int IntKind.i64 0, Value.pointer (some { block := w.heap.size + 1, off := 0 }), undef, Value.int IntKind.i64 0, Value.int IntKind.i64 1, Value.slice (some { block := b, off := off }) 2 kc, Value.int IntKind.i64 2, Value.slice (some { block := lb, off := loff }) 2 lc, Value.int IntKind.i64 2, Value.bool false, undef, Value.agg #[Value.int IntKind.i64 5, Value.bool false, Value.int IntKind.i64 0, Value.string { data := #[] }, Value.slice none 0 0, Value.slice none 0 0], Value.slice (some { block := b, off := off }) 2 kc, Value.slice (some { block := w.heap.size + 2 + 1, off := 0 }) 2 2, Value.int IntKind.i64 2, Value.int IntKind.i64 1, Value.bool true, Value.pointer (some { block := w.heap.size + 2 + 1, off := 1 }), Value.int IntKind.i64 0, Value.pointer (some { block := w.heap.size + 1, off := 4 }), Value.slice (some { block := kg, off := 0 }) 1 kcap, Value.int IntKind.i64 1, Value.int IntKind.i64 1, Value.bool true, Value.bool true, Value.pointer (some { block := w.heap.size + 1, off := 4 }), Value.slice (some { block := kg, off := 0 }) 1 kcap, Value.int IntKind.i64 1, Value.int IntKind.i64 0, Value.pointer (some { block := kg, off := 0 }), Value.string k1, Value.slice (some { block := b, off := off }) 2 kc, Value.int IntKind.i64 0, Value.pointer (some { block := b, off := off }), Value.string k0, Value.bool false, Value.bool false, undef, r43, r44, r45, r46, r47, r48, r49, r50, r51, c.eval (.tmp 52), c.eval (.tmp 53), c.eval (.tmp 54), c.eval (.tmp 55), c.eval (.tmp 56), c.eval (.tmp 57), c.eval (.tmp 58), c.eval (.tmp 59), c.eval (.tmp 60), c.eval (.tmp 61), Value.int IntKind.i64 1, undef], []⟩ := (same_lay hS).trans (by kernel_rfl)
  generalize c.eval (.tmp 52) = s52 at hl
  generalize c.eval (.tmp 53) = s53 at hl
  generalize c.eval (.tmp 54) = s54 at hl
  generalize c.eval (.tmp 55) = s55 at hl
  generalize c.eval (.tmp 56) = s56 at hl
  generalize c.eval (.tmp 57) = s57 at hl
  generalize c.eval (.tmp 58) = s58 at hl
  generalize c.eval (.tmp 59) = s59 at hl
  generalize c.eval (.tmp 60) = s60 at hl
  generalize c.eval (.tmp 61) = s61 at hl
  clear hS
  subst hl
  have hgr7' : w6.grownBy W7 (some lg) := ⟨hgr7.os, hgr7.tape, hgr7.output, hgr7.size, hgr7.block⟩
  obtain ⟨w7, hw7⟩ : ∃ w7, W7.setCell ⟨w.heap.size + 1, 5, none⟩ (.slice (some ⟨lg2, 0, none⟩) (1 + 1) lcap2) = w7 := ⟨_, rfl⟩
  obtain ⟨hs6, hc6, hf6, hb6, hbw6, hko6, hlo6, hlr6, hkglt, hlglt, ff5, hob6⟩ := HF6.out
  obtain ⟨hs5, hc5, hf5, hb5, hbw5, hko5, hlo5, hlr5⟩ := HF5.out
  obtain ⟨hkg, hlg, hi5', hhi5⟩ := HG.out
  obtain ⟨hs4, hc4, hf4, hb4, hbw4, hko4⟩ := HF4.out
  obtain ⟨hb3, hbw3, hq, hr, fz, fy⟩ := HB3.out
  have hs7 : w6.heap.size ≤ w7.heap.size := by rw [← hw7]; simpa using hgr7'.size
  have hc7 : ∀ q o, q < w6.heap.size → q ≠ lg → (q ≠ w.heap.size + 1 ∨ o ≠ 5) → w7.cell? ⟨q, o, none⟩ = w6.cell? ⟨q, o, none⟩ := fun q o h hn h' => hw7 ▸ after_cell hgr7' _ _ _ h (by simpa using hn) h'
  have hf7 : ∀ q o, q < w6.heap.size → q ≠ lg → w7.frozen? ⟨q, o, none⟩ = w6.frozen? ⟨q, o, none⟩ := fun q o h hn => hw7 ▸ after_frozen hgr7' _ _ _ h (by simpa using hn)
  have hb7 : w7.cell? ⟨w.heap.size + 1, 5, none⟩ = some (.slice (some ⟨lg2, 0, none⟩) (1 + 1) lcap2) := hw7 ▸ after_box hgr7' _ z6 (by simp; omega)
  have hbw7 : Below w.heap.size w w7 := hw7 ▸ after_below hbw6 hgr7' (fun q h => by cases h; omega) hbw6.size (by omega) _
  have hko7 : w7.ownsRow w3.heap.size 9 1 (.slice (some ⟨kg2, 0, none⟩) (1 + 1) kcap2) (1 + 1) [.string k1, .string k0] := by
    refine hw7 ▸ ownsRow_setCell_below (hko6.kept hgr7' (.inr ?_)) (by show w.heap.size + 1 < _; omega) _
    intro e
    have e' : kg2 = lg := by simpa [Value.ownBlock] using e
    rcases hob6 with h | h
    · have : kg2 = kg := by simpa [Value.ownBlock] using h
      omega
    · have h' : w5.heap.size ≤ kg2 := h
      omega
  have hlo7 : w7.ownsRow w4.heap.size 26 6 (.slice (some ⟨lg2, 0, none⟩) (1 + 1) lcap2) (1 + 1) ([e0, e1, e2, e3, e4, e5] ++ [f0, f1, f2, f3, f4, f5]) := hw7 ▸ ownsRow_setCell_below hown7 (by show w.heap.size + 1 < _; omega) _
  have hlr7e : LiesR w4.heap.size hi5 w7 (.agg #[e0, e1, e2, e3, e4, e5]) (.mk v0 v1 v2 v3 v4 v5) := hlr6.keep fun q o g1 g2 => hc7 q o (by omega) (by omega) (.inl (by omega))
  have hlr7f : LiesR w6.heap.size hi7 w7 (.agg #[f0, f1, f2, f3, f4, f5]) (.mk u0 u1 u2 u3 u4 u5) := hw7 ▸ hlr7.keep fun q o h1 h2 => World.cell?_setCell_other _ _ _ _ (fun e => by simp only [Addr.mk.injEq] at e; omega)
  have y0 : w7.cell? ⟨w.heap.size + 1, 0, none⟩ = some (.int .i64 5) := (hc7 _ _ (by omega) (by omega) (by omega)).trans ((hc6 _ _ (by omega) (by omega) (by omega)).trans ((hc5 _ _ (by omega) (by omega)).trans ((hc4 _ _ (by omega) (by omega)).trans (hr 0 _ rfl))))
  have y1 : w7.cell? ⟨w.heap.size + 1, 1, none⟩ = some (.bool false) := (hc7 _ _ (by omega) (by omega) (by omega)).trans ((hc6 _ _ (by omega) (by omega) (by omega)).trans ((hc5 _ _ (by omega) (by omega)).trans ((hc4 _ _ (by omega) (by omega)).trans (hr 1 _ rfl))))
  have y2 : w7.cell? ⟨w.heap.size + 1, 2, none⟩ = some (.int .i64 0) := (hc7 _ _ (by omega) (by omega) (by omega)).trans ((hc6 _ _ (by omega) (by omega) (by omega)).trans ((hc5 _ _ (by omega) (by omega)).trans ((hc4 _ _ (by omega) (by omega)).trans (hr 2 _ rfl))))
  have y3 : w7.cell? ⟨w.heap.size + 1, 3, none⟩ = some (.string ⟨#[]⟩) := (hc7 _ _ (by omega) (by omega) (by omega)).trans ((hc6 _ _ (by omega) (by omega) (by omega)).trans ((hc5 _ _ (by omega) (by omega)).trans ((hc4 _ _ (by omega) (by omega)).trans (hr 3 _ rfl))))
  have y4 : w7.cell? ⟨w.heap.size + 1, 4, none⟩ = some (.slice (some ⟨kg2, 0, none⟩) 2 kcap2) := (hc7 _ _ (by omega) (by omega) (by omega)).trans hb6
  have y5 : w7.cell? ⟨w.heap.size + 1, 5, none⟩ = some (.slice (some ⟨lg2, 0, none⟩) 2 lcap2) := hb7
  have fz7 : ∀ o, w7.frozen? ⟨w.heap.size, o, none⟩ = false := fun o => (hf7 _ _ (by omega) (by omega)).trans ((hf6 _ _ (by omega) (by omega)).trans ((hf5 _ _ (by omega)).trans ((hf4 _ _ (by omega)).trans (fz o))))
  have q7 : ∀ o v, (#[Value.int .i64 0, .bool false, .int .i64 0, .string ⟨#[]⟩, .slice none 0 0, .slice none 0 0] : Array Value)[o]? = some v → w7.cell? ⟨w.heap.size, o, none⟩ = some v := fun o v h => (hc7 _ _ (by omega) (by omega) (by omega)).trans ((hc6 _ _ (by omega) (by omega) (by omega)).trans ((hc5 _ _ (by omega) (by omega)).trans ((hc4 _ _ (by omega) (by omega)).trans (hq o v h))))
  have m0 := q7 0 _ rfl
  have m1 := q7 1 _ rfl
  have m2 := q7 2 _ rfl
  have m3 := q7 3 _ rfl
  have m4 := q7 4 _ rfl
  have m5 := q7 5 _ rfl
  have n0 := fz7 0
  have n1 := fz7 1
  have n2 := fz7 2
  have n3 := fz7 3
  have n4 := fz7 4
  have n5 := fz7 5
  have hS7 : hi5 ≤ w7.heap.size ∧ hi7 ≤ w7.heap.size ∧ w.heap.size + 2 ≤ w4.heap.size ∧ w4.heap.size ≤ w6.heap.size ∧ w3.heap.size ≤ w4.heap.size ∧ w.heap.size + 2 ≤ w3.heap.size := by
    have : W7.heap.size = w7.heap.size := by rw [← hw7]; simp
    omega
  have HF7 := hidE (And.intro hbw7 (And.intro hko7 (And.intro hlo7 (And.intro hlr7e (And.intro hlr7f hS7)))))
  rw [hw7]
  clear fz7 q7 hs7 hc7 hf7 hb7 hbw7 hko7 hlo7 hlr7e hlr7f hS7 hs6 hc6 hf6 hb6 hbw6 hko6 hlo6 hlr6 hkglt hlglt ff5 hob6 hs5 hc5 hf5 hb5 hbw5 hko5 hlo5 hlr5 hkg hlg hi5' hhi5 hs4 hc4 hf4 hb4 hbw4 hko4 hb3 hbw3 hq hr fz fy hw7 hown7 hgr7 hgr7' hlr7 hhi7 hob7 hB6 z6 z6f
  go_wp2_with fail
  rw [rounds_succ]
  go_wp2_with fail
  obtain ⟨hbw7, hko7, hlo7, hlr7e, hlr7f, hS7⟩ := HF7.out
  have HFB : Hid (Below w.heap.size w (six w7 w.heap.size 0 (.int .i64 5) (.bool false) (.int .i64 0) (.string ⟨#[]⟩) (.slice (some ⟨kg2, 0, none⟩) 2 kcap2) (.slice (some ⟨lg2, 0, none⟩) 2 lcap2))) := six_below hbw7 (Nat.le_refl _) _ _ _ _ _ _
  refine bodyPost_ret (v := .tuple #[.agg #[.int .i64 5, .bool false, .int .i64 0, .string ⟨#[]⟩, .slice (some ⟨kg2, 0, none⟩) 2 kcap2, .slice (some ⟨lg2, 0, none⟩) 2 lcap2], .int .i64 0]) (by simp [results, Tryz.results50, go_sem, m0, m1, m2, m3, m4, m5]) rfl ⟨_, rfl, ?_, HFB.out⟩
  show Lies (six w7 w.heap.size 0 (.int .i64 5) (.bool false) (.int .i64 0) (.string ⟨#[]⟩) (.slice (some ⟨kg2, 0, none⟩) 2 kcap2) (.slice (some ⟨lg2, 0, none⟩) 2 lcap2)).heap.size (six w7 w.heap.size 0 (.int .i64 5) (.bool false) (.int .i64 0) (.string ⟨#[]⟩) (.slice (some ⟨kg2, 0, none⟩) 2 kcap2) (.slice (some ⟨lg2, 0, none⟩) 2 lcap2)) _ _
  have hfin : ∀ lo B', w.heap.size + 1 ≤ lo → Keeps lo B' w7 (six w7 w.heap.size 0 (.int .i64 5) (.bool false) (.int .i64 0) (.string ⟨#[]⟩) (.slice (some ⟨kg2, 0, none⟩) 2 kcap2) (.slice (some ⟨lg2, 0, none⟩) 2 lcap2)) := fun lo B' h b o h1 _ => six_out (fun e => by omega)
  rw [six_size]
  have hkc := ownsRow_caps hko7 rfl
  have hlc := ownsRow_caps hlo7 rfl
  have hk1 := (hko7.lt kg2 rfl)
  have hl1 := (hlo7.lt lg2 rfl)
  have hkcell : ∀ j u, [Value.string k1, .string k0][j]? = some u → (six w7 w.heap.size 0 (.int .i64 5) (.bool false) (.int .i64 0) (.string ⟨#[]⟩) (.slice (some ⟨kg2, 0, none⟩) 2 kcap2) (.slice (some ⟨lg2, 0, none⟩) 2 lcap2)).cell? ⟨kg2, j, none⟩ = some u := fun j u h => by
    rw [six_out (fun e => by omega)]
    have := hko7.cells (g := kg2) rfl j u h
    rw [add_plain] at this; simpa using this
  have hlcell : ∀ j u, ([e0, e1, e2, e3, e4, e5] ++ [f0, f1, f2, f3, f4, f5])[j]? = some u → (six w7 w.heap.size 0 (.int .i64 5) (.bool false) (.int .i64 0) (.string ⟨#[]⟩) (.slice (some ⟨kg2, 0, none⟩) 2 kcap2) (.slice (some ⟨lg2, 0, none⟩) 2 lcap2)).cell? ⟨lg2, j, none⟩ = some u := fun j u h => by
    rw [six_out (fun e => by omega)]
    have := hlo7.cells (g := lg2) rfl j u h
    rw [add_plain] at this; simpa using this
  have he := ((hlr7e.keep (hfin _ _ (by omega))).mono (Nat.le_refl _) hS7.1).lie
  have hf := ((hlr7f.keep (hfin _ _ (by omega))).mono (Nat.le_refl _) hS7.2.1).lie
  simp only [Lies, KidsLie]
  refine ⟨some ⟨kg2, 0, none⟩, kcap2, some ⟨lg2, 0, none⟩, lcap2, rfl, ⟨by show 0 ≤ _; omega, hkc.1, hkc.2, hlc.1, hlc.2⟩, .inr ⟨kg2, 0, rfl, hk1.2, ?_⟩, .inr ⟨lg2, 0, rfl, hl1.2, ?_⟩⟩
  · intro i hi
    match i, hi with
    | 0, _ => exact ⟨hkcell 0 _ rfl, hs1⟩
    | 1, _ => exact ⟨hkcell 1 _ rfl, hs0⟩
  · exact ⟨⟨e0, e1, e2, e3, e4, e5, ⟨hlcell 0 _ rfl, hlcell 1 _ rfl, hlcell 2 _ rfl, hlcell 3 _ rfl, hlcell 4 _ rfl, hlcell 5 _ rfl⟩, by simpa only [Lies] using he⟩, ⟨f0, f1, f2, f3, f4, f5, ⟨hlcell 6 _ rfl, hlcell 7 _ rfl, hlcell 8 _ rfl, hlcell 9 _ rfl, hlcell 10 _ rfl, hlcell 11 _ rfl⟩, by simpa only [Lies] using hf⟩, trivial⟩
end Go.Proofs.YtbpmhgcjefpigaaGreatDoor
