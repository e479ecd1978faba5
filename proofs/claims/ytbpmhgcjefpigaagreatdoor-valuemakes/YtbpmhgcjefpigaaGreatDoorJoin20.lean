/- Alike: values that are the same tree. kept: a value that was copied is as it was, and so are the places behind its lists. -/
import Derived.Test.YtbpmhgcjefpigaaGreatDoorAlike11
import Derived.Test.YtbpmhgcjefpigaaGreatDoorJoin14
import Derived.Test.YtbpmhgcjefpigaaGreatDoorKept1
import Derived.Test.YtbpmhgcjefpigaaGreatDoorKept6
namespace Go.Proofs.YtbpmhgcjefpigaaGreatDoor
open Go.RowKit Go.Shelf
set_option linter.unusedVariables false
set_option linter.unusedSimpArgs false
set_option maxRecDepth 100000 in
set_option maxHeartbeats 4000000 in
theorem alike_any : ∀ (T : Tree) (B : Nat) (v v' : Value) (w : World), B ≤ w.heap.size → Lies B w v T → Lies B w v' T →
    Calls Tryz.prog 27 #[v, v'] w fun e w' => e = .returned (.bool true) ∧ Below w.heap.size w w' := by
  refine Tree.ind ?_
  intro k x n s ks ts ih B v v' w hB hv hv'
  simp only [Lies] at hv hv'
  obtain ⟨ka, kc, la, lc, rfl, ⟨hs1, hs2, hs3, hs4, hs5⟩, hk, ht⟩ := hv
  obtain ⟨ka2, kc2, la2, lc2, rfl, ⟨gs1, gs2, gs3, gs4, gs5⟩, hk', ht'⟩ := hv'
  unfold maxLen at hs1 hs3 hs5 gs3 gs5
  obtain ⟨W2, hW2⟩ : ∃ W2, ((w.alloc (.cells #[.int .i64 k, .bool x, .int .i64 n, .string s, .slice ka ks.length kc, .slice la ts.length lc] 26)).alloc (.cells #[.int .i64 k, .bool x, .int .i64 n, .string s, .slice ka2 ks.length kc2, .slice la2 ts.length lc2] 26)) = W2 := ⟨_, rfl⟩
  have HX : Hid (∀ W, Below W2.heap.size W2 W → Below w.heap.size w W ∧ (W.cell? ⟨w.heap.size, 4, none⟩ = some (.slice ka ks.length kc) ∧ W.cell? ⟨w.heap.size + 1, 4, none⟩ = some (.slice ka2 ks.length kc2)) ∧ W.cell? ⟨w.heap.size, 5, none⟩ = some (.slice la ts.length lc) ∧ W.cell? ⟨w.heap.size + 1, 5, none⟩ = some (.slice la2 ts.length lc2)) := fun W hb => by
    rw [← hW2] at hb
    obtain ⟨h1, h2, h3⟩ := two_boxes hb
    exact ⟨h1, ⟨h2 4 _ rfl, h3 4 _ rfl⟩, h2 5 _ rfl, h3 5 _ rfl⟩
  have HW2 := hidE hW2
  have HIH := hidE ih
  have HKK := hidE (And.intro hk hk')
  have HTT := hidE (And.intro ht ht')
  clear ih hk hk' ht ht' hW2
  go_enter Tryz.func27, Tryz.ntmps27
  go_wp2_with fail
  rw [HW2.out]
  clear HW2
  go_loopw [5] (fun i wr => ∃ j : Nat, j ≤ ks.length ∧ i = .int .i64 j ∧ Below W2.heap.size W2 wr) (fun i _ => ks.length - (intOf i).toNat)
  case atStart => exact ⟨0, Nat.zero_le _, rfl, Below.refl _ _⟩
  case round =>
    obtain ⟨j, hj, rfl, hbr⟩ := hrel
    have HBR := hidE hbr
    obtain ⟨hbw, ⟨q4, r4⟩, q5, r5⟩ := HX.out wr hbr
    have HBW := hidE hbw
    clear hbr hbw
    by_cases hja : j < ks.length
    · obtain ⟨bk, off, rfl, hbk, hkey⟩ := (HKK.out.1.below (HBW.out.mono hB)).resolve_left (by intro e; subst e; simp at hja)
      obtain ⟨bk', off', rfl, hbk', hkey'⟩ := (HKK.out.2.below (HBW.out.mono hB)).resolve_left (by intro e; subst e; simp at hja)
      have hc := (hkey j hja).1
      have hc' := (hkey' j hja).1
      generalize ks.getD j ⟨#[]⟩ = y at *
      clear hkey hkey' HKK HTT
      go_wp2_with fail
      go_quiet (fail)
      go_wp2_with fail
      go_roundw
      case rel => exact ⟨j + 1, by omega, by go_num, below_drewN HBR.out _⟩
      case measure => simp [intOf]; omega
    · clear HKK r4 r5
      go_wp2_with fail
      clear q4 q5
      go_loopw [6] (fun i wr => ∃ p : Nat, p ≤ ts.length ∧ i = .int .i64 p ∧ Below W2.heap.size W2 wr) (fun i _ => ts.length - (intOf i).toNat)
      case atStart => exact ⟨0, Nat.zero_le _, rfl, HBR.out⟩
      case round =>
        obtain ⟨p, hp, rfl, hbr2⟩ := hrel
        obtain ⟨hbw2, ⟨q4, r4⟩, q5, r5⟩ := HX.out wr hbr2
        have HBR2 := hidE hbr2
        have HBW2 := hidE hbw2
        clear hbr2 hbw2 q4 r4
        by_cases hlt : p < ts.length
        · obtain ⟨bl, off, rfl, hbl, hkk⟩ := HTT.out.1.resolve_left (by intro e; subst e; simp at hlt)
          obtain ⟨bl', off', rfl, hbl', hkk'⟩ := HTT.out.2.resolve_left (by intro e; subst e; simp at hlt)
          obtain ⟨⟨p0, p1, p2, p3, p4, p5⟩, hx⟩ : ∃ t, ts[p]? = some t := ⟨_, List.getElem?_eq_getElem hlt⟩
          obtain ⟨ja, jc, jl, jd, ⟨c0, c1, c2, c3, c4, c5⟩, hlx⟩ := (hkk.below (HBW2.out.mono hB) hbl).cells hx
          obtain ⟨ja', jc', jl', jd', ⟨d0, d1, d2, d3, d4, d5⟩, hly⟩ := (hkk'.below (HBW2.out.mono hB) hbl').cells hx
          have HC : Hid (∀ W, Below wr.heap.size wr W → Calls Tryz.prog 27 #[.agg #[.int .i64 p0, .bool p1, .int .i64 p2, .string p3, .slice ja p4.length jc, .slice jl p5.length jd], .agg #[.int .i64 p0, .bool p1, .int .i64 p2, .string p3, .slice ja' p4.length jc', .slice jl' p5.length jd']] W fun e w' => e = .returned (.bool true) ∧ Below W.heap.size W w') := fun W hb =>
            HIH.out _ (List.mem_of_getElem? hx) B _ _ W (Nat.le_trans hB (Nat.le_trans HBW2.out.size hb.size)) (hlx.below (hb.mono (Nat.le_trans hB HBW2.out.size))) (hly.below (hb.mono (Nat.le_trans hB HBW2.out.size)))
          clear hx hkk hkk' hlx hly
          go_upto_region 11 with fail
          show (Code.region 11 RA11 true).wp _ _ _ _
          refine regionA11 w.heap.size (w.heap.size + 1) bl off ts.length lc bl' off' lc2 p (.int .i64 p0) (.bool p1) (.int .i64 p2) (.string p3) (.slice ja p4.length jc) (.slice jl p5.length jd) (.int .i64 p0) (.bool p1) (.int .i64 p2) (.string p3) (.slice ja' p4.length jc') (.slice jl' p5.length jd') _ _ _ rfl ⟨rfl, rfl, rfl⟩ (fun W hb => ⟨cell_below hb (Nat.le_refl _) q5, cell_below hb (Nat.le_refl _) r5, cell_below hb (Nat.le_refl _) c0, cell_below hb (Nat.le_refl _) c1, cell_below hb (Nat.le_refl _) c2, cell_below hb (Nat.le_refl _) c3, cell_below hb (Nat.le_refl _) c4, cell_below hb (Nat.le_refl _) c5, cell_below hb (Nat.le_refl _) d0, cell_below hb (Nat.le_refl _) d1, cell_below hb (Nat.le_refl _) d2, cell_below hb (Nat.le_refl _) d3, cell_below hb (Nat.le_refl _) d4, cell_below hb (Nat.le_refl _) d5, hlt, by omega, HC.out W hb⟩) ?_
          intro c w' hS hk2 he
          have hl : c = ⟨#[Value.agg #[Value.int IntKind.i64 k, Value.bool x, Value.int IntKind.i64 n, Value.string s, Value.slice ka ks.length kc, Value.slice (some { block := bl, off := off }) ts.length lc], Value.agg #[Value.int IntKind.i64 k, Value.bool x, Value.int IntKind.i64 n, Value.string s, Value.slice ka2 ks.length kc2, Value.slice (some { block := bl', off := off' }) ts.length lc2], Value.pointer (some { block := w.heap.size, off := 0 }), Value.pointer (some { block := w.heap.size + 1, off := 0 }), u4, Value.int IntKind.i64 ↑j, Value.int IntKind.i64 ↑p, Value.pointer (some { block := w.heap.size, off := 0 }), Value.int IntKind.i64 k, Value.pointer (some { block := w.heap.size + 1, off := 0 }), Value.int IntKind.i64 k, Value.bool false, Value.bool false, Value.pointer (some { block := w.heap.size, off := 1 }), Value.bool x, Value.pointer (some { block := w.heap.size + 1, off := 1 }), Value.bool x, Value.bool false, Value.bool false, Value.bool false, Value.pointer (some { block := w.heap.size, off := 2 }), Value.int IntKind.i64 n, Value.pointer (some { block := w.heap.size + 1, off := 2 }), Value.int IntKind.i64 n, Value.bool false, Value.bool false, Value.bool false, Value.pointer (some { block := w.heap.size, off := 3 }), Value.string s, Value.pointer (some { block := w.heap.size + 1, off := 3 }), Value.string s, Value.bool false, Value.bool false, Value.bool false, Value.pointer (some { block := w.heap.size, off := 4 }), Value.slice ka ks.length kc, Value.int IntKind.i64 ↑ks.length, Value.pointer (some { block := w.heap.size + 1, off := 4 }), Value.slice ka2 ks.length kc2, Value.int IntKind.i64 ↑ks.length, Value.bool false, Value.bool false, Value.bool false, Value.pointer (some { block := w.heap.size, off := 5 }), Value.slice (some { block := bl, off := off }) ts.length lc, Value.int IntKind.i64 ↑ts.length, Value.pointer (some { block := w.heap.size + 1, off := 5 }), Value.slice (some { block := bl', off := off' }) ts.length lc2, Value.int IntKind.i64 ↑ts.length, Value.bool false, Value.bool false, Value.int IntKind.i64 ↑j, Value.pointer (some { block := w.heap.size, off := 4 }), Value.slice ka ks.length kc, Value.int IntKind.i64 ↑ks.length, Value.bool false, u56, u57, u58, u59, u60, u61, u62, u63, u64, u65, u66, u67, u68, Value.int IntKind.i64 ↑p, Value.pointer (some { block := w.heap.size, off := 5 }), Value.slice (some { block := bl, off := off }) ts.length lc, Value.int IntKind.i64 ↑ts.length, Value.bool true, u74, u75, c.eval (.tmp 76), c.eval (.tmp 77), c.eval (.tmp 78), c.eval (.tmp 79), c.eval (.tmp 80), c.eval (.tmp 81), c.eval (.tmp 82), c.eval (.tmp 83), c.eval (.tmp 84), c.eval (.tmp 85), c.eval (.tmp 86), c.eval (.tmp 87)], []⟩ := (same_lay hS).trans (by kernel_rfl)
          rw [he] at hl
          generalize c.eval (.tmp 76) = z76 at hl
          generalize c.eval (.tmp 77) = z77 at hl
          generalize c.eval (.tmp 78) = z78 at hl
          generalize c.eval (.tmp 79) = z79 at hl
          generalize c.eval (.tmp 80) = z80 at hl
          generalize c.eval (.tmp 81) = z81 at hl
          generalize c.eval (.tmp 82) = z82 at hl
          generalize c.eval (.tmp 83) = z83 at hl
          generalize c.eval (.tmp 84) = z84 at hl
          generalize c.eval (.tmp 85) = z85 at hl
          generalize c.eval (.tmp 86) = z86 at hl
          clear hS he
          subst hl
          have HB2 : Hid (Below W2.heap.size W2 w') := HBR2.out.trans (hk2.mono HBR2.out.size)
          clear hk2 c0 c1 c2 c3 c4 c5 d0 d1 d2 d3 d4 d5 q5 r5 HC
          go_wp2_with fail
          go_roundw
          case rel => exact ⟨p + 1, by omega, by go_num, HB2.out⟩
          case measure => simp [intOf]; omega
        · go_wp2_with fail
          go_ret
          exact ⟨rfl, HBW2.out⟩
end Go.Proofs.YtbpmhgcjefpigaaGreatDoor

namespace Go.Proofs.YtbpmhgcjefpigaaGreatDoor
open Go.RowKit Go.Shelf
set_option linter.unusedVariables false
set_option linter.unusedSimpArgs false
set_option maxRecDepth 100000 in
set_option maxHeartbeats 4000000 in
theorem kept_any : ∀ (T : Tree) (B : Nat) (v v' : Value) (w : World), B ≤ w.heap.size → SpareP (· < B) w v T → Lies B w v' T →
    Calls Tryz.prog 29 #[v, v'] w fun e w' => e = .returned (.bool true) ∧ Below w.heap.size w w' := by
  refine Tree.ind ?_
  intro k x n s ks ts ih B v v' w hB hv hv'
  have HSL := hidE (And.intro (Spare.lies hv) hv')
  simp only [Lies] at hv'
  simp only [SpareP] at hv
  obtain ⟨bk, kc, bl, lc, rfl, ⟨hs1, hs2, hs3, hs4, hs5⟩, ⟨hbk, hbl⟩, hk, hsp, ht, h77⟩ := hv
  obtain ⟨ka2, kc2, la2, lc2, rfl, ⟨gs1, gs2, gs3, gs4, gs5⟩, hk', ht'⟩ := hv'
  unfold maxLen at hs3 hs5 gs3 gs5
  obtain ⟨W2, hW2⟩ : ∃ W2, ((w.alloc (.cells #[.int .i64 k, .bool x, .int .i64 n, .string s, .slice (some ⟨bk, 0, none⟩) ks.length kc, .slice (some ⟨bl, 0, none⟩) ts.length lc] 26)).alloc (.cells #[.int .i64 k, .bool x, .int .i64 n, .string s, .slice ka2 ks.length kc2, .slice la2 ts.length lc2] 26)) = W2 := ⟨_, rfl⟩
  have HX : Hid (∀ W, Below W2.heap.size W2 W → Below w.heap.size w W ∧ (∀ i u, (#[.int .i64 k, .bool x, .int .i64 n, .string s, .slice (some ⟨bk, 0, none⟩) ks.length kc, .slice (some ⟨bl, 0, none⟩) ts.length lc] : Array Value)[i]? = some u → W.cell? ⟨w.heap.size, i, none⟩ = some u) ∧ (∀ i u, (#[.int .i64 k, .bool x, .int .i64 n, .string s, .slice ka2 ks.length kc2, .slice la2 ts.length lc2] : Array Value)[i]? = some u → W.cell? ⟨w.heap.size + 1, i, none⟩ = some u)) := fun W hb => by
    rw [← hW2] at hb
    exact two_boxes hb
  have HW2 := hidE hW2
  have HIH := hidE ih
  have HTT := hidE (And.intro ht ht')
  have HSP := hidE (And.intro hsp h77)
  clear ih hk hk' ht ht' hW2 hsp h77
  go_enter Tryz.func29, Tryz.ntmps29
  go_upto_region 1 with fail
  rw [HW2.out]
  show (Code.region 1 RP1 true).wp _ _ _ _
  refine regionP1 w.heap.size (w.heap.size + 1) bk kc bl lc ks.length ts.length kc2 lc2 ka2 la2 (.int .i64 k) (.bool x) (.int .i64 n) (.string s) (.int .i64 k) (.bool x) (.int .i64 n) (.string s) _ _ W2 rfl ⟨rfl, rfl⟩ (fun W hb => ?_) ?_
  · obtain ⟨h1, h2, h3⟩ := HX.out W hb
    exact ⟨h2 0 _ rfl, h2 1 _ rfl, h2 2 _ rfl, h2 3 _ rfl, h2 4 _ rfl, h2 5 _ rfl, h3 0 _ rfl, h3 1 _ rfl, h3 2 _ rfl, h3 3 _ rfl, h3 4 _ rfl, h3 5 _ rfl, (h1.cell (p := ⟨bk, ks.length, none⟩) (Nat.lt_of_lt_of_le hbk hB)).trans HSP.out.1, (h1.cell (p := ⟨bl, ts.length * 6, none⟩) (Nat.lt_of_lt_of_le hbl hB)).trans HSP.out.2, hs2, hs3, hs4, hs5,
      alike_any _ B _ _ W (Nat.le_trans hB h1.size) (HSL.out.1.below (h1.mono hB)) (HSL.out.2.below (h1.mono hB))⟩
  intro c w1 hS hk1 he
  have hl : c = ⟨#[Value.agg #[Value.int IntKind.i64 k, Value.bool x, Value.int IntKind.i64 n, Value.string s, Value.slice (some { block := bk, off := 0 }) ks.length kc, Value.slice (some { block := bl, off := 0 }) ts.length lc], Value.agg #[Value.int IntKind.i64 k, Value.bool x, Value.int IntKind.i64 n, Value.string s, Value.slice ka2 ks.length kc2, Value.slice la2 ts.length lc2], Value.pointer (some { block := w.heap.size, off := 0 }), Value.pointer (some { block := w.heap.size + 1, off := 0 }), Value.bool false, undef, c.eval (.tmp 6), c.eval (.tmp 7), c.eval (.tmp 8), c.eval (.tmp 9), c.eval (.tmp 10), c.eval (.tmp 11), c.eval (.tmp 12), c.eval (.tmp 13), c.eval (.tmp 14), c.eval (.tmp 15), c.eval (.tmp 16), c.eval (.tmp 17), c.eval (.tmp 18), c.eval (.tmp 19), c.eval (.tmp 20), c.eval (.tmp 21), c.eval (.tmp 22), c.eval (.tmp 23), c.eval (.tmp 24), c.eval (.tmp 25), c.eval (.tmp 26), c.eval (.tmp 27), c.eval (.tmp 28), c.eval (.tmp 29), c.eval (.tmp 30), c.eval (.tmp 31), c.eval (.tmp 32), c.eval (.tmp 33), c.eval (.tmp 34), c.eval (.tmp 35), c.eval (.tmp 36), c.eval (.tmp 37), c.eval (.tmp 38), c.eval (.tmp 39), c.eval (.tmp 40), undef, undef, undef, undef, undef, undef, undef, undef, undef, undef, undef, undef, undef, undef, undef, undef, undef, undef, undef], []⟩ := (same_lay hS).trans (by kernel_rfl)
  rw [he] at hl
  generalize c.eval (.tmp 6) = z6 at hl
  generalize c.eval (.tmp 7) = z7 at hl
  generalize c.eval (.tmp 8) = z8 at hl
  generalize c.eval (.tmp 9) = z9 at hl
  generalize c.eval (.tmp 10) = z10 at hl
  generalize c.eval (.tmp 11) = z11 at hl
  generalize c.eval (.tmp 12) = z12 at hl
  generalize c.eval (.tmp 13) = z13 at hl
  generalize c.eval (.tmp 14) = z14 at hl
  generalize c.eval (.tmp 15) = z15 at hl
  generalize c.eval (.tmp 16) = z16 at hl
  generalize c.eval (.tmp 17) = z17 at hl
  generalize c.eval (.tmp 18) = z18 at hl
  generalize c.eval (.tmp 19) = z19 at hl
  generalize c.eval (.tmp 20) = z20 at hl
  generalize c.eval (.tmp 21) = z21 at hl
  generalize c.eval (.tmp 22) = z22 at hl
  generalize c.eval (.tmp 23) = z23 at hl
  generalize c.eval (.tmp 24) = z24 at hl
  generalize c.eval (.tmp 25) = z25 at hl
  generalize c.eval (.tmp 26) = z26 at hl
  generalize c.eval (.tmp 27) = z27 at hl
  generalize c.eval (.tmp 28) = z28 at hl
  generalize c.eval (.tmp 29) = z29 at hl
  generalize c.eval (.tmp 30) = z30 at hl
  generalize c.eval (.tmp 31) = z31 at hl
  generalize c.eval (.tmp 32) = z32 at hl
  generalize c.eval (.tmp 33) = z33 at hl
  generalize c.eval (.tmp 34) = z34 at hl
  generalize c.eval (.tmp 35) = z35 at hl
  generalize c.eval (.tmp 36) = z36 at hl
  generalize c.eval (.tmp 37) = z37 at hl
  generalize c.eval (.tmp 38) = z38 at hl
  generalize c.eval (.tmp 39) = z39 at hl
  clear hS he
  subst hl
  have HB1 := hidE hk1
  clear hk1 HSL HSP
  go_wp2_with fail
  go_loopw [5] (fun i wr => ∃ p : Nat, p ≤ ts.length ∧ i = .int .i64 p ∧ Below W2.heap.size W2 wr) (fun i _ => ts.length - (intOf i).toNat)
  case atStart => exact ⟨0, Nat.zero_le _, rfl, HB1.out⟩
  case round =>
    obtain ⟨p, hp, rfl, hbr2⟩ := hrel
    obtain ⟨hbw2, hq, hr⟩ := HX.out wr hbr2
    have q5 := hq 5 _ rfl
    have r5 := hr 5 _ rfl
    have HBR2 := hidE hbr2
    have HBW2 := hidE hbw2
    clear hbr2 hbw2 hq hr
    by_cases hlt : p < ts.length
    · obtain ⟨bl', off', rfl, hbl', hkk'⟩ := HTT.out.2.resolve_left (by intro e; subst e; simp at hlt)
      obtain ⟨⟨p0, p1, p2, p3, p4, p5⟩, hx⟩ : ∃ t, ts[p]? = some t := ⟨_, List.getElem?_eq_getElem hlt⟩
      have hkk := SpareKids.keep (p := (· < B)) (w' := wr) (fun b i hb => HBW2.out.cell (p := ⟨b, i, none⟩) (Nat.lt_of_lt_of_le hb hB)) hbl HTT.out.1
      obtain ⟨m0, m1, m2, m3, m4, m5, ⟨c0, c1, c2, c3, c4, c5⟩, hlx⟩ := hkk.at hx
      simp only [Nat.zero_add] at c0 c1 c2 c3 c4 c5
      obtain ⟨ja', jc', jl', jd', ⟨d0, d1, d2, d3, d4, d5⟩, hly⟩ := (hkk'.below (HBW2.out.mono hB) hbl').cells hx
      have HC : Hid (∀ W, Below wr.heap.size wr W → Calls Tryz.prog 29 #[.agg #[m0, m1, m2, m3, m4, m5], .agg #[.int .i64 p0, .bool p1, .int .i64 p2, .string p3, .slice ja' p4.length jc', .slice jl' p5.length jd']] W fun e w' => e = .returned (.bool true) ∧ Below W.heap.size W w') := fun W hb =>
        HIH.out _ (List.mem_of_getElem? hx) B _ _ W (Nat.le_trans hB (Nat.le_trans HBW2.out.size hb.size)) (Spare.below (hb.mono (Nat.le_trans hB HBW2.out.size)) hlx) (hly.below (hb.mono (Nat.le_trans hB HBW2.out.size)))
      clear hx hkk hkk' hlx hly
      go_upto_region 6 with fail
      show (Code.region 6 RP6 true).wp _ _ _ _
      refine regionP6 w.heap.size (w.heap.size + 1) bl 0 ts.length lc bl' off' lc2 p m0 m1 m2 m3 m4 m5 (.int .i64 p0) (.bool p1) (.int .i64 p2) (.string p3) (.slice ja' p4.length jc') (.slice jl' p5.length jd') _ _ _ rfl ⟨rfl, rfl, rfl⟩ (fun W hb => ⟨cell_below hb (Nat.le_refl _) q5, cell_below hb (Nat.le_refl _) r5, by simpa only [Nat.zero_add] using cell_below hb (Nat.le_refl _) c0, by simpa only [Nat.zero_add] using cell_below hb (Nat.le_refl _) c1, by simpa only [Nat.zero_add] using cell_below hb (Nat.le_refl _) c2, by simpa only [Nat.zero_add] using cell_below hb (Nat.le_refl _) c3, by simpa only [Nat.zero_add] using cell_below hb (Nat.le_refl _) c4, by simpa only [Nat.zero_add] using cell_below hb (Nat.le_refl _) c5, cell_below hb (Nat.le_refl _) d0, cell_below hb (Nat.le_refl _) d1, cell_below hb (Nat.le_refl _) d2, cell_below hb (Nat.le_refl _) d3, cell_below hb (Nat.le_refl _) d4, cell_below hb (Nat.le_refl _) d5, hlt, by omega, HC.out W hb⟩) ?_
      intro c w' hS hk2 he
      have hl : c = ⟨#[Value.agg #[Value.int IntKind.i64 k, Value.bool x, Value.int IntKind.i64 n, Value.string s, Value.slice (some { block := bk, off := 0 }) ks.length kc, Value.slice (some { block := bl, off := 0 }) ts.length lc], Value.agg #[Value.int IntKind.i64 k, Value.bool x, Value.int IntKind.i64 n, Value.string s, Value.slice ka2 ks.length kc2, Value.slice (some { block := bl', off := off' }) ts.length lc2], Value.pointer (some { block := w.heap.size, off := 0 }), Value.pointer (some { block := w.heap.size + 1, off := 0 }), u4, Value.int IntKind.i64 ↑p, z6, z7, z8, z9, z10, z11, z12, z13, z14, z15, z16, z17, z18, z19, z20, z21, z22, z23, z24, z25, z26, z27, z28, z29, z30, z31, z32, z33, z34, z35, z36, z37, z38, z39, Value.bool false, Value.int IntKind.i64 ↑p, Value.pointer (some { block := w.heap.size + 1, off := 5 }), Value.slice (some { block := bl', off := off' }) ts.length lc2, Value.int IntKind.i64 ↑ts.length, Value.bool true, u46, u47, c.eval (.tmp 48), c.eval (.tmp 49), c.eval (.tmp 50), c.eval (.tmp 51), c.eval (.tmp 52), c.eval (.tmp 53), c.eval (.tmp 54), c.eval (.tmp 55), c.eval (.tmp 56), c.eval (.tmp 57), c.eval (.tmp 58), c.eval (.tmp 59)], []⟩ := (same_lay hS).trans (by kernel_rfl)
      rw [he] at hl
      generalize c.eval (.tmp 48) = z48 at hl
      generalize c.eval (.tmp 49) = z49 at hl
      generalize c.eval (.tmp 50) = z50 at hl
      generalize c.eval (.tmp 51) = z51 at hl
      generalize c.eval (.tmp 52) = z52 at hl
      generalize c.eval (.tmp 53) = z53 at hl
      generalize c.eval (.tmp 54) = z54 at hl
      generalize c.eval (.tmp 55) = z55 at hl
      generalize c.eval (.tmp 56) = z56 at hl
      generalize c.eval (.tmp 57) = z57 at hl
      generalize c.eval (.tmp 58) = z58 at hl
      clear hS he
      subst hl
      have HB2 : Hid (Below W2.heap.size W2 w') := HBR2.out.trans (hk2.mono HBR2.out.size)
      clear hk2 c0 c1 c2 c3 c4 c5 d0 d1 d2 d3 d4 d5 q5 r5 HC
      go_wp2_with fail
      go_roundw
      case rel => exact ⟨p + 1, by omega, by go_num, HB2.out⟩
      case measure => simp [intOf]; omega
    · go_wp2_with fail
      go_ret
      exact ⟨rfl, HBW2.out⟩
end Go.Proofs.YtbpmhgcjefpigaaGreatDoor

