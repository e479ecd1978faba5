/- The document's equality of lists and of maps. The document's equality of lists of one length. -/
import Derived.Test.YtbpmhgcjefpigaaGreatDoorReq18
namespace Go.Proofs.YtbpmhgcjefpigaaGreatDoor
open Go.RowKit Go.Shelf
set_option linter.unusedVariables false

theorem agS_eq : ∀ {a b : List ByteArray}, agS a b = 0 → a.length = b.length
  | [], [], _ => rfl
  | [], _ :: _, h => by simp [agS] at h
  | _ :: _, [], h => by simp [agS] at h
  | a :: r, b :: t, h => by
    rw [agS] at h
    by_cases c : Lib.compareBytes a.data.toList b.data.toList = 0
    · rw [if_pos c] at h; simp [agS_eq h]
    · rw [if_neg c] at h; exact absurd h c
mutual
theorem eqT_range : ∀ (a b : Tree), eqT a b = 0 ∨ eqT a b = 1 ∨ eqT a b = 2
  | .mk k x n s ks ts, .mk k' x' n' s' ks' ts' => by
    rw [eqT]
    have h := eqL_range 2 ts ts' (.inr (.inr rfl))
    split
    · simp
    split
    · simp
    split
    · cases (ordT (.mk k x n s ks ts) (.mk k' x' n' s' ks' ts') == 0)
      · exact .inl rfl
      · exact .inr (.inr rfl)
    split
    · simp
    · exact h
theorem eqL_range : ∀ (m : Int) (a b : List Tree), (m = 0 ∨ m = 1 ∨ m = 2) → eqL m a b = 0 ∨ eqL m a b = 1 ∨ eqL m a b = 2
  | m, a :: r, b :: t, h => by
    rw [eqL]
    have g := eqT_range a b
    exact eqL_range _ r t (by omega)
  | m, [], _, h => by simpa [eqL] using h
  | m, _ :: _, [], h => by simpa [eqL] using h
end
theorem eqL_zero : ∀ (a b : List Tree), eqL 0 a b = 0
  | a :: r, b :: t => by
    rw [eqL]
    have g := eqT_range a b
    rw [show min 0 (eqT a b) = 0 by omega]
    exact eqL_zero r t
  | [], _ => by simp [eqL]
  | _ :: _, [] => by simp [eqL]
theorem eqL_split : ∀ (i : Nat) (m : Int) (a b : List Tree), eqL m a b = eqL (eqL m (a.take i) (b.take i)) (a.drop i) (b.drop i)
  | 0, m, a, b => by simp [eqL]
  | i + 1, m, [], b => by simp [eqL]
  | i + 1, m, a :: r, [] => by simp [eqL]
  | i + 1, m, a :: r, b :: t => by
    simp only [List.take_succ_cons, List.drop_succ_cons, eqL]
    exact eqL_split i _ r t

/-- Whether one was unknown so far. -/
def Flag (u : Value) (n : Int) : Prop := ∃ b : Bool, u = .bool b ∧ n = if b then 1 else 2

set_option maxRecDepth 100000 in
set_option maxHeartbeats 1600000 in
theorem refeq_unlike (k : Int) (x : Bool) (n : Int) (s : ByteArray) (ka : Option Addr) (ks : List ByteArray) (kc : Nat) (la : Option Addr) (ts : List Tree) (lc : Nat) (k' : Int) (x' : Bool) (n' : Int) (s' : ByteArray) (ka' : Option Addr) (ks' : List ByteArray) (kc' : Nat) (la' : Option Addr) (ts' : List Tree) (lc' : Nat) (w : World)
    (ih : ∀ t ∈ ts, ∀ (B : Nat) (v v' : Value) (T' : Tree) (w : World), B ≤ w.heap.size → Lies B w v t → Lies B w v' T' → Known t → Known T' → Calls Tryz.prog 35 #[v, v'] w fun e w' => e = .returned (.int .i64 (eqT t T')) ∧ Below w.heap.size w w')
    (B : Nat) (hB : B ≤ w.heap.size) (hK : KeysLie B w ka ks) (hT : ListLies B w la ts) (hK' : KeysLie B w ka' ks') (hT' : ListLies B w la' ts') (hs2 : ks.length ≤ kc) (hs3 : kc ≤ maxLen) (hs4 : ts.length ≤ lc) (hs5 : lc ≤ maxLen)
    (gs2 : ks'.length ≤ kc') (gs3 : kc' ≤ maxLen) (gs4 : ts'.length ≤ lc') (gs5 : lc' ≤ maxLen) (hkn : KnownL ts) (hkn' : KnownL ts') (e0 : (k == 0) = false) (f0 : (k' == 0) = false) (e1 : (k == k') = true) (z45 : (k != 4) = false ∨ ((k != 4) = true ∧ (k != 5) = false)) (hu : ks.length ≠ ks'.length ∨ ts.length ≠ ts'.length) (res : Int)
    (hres : res = if ts.length ≠ ts'.length ∨ agS ks ks' ≠ 0 then 0 else eqL 2 ts ts') :
    Calls Tryz.prog 35 #[.agg #[.int .i64 k, .bool x, .int .i64 n, .string s, .slice ka ks.length kc, .slice la ts.length lc], .agg #[.int .i64 k', .bool x', .int .i64 n', .string s', .slice ka' ks'.length kc', .slice la' ts'.length lc']] w fun e w' => e = .returned (.int .i64 res) ∧ Below w.heap.size w w' := by
  unfold maxLen at hs3 hs5 gs3 gs5
  obtain ⟨W2, hW2⟩ : ∃ W2, ((w.alloc (.cells #[.int .i64 k, .bool x, .int .i64 n, .string s, .slice ka ks.length kc, .slice la ts.length lc] 26)).alloc (.cells #[.int .i64 k', .bool x', .int .i64 n', .string s', .slice ka' ks'.length kc', .slice la' ts'.length lc'] 26)) = W2 := ⟨_, rfl⟩
  have HX : Hid (∀ W, Below W2.heap.size W2 W → Below w.heap.size w W ∧ W.cell? ⟨w.heap.size, 4, none⟩ = some (.slice ka ks.length kc) ∧ W.cell? ⟨w.heap.size + 1, 4, none⟩ = some (.slice ka' ks'.length kc') ∧ W.cell? ⟨w.heap.size, 5, none⟩ = some (.slice la ts.length lc) ∧ W.cell? ⟨w.heap.size + 1, 5, none⟩ = some (.slice la' ts'.length lc')) := fun W hb => by
    rw [← hW2] at hb
    obtain ⟨h1, h2, h3⟩ := two_boxes hb
    exact ⟨h1, h2 4 _ rfl, h3 4 _ rfl, h2 5 _ rfl, h3 5 _ rfl⟩
  have HBW0 := hidE (HX.out W2 (Below.refl _ _)).1
  have HW2 := hidE hW2
  have HIH := hidE ih
  have HR := hidE hres
  have HKN := hidE (And.intro hkn hkn')
  have HKK := hidE (And.intro hK hK')
  have HTT := hidE (And.intro hT hT')
  clear ih hres hkn hkn' hK hK' hT hT' hW2
  by_cases hkl : ks.length = ks'.length
  case neg =>
    have HR1 := hidE (HR.out.trans (if_pos (.inr (fun c => hkl (agS_eq c)))))
    have kl : ((ks.length : Int) != (ks'.length : Int)) = true := by rw [bne_iff_ne]; omega
    clear HR hkl hu
    rcases z45 with e4 | ⟨e4, e5⟩
    all_goals
      go_enter Tryz.func35, Tryz.ntmps35
      go_wp2_with fail
      rw [HW2.out]
      go_ret
      exact ⟨by rw [HR1.out]; rfl, HBW0.out⟩
  have kl : ((ks.length : Int) != (ks'.length : Int)) = false := by rw [hkl]; simp
  by_cases htl : ts.length = ts'.length
  case neg =>
    have HR1 := hidE (HR.out.trans (if_pos (.inl htl)))
    have tl : ((ts.length : Int) != (ts'.length : Int)) = true := by rw [bne_iff_ne]; omega
    clear HR hkl htl hu
    rcases z45 with e4 | ⟨e4, e5⟩
    all_goals
      go_enter Tryz.func35, Tryz.ntmps35
      go_wp2_with fail
      rw [HW2.out]
      go_ret
      exact ⟨by rw [HR1.out]; rfl, HBW0.out⟩
  rcases hu with hu | hu
  · exact absurd hkl hu
  · exact absurd htl hu
end Go.Proofs.YtbpmhgcjefpigaaGreatDoor

namespace Go.Proofs.YtbpmhgcjefpigaaGreatDoor
open Go.RowKit Go.Shelf
set_option linter.unusedVariables false

set_option maxRecDepth 100000 in
set_option maxHeartbeats 8000000 in
theorem refeq_a (k : Int) (x : Bool) (n : Int) (s : ByteArray) (ka : Option Addr) (ks : List ByteArray) (kc : Nat) (la : Option Addr) (ts : List Tree) (lc : Nat) (k' : Int) (x' : Bool) (n' : Int) (s' : ByteArray) (ka' : Option Addr) (ks' : List ByteArray) (kc' : Nat) (la' : Option Addr) (ts' : List Tree) (lc' : Nat) (w : World)
    (ih : ∀ t ∈ ts, ∀ (B : Nat) (v v' : Value) (T' : Tree) (w : World), B ≤ w.heap.size → Lies B w v t → Lies B w v' T' → Known t → Known T' → Calls Tryz.prog 35 #[v, v'] w fun e w' => e = .returned (.int .i64 (eqT t T')) ∧ Below w.heap.size w w')
    (B : Nat) (hB : B ≤ w.heap.size) (hK : KeysLie B w ka ks) (hT : ListLies B w la ts) (hK' : KeysLie B w ka' ks') (hT' : ListLies B w la' ts') (hs2 : ks.length ≤ kc) (hs3 : kc ≤ maxLen) (hs4 : ts.length ≤ lc) (hs5 : lc ≤ maxLen)
    (gs2 : ks'.length ≤ kc') (gs3 : kc' ≤ maxLen) (gs4 : ts'.length ≤ lc') (gs5 : lc' ≤ maxLen) (hkn : KnownL ts) (hkn' : KnownL ts') (e0 : (k == 0) = false) (f0 : (k' == 0) = false) (e1 : (k == k') = true) (e4 : (k != 4) = false) (hkl : ks.length = ks'.length) (htl : ts.length = ts'.length) (res : Int)
    (hres : res = if ts.length ≠ ts'.length ∨ agS ks ks' ≠ 0 then 0 else eqL 2 ts ts') :
    Calls Tryz.prog 35 #[.agg #[.int .i64 k, .bool x, .int .i64 n, .string s, .slice ka ks.length kc, .slice la ts.length lc], .agg #[.int .i64 k', .bool x', .int .i64 n', .string s', .slice ka' ks'.length kc', .slice la' ts'.length lc']] w fun e w' => e = .returned (.int .i64 res) ∧ Below w.heap.size w w' := by
  unfold maxLen at hs3 hs5 gs3 gs5
  obtain ⟨W2, hW2⟩ : ∃ W2, ((w.alloc (.cells #[.int .i64 k, .bool x, .int .i64 n, .string s, .slice ka ks.length kc, .slice la ts.length lc] 26)).alloc (.cells #[.int .i64 k', .bool x', .int .i64 n', .string s', .slice ka' ks'.length kc', .slice la' ts'.length lc'] 26)) = W2 := ⟨_, rfl⟩
  have HX : Hid (∀ W, Below W2.heap.size W2 W → Below w.heap.size w W ∧ W.cell? ⟨w.heap.size, 4, none⟩ = some (.slice ka ks.length kc) ∧ W.cell? ⟨w.heap.size + 1, 4, none⟩ = some (.slice ka' ks'.length kc') ∧ W.cell? ⟨w.heap.size, 5, none⟩ = some (.slice la ts.length lc) ∧ W.cell? ⟨w.heap.size + 1, 5, none⟩ = some (.slice la' ts'.length lc')) := fun W hb => by
    rw [← hW2] at hb
    obtain ⟨h1, h2, h3⟩ := two_boxes hb
    exact ⟨h1, h2 4 _ rfl, h3 4 _ rfl, h2 5 _ rfl, h3 5 _ rfl⟩
  have HBW0 := hidE (HX.out W2 (Below.refl _ _)).1
  have HW2 := hidE hW2
  have HIH := hidE ih
  have HR := hidE hres
  have HKN := hidE (And.intro hkn hkn')
  have HKK := hidE (And.intro hK hK')
  have HTT := hidE (And.intro hT hT')
  clear ih hres hkn hkn' hK hK' hT hT' hW2
  have kl : ((ks.length : Int) != (ks'.length : Int)) = false := by rw [hkl]; simp
  have tl : ((ts.length : Int) != (ts'.length : Int)) = false := by rw [htl]; simp
  have HL := hidE (And.intro hkl htl)
  clear hkl htl
  go_enter Tryz.func35, Tryz.ntmps35
  go_wp2_with fail
  rw [HW2.out]
  clear HW2 e0 f0 e1 e4 kl tl
  go_loopw [5] (fun i wr => ∃ j : Nat, j ≤ ks.length ∧ i = .int .i64 j ∧ Below W2.heap.size W2 wr ∧ agS (ks.drop j) (ks'.drop j) = agS ks ks') (fun i _ => ks.length - (intOf i).toNat)
  case atStart => exact ⟨0, Nat.zero_le _, rfl, Below.refl _ _, rfl⟩
  case round =>
    obtain ⟨j, hj, rfl, hbr, hag⟩ := hrel
    have HAG := hidE hag
    have HBR := hidE hbr
    obtain ⟨hbw, q4, r4, q5, r5⟩ := HX.out wr hbr
    have HBW := hidE hbw
    clear hag hbr hbw
    by_cases hja : j < ks.length
    · have hjb : j < ks'.length := by have := HL.out.1; omega
      obtain ⟨bk, off, rfl, hbk, hkey⟩ := (HKK.out.1.below (HBW.out.mono hB)).resolve_left (by intro e; subst e; simp at hja)
      obtain ⟨bk', off', rfl, hbk', hkey'⟩ := (HKK.out.2.below (HBW.out.mono hB)).resolve_left (by intro e; subst e; simp at hjb)
      have hc := (hkey j hja).1
      have hc' := (hkey' j hjb).1
      have HST := hidE (agS_drop (a := ks) (b := ks') (i := j) hja hjb)
      generalize ks.getD j ⟨#[]⟩ = y at *
      generalize ks'.getD j ⟨#[]⟩ = y' at *
      clear hkey hkey' HKK HTT
      by_cases hy : y = y'
      · subst hy
        have HN : Hid (agS (ks.drop (j + 1)) (ks'.drop (j + 1)) = agS ks ks') := by
          show _ = _
          have := HST.out
          rw [if_pos (cmpB_self _), HAG.out] at this
          exact this.symm
        clear HST HAG
        go_wp2_with fail
        go_quiet (fail)
        go_wp2_with fail
        go_roundw
        case rel => exact ⟨j + 1, by omega, by go_num, below_drewN HBR.out _, HN.out⟩
        case measure => simp [intOf]; omega
      · have HZ := hidE (cmpB_ne hy)
        have HR1 : Hid (res = 0) := by
          refine HR.out.trans (if_pos (.inr ?_))
          have := HST.out
          rw [if_neg HZ.out, HAG.out] at this
          rw [this]
          exact HZ.out
        have ey : (y.toList == y'.toList) = false := beq_eq_false_iff_ne.2 (fun c => hy (by have := c; simp only [ByteArray.toList_eq] at this; cases y; cases y'; simp at this; rw [this]))
        clear HST HAG HZ HR
        go_wp2_with fail
        go_quiet (fail)
        go_wp2_with fail
        go_ret
        exact ⟨by rw [HR1.out]; rfl, below_drewN HBW.out _⟩
    · have HR1 : Hid (res = eqL 2 ts ts') := by
        refine HR.out.trans (if_neg ?_)
        intro h
        rcases h with h | h
        · exact h HL.out.2
        · apply h
          rw [← HAG.out, List.drop_of_length_le (by omega), List.drop_of_length_le (by have := HL.out.1; omega)]
          rfl
      clear HR HAG HKK r4 r5
      go_wp2_with fail
      clear q4 q5
      go_loopw [7, 6, 8] (fun i u _ wr => ∃ p : Nat, p ≤ ts.length ∧ i = .int .i64 p ∧ Flag u (eqL 2 (ts.take p) (ts'.take p)) ∧ Below W2.heap.size W2 wr) (fun i _ _ _ => ts.length - (intOf i).toNat)
      case atStart => exact ⟨0, Nat.zero_le _, rfl, ⟨false, rfl, by simp [eqL]⟩, HBR.out⟩
      case round =>
        obtain ⟨p, hp, rfl, ⟨b, rfl, hac⟩, hbr2⟩ := hrel
        obtain ⟨hbw2, q4, r4, q5, r5⟩ := HX.out _ hbr2
        have HAC := hidE hac
        have HBR2 := hidE hbr2
        have HBW2 := hidE hbw2
        clear hac hbr2 hbw2 q4 r4
        by_cases hlt : p < ts.length
        · have hlt' : p < ts'.length := by have := HL.out.2; omega
          obtain ⟨bl, off, rfl, hbl, hkk⟩ := HTT.out.1.resolve_left (by intro e; subst e; simp at hlt)
          obtain ⟨bl', off', rfl, hbl', hkk'⟩ := HTT.out.2.resolve_left (by intro e; subst e; simp at hlt')
          obtain ⟨⟨p0, p1, p2, p3, p4, p5⟩, hx⟩ : ∃ t, ts[p]? = some t := ⟨_, List.getElem?_eq_getElem hlt⟩
          obtain ⟨⟨r0, r1, r2, r3, r4, r5'⟩, hy⟩ : ∃ t, ts'[p]? = some t := ⟨_, List.getElem?_eq_getElem hlt'⟩
          have HST := hidE (eqL_take (m := 2) hx hy)
          obtain ⟨ja, jc, jl, jd, ⟨c0, c1, c2, c3, c4, c5⟩, hlx⟩ := (hkk.below (HBW2.out.mono hB) hbl).cells hx
          obtain ⟨ja', jc', jl', jd', ⟨d0, d1, d2, d3, d4, d5⟩, hly⟩ := (hkk'.below (HBW2.out.mono hB) hbl').cells hy
          have HC : Hid (∀ W, Below wr.heap.size wr W → Calls Tryz.prog 35 #[.agg #[.int .i64 p0, .bool p1, .int .i64 p2, .string p3, .slice ja p4.length jc, .slice jl p5.length jd], .agg #[.int .i64 r0, .bool r1, .int .i64 r2, .string r3, .slice ja' r4.length jc', .slice jl' r5'.length jd']] W fun e w' => e = .returned (.int .i64 (eqT (.mk p0 p1 p2 p3 p4 p5) (.mk r0 r1 r2 r3 r4 r5'))) ∧ Below W.heap.size W w') := fun W hb =>
            HIH.out _ (List.mem_of_getElem? hx) B _ _ _ W (Nat.le_trans hB (Nat.le_trans HBW2.out.size hb.size)) (hlx.below (hb.mono (Nat.le_trans hB HBW2.out.size))) (hly.below (hb.mono (Nat.le_trans hB HBW2.out.size))) (HKN.out.1.mem (List.mem_of_getElem? hx)) (HKN.out.2.mem (List.mem_of_getElem? hy))
          have HRG := hidE (eqT_range (.mk p0 p1 p2 p3 p4 p5) (.mk r0 r1 r2 r3 r4 r5'))
          clear hx hy hkk hkk' hlx hly
          generalize eqT (.mk p0 p1 p2 p3 p4 p5) (.mk r0 r1 r2 r3 r4 r5') = et at *
          go_upto_region 18 with fail
          show (Code.region 18 RE18 true).wp _ _ _ _
          refine regionE18 w.heap.size (w.heap.size + 1) bl off ts.length lc bl' off' ts'.length lc' p p0 p1 p2 p3 ja p4.length jc jl p5.length jd r0 r1 r2 r3 ja' r4.length jc' jl' r5'.length jd' et _ _ _ rfl ⟨rfl, rfl, rfl⟩ (fun W hb => ⟨cell_below hb (Nat.le_refl _) q5, cell_below hb (Nat.le_refl _) r5, cell_below hb (Nat.le_refl _) c0, cell_below hb (Nat.le_refl _) c1, cell_below hb (Nat.le_refl _) c2, cell_below hb (Nat.le_refl _) c3, cell_below hb (Nat.le_refl _) c4, cell_below hb (Nat.le_refl _) c5, cell_below hb (Nat.le_refl _) d0, cell_below hb (Nat.le_refl _) d1, cell_below hb (Nat.le_refl _) d2, cell_below hb (Nat.le_refl _) d3, cell_below hb (Nat.le_refl _) d4, cell_below hb (Nat.le_refl _) d5, hlt, hlt', by omega, by omega, HC.out W hb⟩) ?_
          intro c w' hS hk2 he
          have hl : c = ⟨#[Value.agg #[Value.int IntKind.i64 k, Value.bool x, Value.int IntKind.i64 n, Value.string s, Value.slice ka ks.length kc, Value.slice (some { block := bl, off := off }) ts.length lc], Value.agg #[Value.int IntKind.i64 k', Value.bool x', Value.int IntKind.i64 n', Value.string s', Value.slice ka' ks'.length kc', Value.slice (some { block := bl', off := off' }) ts'.length lc'], Value.pointer (some { block := w.heap.size, off := 0 }), Value.pointer (some { block := w.heap.size + 1, off := 0 }), u4, Value.int IntKind.i64 ↑j, Value.bool b, Value.int IntKind.i64 ↑p, c.eval (.tmp 8), Value.pointer (some { block := w.heap.size, off := 0 }), Value.int IntKind.i64 k, Value.bool false, Value.bool false, Value.pointer (some { block := w.heap.size + 1, off := 0 }), Value.int IntKind.i64 k', Value.bool false, Value.bool false, Value.pointer (some { block := w.heap.size, off := 0 }), Value.int IntKind.i64 k, Value.pointer (some { block := w.heap.size + 1, off := 0 }), Value.int IntKind.i64 k', Value.bool (k != k'), Value.pointer (some { block := w.heap.size, off := 0 }), Value.int IntKind.i64 k, Value.bool false, Value.bool false, undef, undef, undef, Value.bool false, undef, undef, undef, undef, undef, Value.pointer (some { block := w.heap.size, off := 4 }), Value.slice ka ks.length kc, Value.int IntKind.i64 ↑ks.length, Value.pointer (some { block := w.heap.size + 1, off := 4 }), Value.slice ka' ks'.length kc', Value.int IntKind.i64 ↑ks'.length, Value.bool false, Value.bool false, Value.pointer (some { block := w.heap.size, off := 5 }), Value.slice (some { block := bl, off := off }) ts.length lc, Value.int IntKind.i64 ↑ts.length, Value.pointer (some { block := w.heap.size + 1, off := 5 }), Value.slice (some { block := bl', off := off' }) ts'.length lc', Value.int IntKind.i64 ↑ts'.length, Value.bool false, Value.bool false, Value.int IntKind.i64 ↑j, Value.pointer (some { block := w.heap.size, off := 4 }), Value.slice ka ks.length kc, Value.int IntKind.i64 ↑ks.length, Value.bool false, u56, u57, u58, u59, u60, u61, u62, u63, u64, u65, u66, u67, u68, Value.int IntKind.i64 ↑p, Value.pointer (some { block := w.heap.size, off := 5 }), Value.slice (some { block := bl, off := off }) ts.length lc, Value.int IntKind.i64 ↑ts.length, Value.bool true, u74, u75, c.eval (.tmp 76), c.eval (.tmp 77), c.eval (.tmp 78), c.eval (.tmp 79), c.eval (.tmp 80), c.eval (.tmp 81), c.eval (.tmp 82), c.eval (.tmp 83), c.eval (.tmp 84), c.eval (.tmp 85), c.eval (.tmp 86), u87, u88, u89, u90, u91, u92, u93, u94, undef], []⟩ := (same_lay hS).trans (by kernel_rfl)
          rw [he] at hl
          generalize c.eval (.tmp 76) = y76 at hl
          generalize c.eval (.tmp 77) = y77 at hl
          generalize c.eval (.tmp 78) = y78 at hl
          generalize c.eval (.tmp 79) = y79 at hl
          generalize c.eval (.tmp 80) = y80 at hl
          generalize c.eval (.tmp 81) = y81 at hl
          generalize c.eval (.tmp 82) = y82 at hl
          generalize c.eval (.tmp 83) = y83 at hl
          generalize c.eval (.tmp 84) = y84 at hl
          generalize c.eval (.tmp 85) = y85 at hl
          generalize c.eval (.tmp 86) = y86 at hl
          clear hS he
          subst hl
          have HB2 : Hid (Below W2.heap.size W2 w') := HBR2.out.trans (hk2.mono HBR2.out.size)
          clear hk2 c0 c1 c2 c3 c4 c5 d0 d1 d2 d3 d4 d5 q5 r5 HC
          rcases HRG.out with h | h | h
          · subst h
            have HR2 : Hid (res = 0) := by
              refine HR1.out.trans ?_
              rw [eqL_split (p + 1) 2 ts ts', HST.out, HAC.out]
              have : min (if b = true then (1 : Int) else 2) 0 = 0 := by cases b <;> decide
              rw [this]
              exact eqL_zero _ _
            go_wp2_with fail
            go_ret
            exact ⟨by rw [HR2.out]; rfl, (HX.out _ HB2.out).1⟩
          · subst h
            cases b
            · go_wp2_with fail
              go_roundw
              case rel => exact ⟨p + 1, by omega, by go_num, ⟨true, rfl, by rw [HST.out, HAC.out]; decide⟩, HB2.out⟩
              case measure => simp [intOf]; omega
            · go_wp2_with fail
              go_roundw
              case rel => exact ⟨p + 1, by omega, by go_num, ⟨true, rfl, by rw [HST.out, HAC.out]; decide⟩, HB2.out⟩
              case measure => simp [intOf]; omega
          · subst h
            cases b
            · go_wp2_with fail
              go_roundw
              case rel => exact ⟨p + 1, by omega, by go_num, ⟨false, rfl, by rw [HST.out, HAC.out]; decide⟩, HB2.out⟩
              case measure => simp [intOf]; omega
            · go_wp2_with fail
              go_roundw
              case rel => exact ⟨p + 1, by omega, by go_num, ⟨true, rfl, by rw [HST.out, HAC.out]; decide⟩, HB2.out⟩
              case measure => simp [intOf]; omega
        · have HR2 : Hid (res = if b then 1 else 2) := by
            refine HR1.out.trans ?_
            have := HAC.out
            rwa [List.take_of_length_le (by omega), List.take_of_length_le (by have := HL.out.2; omega)] at this
          cases b
          · go_wp2_with fail
            go_ret
            exact ⟨by rw [HR2.out]; rfl, HBW2.out⟩
          · go_wp2_with fail
            go_ret
            exact ⟨by rw [HR2.out]; rfl, HBW2.out⟩
end Go.Proofs.YtbpmhgcjefpigaaGreatDoor

