/- The document's own: texts, told. -/
import Derived.Test.YtbjcdpenfijfoaaGreatDoorRq17
import Derived.Test.YtbjcdpenfijfoaaGreatDoorQuot
namespace Go.Proofs.YtbjcdpenfijfoaaGreatDoor
open Go.RowKit Go.Shelf Go.Lib
set_option linter.unusedVariables false
set_option linter.unusedSimpArgs false
theorem own_one (w : World) (c : UInt8) : (w.alloc (.cells #[.int .u8 (c.toNat : Int)] 5)).ownsRow w.heap.size 5 1 (.slice (some ⟨w.heap.size, 0, none⟩) 1 1) 1 (byteCells [c]) :=
  ⟨rfl, .inr ⟨_, 1, _, rfl, Nat.le_refl _, World.alloc_heap_new _ _, Nat.le_refl _, by decide, rfl, rfl⟩⟩
theorem own_slice {w : World} {base n : Nat} {v : Value} {xs : List Value} (h : w.ownsRow base 5 1 v n xs) (hn : 0 < n) : ∃ g cap, v = .slice (some ⟨g, 0, none⟩) n cap := by
  obtain ⟨_, ⟨h1, h2⟩ | ⟨g, cap, cur, h1, _⟩⟩ := h
  · omega
  · exact ⟨g, cap, h1⟩
theorem told_text {base n : Nat} {a b : List UInt8} {v v' : Value} {w w' : World} (ht : Told base n (byteCells a) v w b v' w') (hn : n = a.length) (hp : 0 < b.length) :
    ∃ bs g cap, bs = a ++ b ∧ v' = .slice (some ⟨g, 0, none⟩) bs.length cap ∧ (convert 49 9 (.slice (some ⟨g, 0, none⟩) bs.length cap)).run Tryz.prog w' = .ok (.string ⟨bs.toArray⟩) w' := by
  have hown := ht.own
  rw [hn, ← List.length_append, show byteCells a ++ byteCells b = byteCells (a ++ b) by simp [byteCells]] at hown
  obtain ⟨g, cap, rfl⟩ := own_slice hown (by rw [List.length_append]; omega)
  exact ⟨_, g, cap, rfl, rfl, own_bytes hown⟩
set_option maxRecDepth 100000 in
set_option maxHeartbeats 8000000 in
theorem refQuote_any (s : ByteArray) (hs : s.size ≤ 100000000) (w : World) : Calls Tryz.prog 62 #[.string s] w fun e w' => e = .returned (.string ⟨(quoteB s).toArray⟩) ∧ Below w.heap.size w w' := by
  obtain ⟨W1, hW1⟩ : ∃ W1, w.alloc (.cells #[.int .u8 39] 5) = W1 := ⟨_, rfl⟩
  have hb1 : Below w.heap.size w W1 := hW1 ▸ (Below.refl _ _).alloc (Nat.le_refl _) _
  have hown1 : W1.ownsRow w.heap.size 5 1 (.slice (some ⟨w.heap.size, 0, none⟩) 1 1) 1 (byteCells [39]) := hW1 ▸ own_one w 39
  have HB1 := hidE hb1
  have HW1 := hidE hW1
  have HO1 := hidE hown1
  clear hW1 hb1 hown1
  go_enter Tryz.func62, Tryz.ntmps62
  go_upto_region 3 with fail
  rw [HW1.out]
  go_wp2_with fail
  go_loopw [5, 4] (fun i r wr => ∃ j : Nat, j ≤ s.size ∧ i = .int .i64 j ∧ Told w.heap.size 1 (byteCells [39]) (.slice (some ⟨w.heap.size, 0, none⟩) 1 1) W1 (escAll (s.data.toList.take j)) r wr) (fun i _ _ => s.size - (RowKit.intOf i).toNat)
  case atStart => exact ⟨0, Nat.zero_le _, rfl, told_nil HO1.out⟩
  case round =>
    obtain ⟨j, hj, rfl, htr⟩ := hrel
    have HTR := hidE htr
    have hlen : (escAll (s.data.toList.take j)).length ≤ 6 * s.size := by
      have h1 := escAll_len (s.data.toList.take j)
      have h2 : (s.data.toList.take j).length ≤ s.size := by rw [List.length_take]; show min j s.size ≤ _; omega
      omega
    have hBr : w.heap.size ≤ wr.heap.size := Nat.le_trans HB1.out.size htr.grown.size
    by_cases hlt : j < s.size
    · have hat := at_byte s j hlt
      have hji : (j : Int) < s.size := by omega
      obtain ⟨c, hcj⟩ : ∃ c, s[j] = c := ⟨_, rfl⟩
      rw [hcj] at hat
      have HSTEP : Hid (∀ v5 w5, Told w.heap.size (1 + (escAll (s.data.toList.take j)).length) (byteCells [39] ++ byteCells (escAll (s.data.toList.take j))) u4 wr (escB c) v5 w5 → Told w.heap.size 1 (byteCells [39]) (.slice (some ⟨w.heap.size, 0, none⟩) 1 1) W1 (escAll (s.data.toList.take (j + 1))) v5 w5) := by
        intro v5 w5 h
        rw [List.take_add_one, hat]
        show Told _ _ _ _ _ (escAll (_ ++ [c])) _ _
        rw [escAll_snoc]
        exact htr.trans h
      clear hat
      go_upto_region 8 with fail
      clear hcj
      obtain ⟨m, hm⟩ : ∃ m, c.toNat = m := ⟨_, rfl⟩
      have hm256 : m < 256 := by rw [← hm]; exact c.toNat_lt
      rw [hm]
      by_cases h1 : m = 39 ∨ m = 92
      · have HE : Hid (escB c = [92, c]) := by
          show _ = _
          have : c = 39 ∨ c = 92 := h1.imp (fun h => u8_eq (by omega) (hm.trans h)) (fun h => u8_eq (by omega) (hm.trans h))
          unfold escB; rw [if_pos this]
        obtain ⟨W2, hW2⟩ : ∃ W2, wr.alloc (.cells #[.int .u8 92, .int .u8 (m : Int)] 5) = W2 := ⟨_, rfl⟩
        have hb2 : Below wr.heap.size wr W2 := hW2 ▸ (Below.refl _ _).alloc (Nat.le_refl _) _
        have hown2 := own_below htr.own hb2
        have hB2 : w.heap.size ≤ W2.heap.size := Nat.le_trans hBr hb2.size
        have hc2 : ∀ i u, (byteCells [92, c])[i]? = some u → W2.cell? ((⟨wr.heap.size, 0, none⟩ : Addr).add i) = some u := fun i u hi => by
          rw [← hW2, Lib.add_plain, Nat.zero_add]
          refine cell_new _ _ _ _ _ ?_
          simpa [byteCells, hm] using hi
        have HB2 := hidE hb2
        have HW2 := hidE hW2
        clear hW2 hb2 htr hm 
        by_cases h39 : m = 39
        · have g39 : ((m : Int) == 39) = true := by simp; omega
          clear h1 h39
          go_wp2_with (at_builtin; rw [HW2.out]; refine append_row W2 rfl _ _ rfl w.heap.size _ u4 _ rfl hown2 ⟨wr.heap.size, 0, none⟩ 2 2 [92, c] rfl rfl hc2 (by omega) hB2 ?_; intro v5 w5 ht5)
          have HT5 := hidE (HSTEP.out v5 w5 (by rw [HE.out]; exact ht5.from HB2.out))
          clear ht5
          go_roundw
          case rel => exact ⟨j + 1, by omega, by go_num, HT5.out⟩
          case measure => simp [RowKit.intOf]; omega
        · have g39 : ((m : Int) == 39) = false := by simp; omega
          have g92 : ((m : Int) == 92) = true := by simp; omega
          clear h1 h39
          go_wp2_with (at_builtin; rw [HW2.out]; refine append_row W2 rfl _ _ rfl w.heap.size _ u4 _ rfl hown2 ⟨wr.heap.size, 0, none⟩ 2 2 [92, c] rfl rfl hc2 (by omega) hB2 ?_; intro v5 w5 ht5)
          have HT5 := hidE (HSTEP.out v5 w5 (by rw [HE.out]; exact ht5.from HB2.out))
          clear ht5
          go_roundw
          case rel => exact ⟨j + 1, by omega, by go_num, HT5.out⟩
          case measure => simp [RowKit.intOf]; omega
      have g39 : ((m : Int) == 39) = false := by simp; omega
      have g92 : ((m : Int) == 92) = false := by simp; omega
      have hn1 : ¬ (c = 39 ∨ c = 92) := fun h => h1 (h.imp (fun e => by rw [← hm, e]; rfl) (fun e => by rw [← hm, e]; rfl))
      by_cases h2 : m = 10
      · have HE : Hid (escB c = [92, 110]) := by
          show _ = _
          unfold escB; rw [if_neg hn1, if_pos (show c = 10 from u8_eq (k := 10) (by decide) (hm.trans h2))]
        obtain ⟨W2, hW2⟩ : ∃ W2, wr.alloc (.cells #[.int .u8 92, .int .u8 110] 5) = W2 := ⟨_, rfl⟩
        have hb2 : Below wr.heap.size wr W2 := hW2 ▸ (Below.refl _ _).alloc (Nat.le_refl _) _
        have hown2 := own_below htr.own hb2
        have hB2 : w.heap.size ≤ W2.heap.size := Nat.le_trans hBr hb2.size
        have hc2 : ∀ i u, (byteCells [92, 110])[i]? = some u → W2.cell? ((⟨wr.heap.size, 0, none⟩ : Addr).add i) = some u := fun i u hi => by
          rw [← hW2, Lib.add_plain, Nat.zero_add]
          refine cell_new _ _ _ _ _ ?_
          simpa [byteCells, hm] using hi
        have HB2 := hidE hb2
        have HW2 := hidE hW2
        clear hW2 hb2 htr hm 
        clear h1 hn1
        subst h2
        go_wp2_with (at_builtin; rw [HW2.out]; refine append_row W2 rfl _ _ rfl w.heap.size _ u4 _ rfl hown2 ⟨wr.heap.size, 0, none⟩ 2 2 [92, 110] rfl rfl hc2 (by omega) hB2 ?_; intro v5 w5 ht5)
        have HT5 := hidE (HSTEP.out v5 w5 (by rw [HE.out]; exact ht5.from HB2.out))
        clear ht5
        go_roundw
        case rel => exact ⟨j + 1, by omega, by go_num, HT5.out⟩
        case measure => simp [RowKit.intOf]; omega
      have g10 : ((m : Int) == 10) = false := by simp; omega
      have hn2 : ¬ c = 10 := fun h => h2 (by rw [← hm, h]; rfl)
      by_cases h3 : m = 9
      · have HE : Hid (escB c = [92, 116]) := by
          show _ = _
          unfold escB; rw [if_neg hn1, if_neg hn2, if_pos (show c = 9 from u8_eq (k := 9) (by decide) (hm.trans h3))]
        obtain ⟨W2, hW2⟩ : ∃ W2, wr.alloc (.cells #[.int .u8 92, .int .u8 116] 5) = W2 := ⟨_, rfl⟩
        have hb2 : Below wr.heap.size wr W2 := hW2 ▸ (Below.refl _ _).alloc (Nat.le_refl _) _
        have hown2 := own_below htr.own hb2
        have hB2 : w.heap.size ≤ W2.heap.size := Nat.le_trans hBr hb2.size
        have hc2 : ∀ i u, (byteCells [92, 116])[i]? = some u → W2.cell? ((⟨wr.heap.size, 0, none⟩ : Addr).add i) = some u := fun i u hi => by
          rw [← hW2, Lib.add_plain, Nat.zero_add]
          refine cell_new _ _ _ _ _ ?_
          simpa [byteCells, hm] using hi
        have HB2 := hidE hb2
        have HW2 := hidE hW2
        clear hW2 hb2 htr hm 
        clear h1 hn1 h2 hn2
        subst h3
        go_wp2_with (at_builtin; rw [HW2.out]; refine append_row W2 rfl _ _ rfl w.heap.size _ u4 _ rfl hown2 ⟨wr.heap.size, 0, none⟩ 2 2 [92, 116] rfl rfl hc2 (by omega) hB2 ?_; intro v5 w5 ht5)
        have HT5 := hidE (HSTEP.out v5 w5 (by rw [HE.out]; exact ht5.from HB2.out))
        clear ht5
        go_roundw
        case rel => exact ⟨j + 1, by omega, by go_num, HT5.out⟩
        case measure => simp [RowKit.intOf]; omega
      have g9 : ((m : Int) == 9) = false := by simp; omega
      have hn3 : ¬ c = 9 := fun h => h3 (by rw [← hm, h]; rfl)
      by_cases h4 : m = 13
      · have HE : Hid (escB c = [92, 114]) := by
          show _ = _
          unfold escB; rw [if_neg hn1, if_neg hn2, if_neg hn3, if_pos (show c = 13 from u8_eq (k := 13) (by decide) (hm.trans h4))]
        obtain ⟨W2, hW2⟩ : ∃ W2, wr.alloc (.cells #[.int .u8 92, .int .u8 114] 5) = W2 := ⟨_, rfl⟩
        have hb2 : Below wr.heap.size wr W2 := hW2 ▸ (Below.refl _ _).alloc (Nat.le_refl _) _
        have hown2 := own_below htr.own hb2
        have hB2 : w.heap.size ≤ W2.heap.size := Nat.le_trans hBr hb2.size
        have hc2 : ∀ i u, (byteCells [92, 114])[i]? = some u → W2.cell? ((⟨wr.heap.size, 0, none⟩ : Addr).add i) = some u := fun i u hi => by
          rw [← hW2, Lib.add_plain, Nat.zero_add]
          refine cell_new _ _ _ _ _ ?_
          simpa [byteCells, hm] using hi
        have HB2 := hidE hb2
        have HW2 := hidE hW2
        clear hW2 hb2 htr hm 
        clear h1 hn1 h2 hn2 h3 hn3
        subst h4
        go_wp2_with (at_builtin; rw [HW2.out]; refine append_row W2 rfl _ _ rfl w.heap.size _ u4 _ rfl hown2 ⟨wr.heap.size, 0, none⟩ 2 2 [92, 114] rfl rfl hc2 (by omega) hB2 ?_; intro v5 w5 ht5)
        have HT5 := hidE (HSTEP.out v5 w5 (by rw [HE.out]; exact ht5.from HB2.out))
        clear ht5
        go_roundw
        case rel => exact ⟨j + 1, by omega, by go_num, HT5.out⟩
        case measure => simp [RowKit.intOf]; omega
      have g13 : ((m : Int) == 13) = false := by simp; omega
      have hn4 : ¬ c = 13 := fun h => h4 (by rw [← hm, h]; rfl)
      by_cases h5 : m < 32 ∨ m = 127
      · have HE : Hid (escB c = [92, 117, 48, 48, hexB (m / 16), hexB (m % 16)]) := by
          show _ = _
          have : c < 32 ∨ c = 127 := h5.imp (fun h => UInt8.lt_iff_toNat_lt.2 (by rw [hm]; exact h)) (fun h => u8_eq (by omega) (hm.trans h))
          unfold escB; rw [if_neg hn1, if_neg hn2, if_neg hn3, if_neg hn4, if_pos this, hm]
        have h128 : m < 128 := by omega
        clear h1 hn1 h2 hn2 h3 hn3 h4 hn4 hm htr
        rcases h5 with h | h
        · have g32 : (m : Int) < 32 := by omega
          go_upto_region 17 with fail
          show (Code.region 17 RQ17 true).wp _ _ _ _
          refine regionQ17 w.heap.size _ m u4 _ wr _ _ ⟨rfl, rfl, rfl⟩ rfl ⟨HTR.out.own, hBr, by omega, h128⟩ ?_
          intro a w5 hS ht
          have HT5 := hidE (HSTEP.out (a.eval (.tmp 4)) w5 (by rw [HE.out]; exact ht))
          have hl : a = ⟨#[Value.string s, undef, Value.string { data := #[] }, Value.string { data := #[48, 49, 50, 51, 52, 53, 54, 55, 56, 57, 97, 98, 99, 100, 101, 102] }, a.eval (.tmp 4), Value.int IntKind.i64 ↑j, Value.int IntKind.u8 ↑m, Value.slice (some { block := w.heap.size, off := 0 }) 1 1, Value.int IntKind.i64 ↑j, Value.string s, Value.int IntKind.i64 ↑s.size, Value.bool true, u12, u13, Value.string s, Value.int IntKind.i64 ↑j, Value.int IntKind.u8 ↑m, u17, u18, u19, u20, Value.bool false, Value.int IntKind.u8 ↑m, Value.bool false, Value.bool false, Value.int IntKind.u8 ↑m, Value.bool false, Value.bool false, u28, u29, u30, u31, Value.bool false, Value.int IntKind.u8 ↑m, Value.bool false, u35, u36, u37, Value.bool false, Value.int IntKind.u8 ↑m, Value.bool false, u41, u42, u43, Value.bool false, Value.int IntKind.u8 ↑m, Value.bool false, u47, u48, u49, Value.bool true, Value.int IntKind.u8 ↑m, Value.bool true, Value.bool true, undef, undef, Value.bool true, a.eval (.tmp 57), a.eval (.tmp 58), a.eval (.tmp 59), a.eval (.tmp 60), a.eval (.tmp 61), a.eval (.tmp 62), a.eval (.tmp 63), a.eval (.tmp 64), a.eval (.tmp 65), a.eval (.tmp 66), a.eval (.tmp 67), undef, undef, undef, undef], []⟩ := (same_lay hS).trans (by kernel_rfl)
          generalize a.eval (.tmp 4) = v5 at hl HT5
          generalize a.eval (.tmp 57) = z57 at hl
          generalize a.eval (.tmp 58) = z58 at hl
          generalize a.eval (.tmp 59) = z59 at hl
          generalize a.eval (.tmp 60) = z60 at hl
          generalize a.eval (.tmp 61) = z61 at hl
          generalize a.eval (.tmp 62) = z62 at hl
          generalize a.eval (.tmp 63) = z63 at hl
          generalize a.eval (.tmp 64) = z64 at hl
          generalize a.eval (.tmp 65) = z65 at hl
          generalize a.eval (.tmp 66) = z66 at hl
          generalize a.eval (.tmp 67) = z67 at hl
          clear hS ht
          subst hl
          go_wp2_with fail
          go_roundw
          case rel => exact ⟨j + 1, by omega, by go_num, HT5.out⟩
          case measure => simp [RowKit.intOf]; omega
        · have g32 : ¬ (m : Int) < 32 := by omega
          have g127 : ((m : Int) == 127) = true := by simp; omega
          go_upto_region 17 with fail
          show (Code.region 17 RQ17 true).wp _ _ _ _
          refine regionQ17 w.heap.size _ m u4 _ wr _ _ ⟨rfl, rfl, rfl⟩ rfl ⟨HTR.out.own, hBr, by omega, h128⟩ ?_
          intro a w5 hS ht
          have HT5 := hidE (HSTEP.out (a.eval (.tmp 4)) w5 (by rw [HE.out]; exact ht))
          have hl : a = ⟨#[Value.string s, undef, Value.string { data := #[] }, Value.string { data := #[48, 49, 50, 51, 52, 53, 54, 55, 56, 57, 97, 98, 99, 100, 101, 102] }, a.eval (.tmp 4), Value.int IntKind.i64 ↑j, Value.int IntKind.u8 ↑m, Value.slice (some { block := w.heap.size, off := 0 }) 1 1, Value.int IntKind.i64 ↑j, Value.string s, Value.int IntKind.i64 ↑s.size, Value.bool true, u12, u13, Value.string s, Value.int IntKind.i64 ↑j, Value.int IntKind.u8 ↑m, u17, u18, u19, u20, Value.bool false, Value.int IntKind.u8 ↑m, Value.bool false, Value.bool false, Value.int IntKind.u8 ↑m, Value.bool false, Value.bool false, u28, u29, u30, u31, Value.bool false, Value.int IntKind.u8 ↑m, Value.bool false, u35, u36, u37, Value.bool false, Value.int IntKind.u8 ↑m, Value.bool false, u41, u42, u43, Value.bool false, Value.int IntKind.u8 ↑m, Value.bool false, u47, u48, u49, Value.bool true, Value.int IntKind.u8 ↑m, Value.bool false, Value.bool false, Value.int IntKind.u8 ↑m, Value.bool true, Value.bool true, a.eval (.tmp 57), a.eval (.tmp 58), a.eval (.tmp 59), a.eval (.tmp 60), a.eval (.tmp 61), a.eval (.tmp 62), a.eval (.tmp 63), a.eval (.tmp 64), a.eval (.tmp 65), a.eval (.tmp 66), a.eval (.tmp 67), undef, undef, undef, undef], []⟩ := (same_lay hS).trans (by kernel_rfl)
          generalize a.eval (.tmp 4) = v5 at hl HT5
          generalize a.eval (.tmp 57) = z57 at hl
          generalize a.eval (.tmp 58) = z58 at hl
          generalize a.eval (.tmp 59) = z59 at hl
          generalize a.eval (.tmp 60) = z60 at hl
          generalize a.eval (.tmp 61) = z61 at hl
          generalize a.eval (.tmp 62) = z62 at hl
          generalize a.eval (.tmp 63) = z63 at hl
          generalize a.eval (.tmp 64) = z64 at hl
          generalize a.eval (.tmp 65) = z65 at hl
          generalize a.eval (.tmp 66) = z66 at hl
          generalize a.eval (.tmp 67) = z67 at hl
          clear hS ht
          subst hl
          go_wp2_with fail
          go_roundw
          case rel => exact ⟨j + 1, by omega, by go_num, HT5.out⟩
          case measure => simp [RowKit.intOf]; omega
      · have HE : Hid (escB c = [c]) := by
          show _ = _
          have : ¬ (c < 32 ∨ c = 127) := fun h => h5 (h.imp (fun e => by rw [← hm]; exact UInt8.lt_iff_toNat_lt.1 e) (fun e => by rw [← hm, e]; rfl))
          unfold escB; rw [if_neg hn1, if_neg hn2, if_neg hn3, if_neg hn4, if_neg this]
        obtain ⟨W2, hW2⟩ : ∃ W2, wr.alloc (.cells #[.int .u8 (m : Int)] 5) = W2 := ⟨_, rfl⟩
        have hb2 : Below wr.heap.size wr W2 := hW2 ▸ (Below.refl _ _).alloc (Nat.le_refl _) _
        have hown2 := own_below htr.own hb2
        have hB2 : w.heap.size ≤ W2.heap.size := Nat.le_trans hBr hb2.size
        have hc2 : ∀ i u, (byteCells [c])[i]? = some u → W2.cell? ((⟨wr.heap.size, 0, none⟩ : Addr).add i) = some u := fun i u hi => by
          rw [← hW2, Lib.add_plain, Nat.zero_add]
          refine cell_new _ _ _ _ _ ?_
          simpa [byteCells, hm] using hi
        have HB2 := hidE hb2
        have HW2 := hidE hW2
        clear hW2 hb2 htr hm 
        have g32 : ¬ (m : Int) < 32 := by omega
        have g127 : ((m : Int) == 127) = false := by simp; omega
        clear h1 hn1 h2 hn2 h3 hn3 h4 hn4 h5
        go_wp2_with (at_builtin; rw [HW2.out]; refine append_row W2 rfl _ _ rfl w.heap.size _ u4 _ rfl hown2 ⟨wr.heap.size, 0, none⟩ 1 1 [c] rfl rfl hc2 (by omega) hB2 ?_; intro v5 w5 ht5)
        have HT5 := hidE (HSTEP.out v5 w5 (by rw [HE.out]; exact ht5.from HB2.out))
        clear ht5
        go_roundw
        case rel => exact ⟨j + 1, by omega, by go_num, HT5.out⟩
        case measure => simp [RowKit.intOf]; omega
    · have hji : ¬ (j : Int) < s.size := by omega
      obtain ⟨W3, hW3⟩ : ∃ W3, wr.alloc (.cells #[.int .u8 39] 5) = W3 := ⟨_, rfl⟩
      have hb3 : Below wr.heap.size wr W3 := hW3 ▸ (Below.refl _ _).alloc (Nat.le_refl _) _
      have hown3 := own_below htr.own hb3
      have hB3 : w.heap.size ≤ W3.heap.size := Nat.le_trans hBr hb3.size
      have hc3 : ∀ j u, (byteCells [39])[j]? = some u → W3.cell? ((⟨wr.heap.size, 0, none⟩ : Addr).add j) = some u := fun j u hj => by
        rw [← hW3]; exact cell_one_new wr (.int .u8 39) 5 j u hj
      have HB3 := hidE hb3
      have HW3 := hidE hW3
      have HQ : Hid (escAll (s.data.toList.take j) = escAll s.data.toList) := by
        show _ = _
        rw [List.take_of_length_le (by show s.size ≤ j; omega)]
      clear hW3 hb3 htr
      go_wp2_with (at_builtin; rw [HW3.out]; refine append_row W3 rfl _ _ rfl w.heap.size _ u4 _ rfl hown3 ⟨wr.heap.size, 0, none⟩ 1 1 [39] rfl rfl hc3 (by omega) hB3 ?_; intro v4 w4 ht4; have HT4 := hidE (HTR.out.trans (ht4.from HB3.out)); obtain ⟨bs, g, cap, hbs, rfl, hcv⟩ := told_text HT4.out rfl (by simp); have HBS := hidE hbs; clear hbs ht4)
      go_ret
      refine ⟨?_, HB1.out.trans (HT4.out.below HO1.out HB1.out.size)⟩
      rw [HBS.out, HQ.out, show quoteB s = [39] ++ (escAll s.data.toList ++ [39]) by unfold quoteB; rw [List.append_assoc]]
      rfl
end Go.Proofs.YtbjcdpenfijfoaaGreatDoor
