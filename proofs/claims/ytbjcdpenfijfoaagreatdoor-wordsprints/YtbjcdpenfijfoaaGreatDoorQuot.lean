/- Bytes and texts, told. -/
import Derived.Test.YtbjcdpenfijfoaaGreatDoorEsc10
namespace Go.Proofs.YtbjcdpenfijfoaaGreatDoor
open Go.RowKit Go.Shelf Go.Lib
set_option linter.unusedVariables false
set_option linter.unusedSimpArgs false

/-- A byte as a text tells it. -/
def escB (c : UInt8) : List UInt8 :=
  if c = 39 ∨ c = 92 then [92, c] else if c = 10 then [92, 110] else if c = 9 then [92, 116] else if c = 13 then [92, 114] else if c < 32 ∨ c = 127 then [92, 117, 48, 48, hexB (c.toNat / 16), hexB (c.toNat % 16)] else [c]
theorem escB_len (c : UInt8) : 1 ≤ (escB c).length ∧ (escB c).length ≤ 6 := by
  unfold escB
  split
  · simp
  · split
    · simp
    · split
      · simp
      · split
        · simp
        · split <;> simp
def escAll (l : List UInt8) : List UInt8 := (l.map escB).flatten
theorem escAll_snoc (l : List UInt8) (c : UInt8) : escAll (l ++ [c]) = escAll l ++ escB c := by simp [escAll]
theorem escAll_len (l : List UInt8) : (escAll l).length ≤ 6 * l.length := by
  induction l with
  | nil => simp [escAll]
  | cons c r ih =>
    have := (escB_len c).2
    simp only [escAll, List.map_cons, List.flatten_cons, List.length_append, List.length_cons] at ih ⊢
    omega
/-- A text as it is told. -/
def quoteB (s : ByteArray) : List UInt8 := [39] ++ escAll s.data.toList ++ [39]

theorem u8_eq {c : UInt8} {k : Nat} (hk : k < 256) (h : c.toNat = k) : c = UInt8.ofNat k := by
  rw [← h]; simp
set_option maxRecDepth 100000 in
set_option maxHeartbeats 4000000 in
theorem escape_any (c : UInt8) (base n : Nat) (v : Value) (xs : List Value) (w : World) (hown : w.ownsRow base 5 1 v n xs) (hB : base ≤ w.heap.size) (hn : n ≤ 100000000000) :
    Calls Tryz.prog 91 #[v, .int .u8 (c.toNat : Int)] w fun e w' => ∃ v', e = .returned v' ∧ Told base n xs v w (escB c) v' w' := by
  obtain ⟨m, hm⟩ : ∃ m, c.toNat = m := ⟨_, rfl⟩
  have hm256 : m < 256 := by rw [← hm]; exact c.toNat_lt
  rw [hm]
  have HM := hidE hm
  have HO := hidE hown
  go_enter Tryz.func91, Tryz.ntmps91
  by_cases h1 : m = 39 ∨ m = 92
  · have HE : Hid (escB c = [92, c]) := by
      show _ = _
      have : c = 39 ∨ c = 92 := h1.imp (fun h => u8_eq (by omega) (hm.trans h)) (fun h => u8_eq (by omega) (hm.trans h))
      unfold escB; rw [if_pos this]
    obtain ⟨W1, hW1⟩ : ∃ W1, w.alloc (.cells #[.int .u8 92, .int .u8 (m : Int)] 5) = W1 := ⟨_, rfl⟩
    have hb1 : Below w.heap.size w W1 := hW1 ▸ (Below.refl _ _).alloc (Nat.le_refl _) _
    have hown1 := own_below hown hb1
    have hB1 : base ≤ W1.heap.size := Nat.le_trans hB hb1.size
    have hc1 : ∀ j u, (byteCells [92, c])[j]? = some u → W1.cell? ((⟨w.heap.size, 0, none⟩ : Addr).add j) = some u := fun j u hj => by
      rw [← hW1, Lib.add_plain, Nat.zero_add]
      refine cell_new _ _ _ _ _ ?_
      simpa [byteCells, hm] using hj
    have HB1 := hidE hb1
    have HW1 := hidE hW1
    clear hW1 hb1 hm hown
    by_cases h39 : m = 39
    · have g39 : ((m : Int) == 39) = true := by simp; omega
      clear h1 h39
      go_wp2_with (at_builtin; rw [HW1.out]; refine append_row W1 rfl _ _ rfl base n v xs rfl hown1 ⟨w.heap.size, 0, none⟩ 2 2 [92, c] rfl rfl hc1 (by omega) hB1 ?_; intro v1 w1 ht)
      have HT : Hid (Told base n xs v w (escB c) v1 w1) := by show Told _ _ _ _ _ _ _ _; rw [HE.out]; exact ht.from HB1.out
      clear ht
      go_ret
      exact ⟨_, rfl, HT.out⟩
    · have g39 : ((m : Int) == 39) = false := by simp; omega
      have g92 : ((m : Int) == 92) = true := by simp; omega
      clear h1 h39
      go_wp2_with (at_builtin; rw [HW1.out]; refine append_row W1 rfl _ _ rfl base n v xs rfl hown1 ⟨w.heap.size, 0, none⟩ 2 2 [92, c] rfl rfl hc1 (by omega) hB1 ?_; intro v1 w1 ht)
      have HT : Hid (Told base n xs v w (escB c) v1 w1) := by show Told _ _ _ _ _ _ _ _; rw [HE.out]; exact ht.from HB1.out
      clear ht
      go_ret
      exact ⟨_, rfl, HT.out⟩
  have g39 : ((m : Int) == 39) = false := by simp; omega
  have g92 : ((m : Int) == 92) = false := by simp; omega
  have hn1 : ¬ (c = 39 ∨ c = 92) := fun h => h1 (h.imp (fun e => by rw [← hm, e]; rfl) (fun e => by rw [← hm, e]; rfl))
  by_cases h2 : m = 10
  · have HE : Hid (escB c = [92, 110]) := by
      show _ = _
      unfold escB; rw [if_neg hn1, if_pos (show c = 10 from u8_eq (k := 10) (by decide) (hm.trans h2))]
    subst h2
    go_wp2_with (at_builtin; refine append_text w rfl _ _ rfl base n v xs rfl hown ⟨#[92, 110]⟩ rfl (by decide) (by show n + 2 ≤ _; omega) hB ?_; intro v1 w1 ht)
    have HT : Hid (Told base n xs v w (escB c) v1 w1) := by show Told _ _ _ _ _ _ _ _; rw [HE.out]; exact ht
    clear ht
    go_ret
    exact ⟨_, rfl, HT.out⟩
  have g10 : ((m : Int) == 10) = false := by simp; omega
  have hn2 : ¬ c = 10 := fun h => h2 (by rw [← hm, h]; rfl)
  by_cases h3 : m = 9
  · have HE : Hid (escB c = [92, 116]) := by
      show _ = _
      unfold escB; rw [if_neg hn1, if_neg hn2, if_pos (show c = 9 from u8_eq (k := 9) (by decide) (hm.trans h3))]
    subst h3
    go_wp2_with (at_builtin; refine append_text w rfl _ _ rfl base n v xs rfl hown ⟨#[92, 116]⟩ rfl (by decide) (by show n + 2 ≤ _; omega) hB ?_; intro v1 w1 ht)
    have HT : Hid (Told base n xs v w (escB c) v1 w1) := by show Told _ _ _ _ _ _ _ _; rw [HE.out]; exact ht
    clear ht
    go_ret
    exact ⟨_, rfl, HT.out⟩
  have g9 : ((m : Int) == 9) = false := by simp; omega
  have hn3 : ¬ c = 9 := fun h => h3 (by rw [← hm, h]; rfl)
  by_cases h4 : m = 13
  · have HE : Hid (escB c = [92, 114]) := by
      show _ = _
      unfold escB; rw [if_neg hn1, if_neg hn2, if_neg hn3, if_pos (show c = 13 from u8_eq (k := 13) (by decide) (hm.trans h4))]
    subst h4
    go_wp2_with (at_builtin; refine append_text w rfl _ _ rfl base n v xs rfl hown ⟨#[92, 114]⟩ rfl (by decide) (by show n + 2 ≤ _; omega) hB ?_; intro v1 w1 ht)
    have HT : Hid (Told base n xs v w (escB c) v1 w1) := by show Told _ _ _ _ _ _ _ _; rw [HE.out]; exact ht
    clear ht
    go_ret
    exact ⟨_, rfl, HT.out⟩
  have g13 : ((m : Int) == 13) = false := by simp; omega
  have hn4 : ¬ c = 13 := fun h => h4 (by rw [← hm, h]; rfl)
  by_cases h5 : m < 32 ∨ m = 127
  · have HE : Hid (escB c = [92, 117, 48, 48, hexB (m / 16), hexB (m % 16)]) := by
      show _ = _
      have : c < 32 ∨ c = 127 := h5.imp (fun h => UInt8.lt_iff_toNat_lt.2 (by rw [hm]; exact h)) (fun h => u8_eq (by omega) (hm.trans h))
      unfold escB; rw [if_neg hn1, if_neg hn2, if_neg hn3, if_neg hn4, if_pos this, hm]
    have h128 : m < 128 := by omega
    clear hn1 hn2 hn3 hn4 h1 h2 h3 h4
    have hc5 : (decide ((m : Int) < 32) || ((m : Int) == 127)) = true := by
      rcases h5 with h | h
      · simp; omega
      · simp; omega
    rcases h5 with h | h
    · have g32 : (m : Int) < 32 := by omega
      go_upto_region 10 with fail
      show (Code.region 10 RE10 true).wp _ _ _ _
      refine regionE10 base n m v xs w _ _ ⟨rfl, rfl, rfl⟩ ⟨HO.out, hB, hn, h128⟩ ?_
      intro a w1 hS ht
      have HT : Hid (Told base n xs v w (escB c) (a.eval (.tmp 4)) w1) := by show Told _ _ _ _ _ _ _ _; rw [HE.out]; exact ht
      have hl : a = ⟨#[v, Value.int IntKind.u8 ↑m, undef, undef, a.eval (.tmp 4), Value.bool false, Value.int IntKind.u8 ↑m, Value.bool false, Value.bool false, Value.int IntKind.u8 ↑m, Value.bool false, Value.bool false, undef, undef, undef, undef, Value.bool false, Value.int IntKind.u8 ↑m, Value.bool false, undef, undef, Value.bool false, Value.int IntKind.u8 ↑m, Value.bool false, undef, undef, Value.bool false, Value.int IntKind.u8 ↑m, Value.bool false, undef, undef, Value.bool true, Value.int IntKind.u8 ↑m, Value.bool true, Value.bool true, undef, undef, Value.bool true, a.eval (.tmp 38), a.eval (.tmp 39), a.eval (.tmp 40), a.eval (.tmp 41), a.eval (.tmp 42), a.eval (.tmp 43), a.eval (.tmp 44), a.eval (.tmp 45), a.eval (.tmp 46), a.eval (.tmp 47), undef, undef, undef, undef], []⟩ := (same_lay hS).trans (by kernel_rfl)
      generalize a.eval (.tmp 4) = v1 at hl HT
      generalize a.eval (.tmp 38) = z38 at hl
      generalize a.eval (.tmp 39) = z39 at hl
      generalize a.eval (.tmp 40) = z40 at hl
      generalize a.eval (.tmp 41) = z41 at hl
      generalize a.eval (.tmp 42) = z42 at hl
      generalize a.eval (.tmp 43) = z43 at hl
      generalize a.eval (.tmp 44) = z44 at hl
      generalize a.eval (.tmp 45) = z45 at hl
      generalize a.eval (.tmp 46) = z46 at hl
      generalize a.eval (.tmp 47) = z47 at hl
      clear hS ht
      subst hl
      go_wp2_with fail
      go_ret
      exact ⟨_, rfl, HT.out⟩
    · have g32 : ¬ (m : Int) < 32 := by omega
      have g127 : ((m : Int) == 127) = true := by simp; omega
      go_upto_region 10 with fail
      show (Code.region 10 RE10 true).wp _ _ _ _
      refine regionE10 base n m v xs w _ _ ⟨rfl, rfl, rfl⟩ ⟨HO.out, hB, hn, h128⟩ ?_
      intro a w1 hS ht
      have HT : Hid (Told base n xs v w (escB c) (a.eval (.tmp 4)) w1) := by show Told _ _ _ _ _ _ _ _; rw [HE.out]; exact ht
      have hl : a = ⟨#[v, Value.int IntKind.u8 ↑m, undef, undef, a.eval (.tmp 4), Value.bool false, Value.int IntKind.u8 ↑m, Value.bool false, Value.bool false, Value.int IntKind.u8 ↑m, Value.bool false, Value.bool false, undef, undef, undef, undef, Value.bool false, Value.int IntKind.u8 ↑m, Value.bool false, undef, undef, Value.bool false, Value.int IntKind.u8 ↑m, Value.bool false, undef, undef, Value.bool false, Value.int IntKind.u8 ↑m, Value.bool false, undef, undef, Value.bool true, Value.int IntKind.u8 ↑m, Value.bool false, Value.bool false, Value.int IntKind.u8 ↑m, Value.bool true, Value.bool true, a.eval (.tmp 38), a.eval (.tmp 39), a.eval (.tmp 40), a.eval (.tmp 41), a.eval (.tmp 42), a.eval (.tmp 43), a.eval (.tmp 44), a.eval (.tmp 45), a.eval (.tmp 46), a.eval (.tmp 47), undef, undef, undef, undef], []⟩ := (same_lay hS).trans (by kernel_rfl)
      generalize a.eval (.tmp 4) = v1 at hl HT
      generalize a.eval (.tmp 38) = z38 at hl
      generalize a.eval (.tmp 39) = z39 at hl
      generalize a.eval (.tmp 40) = z40 at hl
      generalize a.eval (.tmp 41) = z41 at hl
      generalize a.eval (.tmp 42) = z42 at hl
      generalize a.eval (.tmp 43) = z43 at hl
      generalize a.eval (.tmp 44) = z44 at hl
      generalize a.eval (.tmp 45) = z45 at hl
      generalize a.eval (.tmp 46) = z46 at hl
      generalize a.eval (.tmp 47) = z47 at hl
      clear hS ht
      subst hl
      go_wp2_with fail
      go_ret
      exact ⟨_, rfl, HT.out⟩
  · have HE : Hid (escB c = [c]) := by
      show _ = _
      have : ¬ (c < 32 ∨ c = 127) := fun h => h5 (h.imp (fun e => by rw [← hm]; exact UInt8.lt_iff_toNat_lt.1 e) (fun e => by rw [← hm, e]; rfl))
      unfold escB; rw [if_neg hn1, if_neg hn2, if_neg hn3, if_neg hn4, if_neg this]
    have g32 : ¬ (m : Int) < 32 := by omega
    have g127 : ((m : Int) == 127) = false := by simp; omega
    obtain ⟨W1, hW1⟩ : ∃ W1, w.alloc (.cells #[.int .u8 (m : Int)] 5) = W1 := ⟨_, rfl⟩
    have hb1 : Below w.heap.size w W1 := hW1 ▸ (Below.refl _ _).alloc (Nat.le_refl _) _
    have hown1 := own_below hown hb1
    have hB1 : base ≤ W1.heap.size := Nat.le_trans hB hb1.size
    have hc1 : ∀ j u, (byteCells [c])[j]? = some u → W1.cell? ((⟨w.heap.size, 0, none⟩ : Addr).add j) = some u := fun j u hj => by
      rw [← hW1, Lib.add_plain, Nat.zero_add]
      refine cell_new _ _ _ _ _ ?_
      simpa [byteCells, hm] using hj
    have HB1 := hidE hb1
    have HW1 := hidE hW1
    clear hW1 hb1 hm hown h1 h2 h3 h4 h5 hn1 hn2 hn3 hn4
    go_wp2_with (at_builtin; rw [HW1.out]; refine append_row W1 rfl _ _ rfl base n v xs rfl hown1 ⟨w.heap.size, 0, none⟩ 1 1 [c] rfl rfl hc1 (by omega) hB1 ?_; intro v1 w1 ht)
    have HT : Hid (Told base n xs v w (escB c) v1 w1) := by show Told _ _ _ _ _ _ _ _; rw [HE.out]; exact ht.from HB1.out
    clear ht
    go_ret
    exact ⟨_, rfl, HT.out⟩

theorem at_byte (s : ByteArray) (j : Nat) (h : j < s.size) : s.data.toList[j]? = some s[j] := by
  rw [List.getElem?_eq_getElem (by simpa using h)]
  rfl
set_option maxRecDepth 100000 in
set_option maxHeartbeats 4000000 in
theorem quote_any (s : ByteArray) (hs : s.size ≤ 10000000000) (base n : Nat) (v : Value) (xs : List Value) (w : World) (hown : w.ownsRow base 5 1 v n xs) (hB : base ≤ w.heap.size) (hn : n ≤ 10000000000) :
    Calls Tryz.prog 80 #[v, .string s] w fun e w' => ∃ v', e = .returned v' ∧ Told base n xs v w (quoteB s) v' w' := by
  obtain ⟨W1, hW1⟩ : ∃ W1, w.alloc (.cells #[.int .u8 39] 5) = W1 := ⟨_, rfl⟩
  have hb1 : Below w.heap.size w W1 := hW1 ▸ (Below.refl _ _).alloc (Nat.le_refl _) _
  have hown1 := own_below hown hb1
  have hB1 : base ≤ W1.heap.size := Nat.le_trans hB hb1.size
  have hc1 : ∀ j u, (byteCells [39])[j]? = some u → W1.cell? ((⟨w.heap.size, 0, none⟩ : Addr).add j) = some u := fun j u hj => by
    rw [← hW1]; exact cell_one_new w (.int .u8 39) 5 j u hj
  have HB1 := hidE hb1
  have HW1 := hidE hW1
  have HO := hidE hown
  clear hW1 hb1 hown
  go_enter Tryz.func80, Tryz.ntmps80
  go_wp2_with (at_builtin; rw [HW1.out]; refine append_row W1 rfl _ _ rfl base n v xs rfl hown1 ⟨w.heap.size, 0, none⟩ 1 1 [39] rfl rfl hc1 (by omega) hB1 ?_; intro v1 w1 ht)
  have HT1 : Hid (Told base n xs v w [39] v1 w1) := ht.from HB1.out
  clear ht hown1 hc1 HW1 HB1
  go_loopw [11, 0] (fun i r wr => ∃ j : Nat, j ≤ s.size ∧ i = .int .i64 j ∧ Told base n xs v w ([39] ++ escAll (s.data.toList.take j)) r wr) (fun i _ _ => s.size - (RowKit.intOf i).toNat)
  case atStart => exact ⟨0, Nat.zero_le _, rfl, by simpa [escAll] using HT1.out⟩
  case round =>
    obtain ⟨j, hj, rfl, htr⟩ := hrel
    have HTR := hidE htr
    have hlen : ([39] ++ escAll (s.data.toList.take j)).length ≤ 6 * s.size + 1 := by
      have h1 := escAll_len (s.data.toList.take j)
      have h2 : (s.data.toList.take j).length ≤ s.size := by rw [List.length_take]; show min j s.size ≤ _; omega
      simp only [List.length_append, List.length_cons, List.length_nil]
      omega
    have hBr : base ≤ wr.heap.size := Nat.le_trans hB htr.grown.size
    by_cases hlt : j < s.size
    · have HC := hidE (escape_any s[j] base _ u0 _ wr htr.own hBr (by omega))
      have HAT := hidE (at_byte s j hlt)
      clear htr HT1
      have hji : (j : Int) < s.size := by omega
      go_wp2_with fail
      refine HC.out.mono ?_
      rintro e w2 ⟨v2, rfl, ht2⟩
      have HT2 : Hid (Told base n xs v w ([39] ++ escAll (s.data.toList.take (j + 1))) v2 w2) := by
        show Told _ _ _ _ _ _ _ _
        rw [List.take_add_one, HAT.out]
        show Told _ _ _ _ _ ([39] ++ escAll (_ ++ [s[j]])) _ _
        rw [escAll_snoc, ← List.append_assoc]
        exact HTR.out.trans ht2
      clear ht2 HC HTR
      go_wp2_with fail
      go_roundw
      case rel => exact ⟨j + 1, by omega, by go_num, HT2.out⟩
      case measure => simp [RowKit.intOf]; omega
    · have hji : ¬ (j : Int) < s.size := by omega
      obtain ⟨W3, hW3⟩ : ∃ W3, wr.alloc (.cells #[.int .u8 39] 5) = W3 := ⟨_, rfl⟩
      have hb3 : Below wr.heap.size wr W3 := hW3 ▸ (Below.refl _ _).alloc (Nat.le_refl _) _
      have hown3 := own_below htr.own hb3
      have hB3 : base ≤ W3.heap.size := Nat.le_trans hBr hb3.size
      have hc3 : ∀ j u, (byteCells [39])[j]? = some u → W3.cell? ((⟨wr.heap.size, 0, none⟩ : Addr).add j) = some u := fun j u hj => by
        rw [← hW3]; exact cell_one_new wr (.int .u8 39) 5 j u hj
      have HB3 := hidE hb3
      have HW3 := hidE hW3
      have HQ : Hid (quoteB s = ([39] ++ escAll (s.data.toList.take j)) ++ [39]) := by
        show _ = _
        rw [List.take_of_length_le (by show s.size ≤ j; omega)]; rfl
      clear hW3 hb3 htr HT1
      go_wp2_with (at_builtin; rw [HW3.out]; refine append_row W3 rfl _ _ rfl base _ u0 _ rfl hown3 ⟨wr.heap.size, 0, none⟩ 1 1 [39] rfl rfl hc3 (by omega) hB3 ?_; intro v4 w4 ht4)
      have HT4 : Hid (Told base n xs v w (quoteB s) v4 w4) := by
        show Told _ _ _ _ _ _ _ _
        rw [HQ.out]
        exact HTR.out.trans (ht4.from HB3.out)
      clear ht4
      go_ret
      exact ⟨_, rfl, HT4.out⟩
end Go.Proofs.YtbjcdpenfijfoaaGreatDoor
