/- Bytes and texts, told. What is in a list or a map, told. -/
import Derived.Test.YthfilnflgahcjaaGreatDoorEsc10
import Derived.Test.YthfilnflgahcjaaGreatDoorTellN
namespace Go.Proofs.YthfilnflgahcjaaGreatDoor
open Go.RowKit Go.Shelf Go.Lib
set_option linter.unusedVariables false
set_option linter.unusedSimpArgs false
/-- A byte as a text tells it. -/
def escB (c : UInt8) : List UInt8 :=
  if c = 39 ∨ c = 92 then [92, c] else if c = 10 then [92, 110] else if c = 9 then [92, 116] else if c = 13 then [92, 114] else if c < 32 ∨ c = 127 then [92, 117, 48, 48, hexB (c.toNat / 16), hexB (c.toNat % 16)] else [c]
theorem escB_len (c : UInt8) : 1 ≤ (escB c).length ∧ (escB c).length ≤ 6 := by
  unfold escB
  split
  · simp
  · split
    · simp
    · split
      · simp
      · split
        · simp
        · split <;> simp
def escAll (l : List UInt8) : List UInt8 := (l.map escB).flatten
theorem escAll_snoc (l : List UInt8) (c : UInt8) : escAll (l ++ [c]) = escAll l ++ escB c := by simp [escAll]
theorem escAll_len (l : List UInt8) : (escAll l).length ≤ 6 * l.length := by
  induction l with
  | nil => simp [escAll]
  | cons c r ih =>
    have := (escB_len c).2
    simp only [escAll, List.map_cons, List.flatten_cons, List.length_append, List.length_cons] at ih ⊢
    omega
/-- A text as it is told. -/
def quoteB (s : ByteArray) : List UInt8 := [39] ++ escAll s.data.toList ++ [39]
theorem u8_eq {c : UInt8} {k : Nat} (hk : k < 256) (h : c.toNat = k) : c = UInt8.ofNat k := by
  rw [← h]; simp
set_option maxRecDepth 100000 in
set_option maxHeartbeats 4000000 in
theorem escape_any (c : UInt8) (base n : Nat) (v : Value) (xs : List Value) (w : World) (hown : w.ownsRow base 5 1 v n xs) (hB : base ≤ w.heap.size) (hn : n ≤ 100000000000) :
    Calls Tryz.prog 240 #[v, .int .u8 (c.toNat : Int)] w fun e w' => ∃ v', e = .returned v' ∧ Told base n xs v w (escB c) v' w' := by
  obtain ⟨m, hm⟩ : ∃ m, c.toNat = m := ⟨_, rfl⟩
  have hm256 : m < 256 := by rw [← hm]; exact c.toNat_lt
  rw [hm]
  have HM := hidE hm
  have HO := hidE hown
  go_enter Tryz.func240, Tryz.ntmps240
  by_cases h1 : m = 39 ∨ m = 92
  · have HE : Hid (escB c = [92, c]) := by
      show _ = _
      have : c = 39 ∨ c = 92 := h1.imp (fun h => u8_eq (by omega) (hm.trans h)) (fun h => u8_eq (by omega) (hm.trans h))
      unfold escB; rw [if_pos this]
    obtain ⟨W1, hW1⟩ : ∃ W1, w.alloc (.cells #[.int .u8 92, .int .u8 (m : Int)] 5) = W1 := ⟨_, rfl⟩
    have hb1 : Below w.heap.size w W1 := hW1 ▸ (Below.refl _ _).alloc (Nat.le_refl _) _
    have hown1 := own_below hown hb1
    have hB1 : base ≤ W1.heap.size := Nat.le_trans hB hb1.size
    have hc1 : ∀ j u, (byteCells [92, c])[j]? = some u → W1.cell? ((⟨w.heap.size, 0, none⟩ : Addr).add j) = some u := fun j u hj => by
      rw [← hW1, Lib.add_plain, Nat.zero_add]
      refine cell_new _ _ _ _ _ ?_
      simpa [byteCells, hm] using hj
    have HB1 := hidE hb1
    have HW1 := hidE hW1
    clear hW1 hb1 hm hown
    by_cases h39 : m = 39
    · have g39 : ((m : Int) == 39) = true := by simp; omega
      clear h1 h39
      go_wp2_with (at_builtin; rw [HW1.out]; refine append_row W1 rfl _ _ rfl base n v xs rfl hown1 ⟨w.heap.size, 0, none⟩ 2 2 [92, c] rfl rfl hc1 (by omega) hB1 ?_; intro v1 w1 ht)
      have HT : Hid (Told base n xs v w (escB c) v1 w1) := by show Told _ _ _ _ _ _ _ _; rw [HE.out]; exact ht.from HB1.out
      clear ht
      go_ret
      exact ⟨_, rfl, HT.out⟩
    · have g39 : ((m : Int) == 39) = false := by simp; omega
      have g92 : ((m : Int) == 92) = true := by simp; omega
      clear h1 h39
      go_wp2_with (at_builtin; rw [HW1.out]; refine append_row W1 rfl _ _ rfl base n v xs rfl hown1 ⟨w.heap.size, 0, none⟩ 2 2 [92, c] rfl rfl hc1 (by omega) hB1 ?_; intro v1 w1 ht)
      have HT : Hid (Told base n xs v w (escB c) v1 w1) := by show Told _ _ _ _ _ _ _ _; rw [HE.out]; exact ht.from HB1.out
      clear ht
      go_ret
      exact ⟨_, rfl, HT.out⟩
  have g39 : ((m : Int) == 39) = false := by simp; omega
  have g92 : ((m : Int) == 92) = false := by simp; omega
  have hn1 : ¬ (c = 39 ∨ c = 92) := fun h => h1 (h.imp (fun e => by rw [← hm, e]; rfl) (fun e => by rw [← hm, e]; rfl))
  by_cases h2 : m = 10
  · have HE : Hid (escB c = [92, 110]) := by
      show _ = _
      unfold escB; rw [if_neg hn1, if_pos (show c = 10 from u8_eq (k := 10) (by decide) (hm.trans h2))]
    subst h2
    go_wp2_with (at_builtin; refine append_text w rfl _ _ rfl base n v xs rfl hown ⟨#[92, 110]⟩ rfl (by decide) (by show n + 2 ≤ _; omega) hB ?_; intro v1 w1 ht)
    have HT : Hid (Told base n xs v w (escB c) v1 w1) := by show Told _ _ _ _ _ _ _ _; rw [HE.out]; exact ht
    clear ht
    go_ret
    exact ⟨_, rfl, HT.out⟩
  have g10 : ((m : Int) == 10) = false := by simp; omega
  have hn2 : ¬ c = 10 := fun h => h2 (by rw [← hm, h]; rfl)
  by_cases h3 : m = 9
  · have HE : Hid (escB c = [92, 116]) := by
      show _ = _
      unfold escB; rw [if_neg hn1, if_neg hn2, if_pos (show c = 9 from u8_eq (k := 9) (by decide) (hm.trans h3))]
    subst h3
    go_wp2_with (at_builtin; refine append_text w rfl _ _ rfl base n v xs rfl hown ⟨#[92, 116]⟩ rfl (by decide) (by show n + 2 ≤ _; omega) hB ?_; intro v1 w1 ht)
    have HT : Hid (Told base n xs v w (escB c) v1 w1) := by show Told _ _ _ _ _ _ _ _; rw [HE.out]; exact ht
    clear ht
    go_ret
    exact ⟨_, rfl, HT.out⟩
  have g9 : ((m : Int) == 9) = false := by simp; omega
  have hn3 : ¬ c = 9 := fun h => h3 (by rw [← hm, h]; rfl)
  by_cases h4 : m = 13
  · have HE : Hid (escB c = [92, 114]) := by
      show _ = _
      unfold escB; rw [if_neg hn1, if_neg hn2, if_neg hn3, if_pos (show c = 13 from u8_eq (k := 13) (by decide) (hm.trans h4))]
    subst h4
    go_wp2_with (at_builtin; refine append_text w rfl _ _ rfl base n v xs rfl hown ⟨#[92, 114]⟩ rfl (by decide) (by show n + 2 ≤ _; omega) hB ?_; intro v1 w1 ht)
    have HT : Hid (Told base n xs v w (escB c) v1 w1) := by show Told _ _ _ _ _ _ _ _; rw [HE.out]; exact ht
    clear ht
    go_ret
    exact ⟨_, rfl, HT.out⟩
  have g13 : ((m : Int) == 13) = false := by simp; omega
  have hn4 : ¬ c = 13 := fun h => h4 (by rw [← hm, h]; rfl)
  by_cases h5 : m < 32 ∨ m = 127
  · have HE : Hid (escB c = [92, 117, 48, 48, hexB (m / 16), hexB (m % 16)]) := by
      show _ = _
      have : c < 32 ∨ c = 127 := h5.imp (fun h => UInt8.lt_iff_toNat_lt.2 (by rw [hm]; exact h)) (fun h => u8_eq (by omega) (hm.trans h))
      unfold escB; rw [if_neg hn1, if_neg hn2, if_neg hn3, if_neg hn4, if_pos this, hm]
    have h128 : m < 128 := by omega
    clear hn1 hn2 hn3 hn4 h1 h2 h3 h4
    have hc5 : (decide ((m : Int) < 32) || ((m : Int) == 127)) = true := by
      rcases h5 with h | h
      · simp; omega
      · simp; omega
    rcases h5 with h | h
    · have g32 : (m : Int) < 32 := by omega
      go_upto_region 10 with fail
      show (Code.region 10 RE10 true).wp _ _ _ _
      refine regionE10 base n m v xs w _ _ ⟨rfl, rfl, rfl⟩ ⟨HO.out, hB, hn, h128⟩ ?_
      intro a w1 hS ht
      have HT : Hid (Told base n xs v w (escB c) (a.eval (.tmp 4)) w1) := by show Told _ _ _ _ _ _ _ _; rw [HE.out]; exact ht
      have hl : a = ⟨#[v, Value.int IntKind.u8 ↑m, undef, undef, a.eval (.tmp 4), Value.bool false, Value.int IntKind.u8 ↑m, Value.bool false, Value.bool false, Value.int IntKind.u8 ↑m, Value.bool false, Value.bool false, undef, undef, undef, undef, Value.bool false, Value.int IntKind.u8 ↑m, Value.bool false, undef, undef, Value.bool false, Value.int IntKind.u8 ↑m, Value.bool false, undef, undef, Value.bool false, Value.int IntKind.u8 ↑m, Value.bool false, undef, undef, Value.bool true, Value.int IntKind.u8 ↑m, Value.bool true, Value.bool true, undef, undef, Value.bool true, a.eval (.tmp 38), a.eval (.tmp 39), a.eval (.tmp 40), a.eval (.tmp 41), a.eval (.tmp 42), a.eval (.tmp 43), a.eval (.tmp 44), a.eval (.tmp 45), a.eval (.tmp 46), a.eval (.tmp 47), undef, undef, undef, undef], []⟩ := (same_lay hS).trans (by kernel_rfl)
      generalize a.eval (.tmp 4) = v1 at hl HT
      generalize a.eval (.tmp 38) = z38 at hl
      generalize a.eval (.tmp 39) = z39 at hl
      generalize a.eval (.tmp 40) = z40 at hl
      generalize a.eval (.tmp 41) = z41 at hl
      generalize a.eval (.tmp 42) = z42 at hl
      generalize a.eval (.tmp 43) = z43 at hl
      generalize a.eval (.tmp 44) = z44 at hl
      generalize a.eval (.tmp 45) = z45 at hl
      generalize a.eval (.tmp 46) = z46 at hl
      generalize a.eval (.tmp 47) = z47 at hl
      clear hS ht
      subst hl
      go_wp2_with fail
      go_ret
      exact ⟨_, rfl, HT.out⟩
    · have g32 : ¬ (m : Int) < 32 := by omega
      have g127 : ((m : Int) == 127) = true := by simp; omega
      go_upto_region 10 with fail
      show (Code.region 10 RE10 true).wp _ _ _ _
      refine regionE10 base n m v xs w _ _ ⟨rfl, rfl, rfl⟩ ⟨HO.out, hB, hn, h128⟩ ?_
      intro a w1 hS ht
      have HT : Hid (Told base n xs v w (escB c) (a.eval (.tmp 4)) w1) := by show Told _ _ _ _ _ _ _ _; rw [HE.out]; exact ht
      have hl : a = ⟨#[v, Value.int IntKind.u8 ↑m, undef, undef, a.eval (.tmp 4), Value.bool false, Value.int IntKind.u8 ↑m, Value.bool false, Value.bool false, Value.int IntKind.u8 ↑m, Value.bool false, Value.bool false, undef, undef, undef, undef, Value.bool false, Value.int IntKind.u8 ↑m, Value.bool false, undef, undef, Value.bool false, Value.int IntKind.u8 ↑m, Value.bool false, undef, undef, Value.bool false, Value.int IntKind.u8 ↑m, Value.bool false, undef, undef, Value.bool true, Value.int IntKind.u8 ↑m, Value.bool false, Value.bool false, Value.int IntKind.u8 ↑m, Value.bool true, Value.bool true, a.eval (.tmp 38), a.eval (.tmp 39), a.eval (.tmp 40), a.eval (.tmp 41), a.eval (.tmp 42), a.eval (.tmp 43), a.eval (.tmp 44), a.eval (.tmp 45), a.eval (.tmp 46), a.eval (.tmp 47), undef, undef, undef, undef], []⟩ := (same_lay hS).trans (by kernel_rfl)
      generalize a.eval (.tmp 4) = v1 at hl HT
      generalize a.eval (.tmp 38) = z38 at hl
      generalize a.eval (.tmp 39) = z39 at hl
      generalize a.eval (.tmp 40) = z40 at hl
      generalize a.eval (.tmp 41) = z41 at hl
      generalize a.eval (.tmp 42) = z42 at hl
      generalize a.eval (.tmp 43) = z43 at hl
      generalize a.eval (.tmp 44) = z44 at hl
      generalize a.eval (.tmp 45) = z45 at hl
      generalize a.eval (.tmp 46) = z46 at hl
      generalize a.eval (.tmp 47) = z47 at hl
      clear hS ht
      subst hl
      go_wp2_with fail
      go_ret
      exact ⟨_, rfl, HT.out⟩
  · have HE : Hid (escB c = [c]) := by
      show _ = _
      have : ¬ (c < 32 ∨ c = 127) := fun h => h5 (h.imp (fun e => by rw [← hm]; exact UInt8.lt_iff_toNat_lt.1 e) (fun e => by rw [← hm, e]; rfl))
      unfold escB; rw [if_neg hn1, if_neg hn2, if_neg hn3, if_neg hn4, if_neg this]
    have g32 : ¬ (m : Int) < 32 := by omega
    have g127 : ((m : Int) == 127) = false := by simp; omega
    obtain ⟨W1, hW1⟩ : ∃ W1, w.alloc (.cells #[.int .u8 (m : Int)] 5) = W1 := ⟨_, rfl⟩
    have hb1 : Below w.heap.size w W1 := hW1 ▸ (Below.refl _ _).alloc (Nat.le_refl _) _
    have hown1 := own_below hown hb1
    have hB1 : base ≤ W1.heap.size := Nat.le_trans hB hb1.size
    have hc1 : ∀ j u, (byteCells [c])[j]? = some u → W1.cell? ((⟨w.heap.size, 0, none⟩ : Addr).add j) = some u := fun j u hj => by
      rw [← hW1, Lib.add_plain, Nat.zero_add]
      refine cell_new _ _ _ _ _ ?_
      simpa [byteCells, hm] using hj
    have HB1 := hidE hb1
    have HW1 := hidE hW1
    clear hW1 hb1 hm hown h1 h2 h3 h4 h5 hn1 hn2 hn3 hn4
    go_wp2_with (at_builtin; rw [HW1.out]; refine append_row W1 rfl _ _ rfl base n v xs rfl hown1 ⟨w.heap.size, 0, none⟩ 1 1 [c] rfl rfl hc1 (by omega) hB1 ?_; intro v1 w1 ht)
    have HT : Hid (Told base n xs v w (escB c) v1 w1) := by show Told _ _ _ _ _ _ _ _; rw [HE.out]; exact ht.from HB1.out
    clear ht
    go_ret
    exact ⟨_, rfl, HT.out⟩
theorem atV_byte (s : ByteArray) (j : Nat) (h : j < s.size) : s.data.toList[j]? = some s[j] := by
  rw [List.getElem?_eq_getElem (by simpa using h)]
  rfl
set_option maxRecDepth 100000 in
set_option maxHeartbeats 4000000 in
theorem quote_any (s : ByteArray) (hs : s.size ≤ 10000000000) (base n : Nat) (v : Value) (xs : List Value) (w : World) (hown : w.ownsRow base 5 1 v n xs) (hB : base ≤ w.heap.size) (hn : n ≤ 10000000000) :
    Calls Tryz.prog 203 #[v, .string s] w fun e w' => ∃ v', e = .returned v' ∧ Told base n xs v w (quoteB s) v' w' := by
  obtain ⟨W1, hW1⟩ : ∃ W1, w.alloc (.cells #[.int .u8 39] 5) = W1 := ⟨_, rfl⟩
  have hb1 : Below w.heap.size w W1 := hW1 ▸ (Below.refl _ _).alloc (Nat.le_refl _) _
  have hown1 := own_below hown hb1
  have hB1 : base ≤ W1.heap.size := Nat.le_trans hB hb1.size
  have hc1 : ∀ j u, (byteCells [39])[j]? = some u → W1.cell? ((⟨w.heap.size, 0, none⟩ : Addr).add j) = some u := fun j u hj => by
    rw [← hW1]; exact cell_one_new w (.int .u8 39) 5 j u hj
  have HB1 := hidE hb1
  have HW1 := hidE hW1
  have HO := hidE hown
  clear hW1 hb1 hown
  go_enter Tryz.func203, Tryz.ntmps203
  go_wp2_with (at_builtin; rw [HW1.out]; refine append_row W1 rfl _ _ rfl base n v xs rfl hown1 ⟨w.heap.size, 0, none⟩ 1 1 [39] rfl rfl hc1 (by omega) hB1 ?_; intro v1 w1 ht)
  have HT1 : Hid (Told base n xs v w [39] v1 w1) := ht.from HB1.out
  clear ht hown1 hc1 HW1 HB1
  go_loopw [11, 0] (fun i r wr => ∃ j : Nat, j ≤ s.size ∧ i = .int .i64 j ∧ Told base n xs v w ([39] ++ escAll (s.data.toList.take j)) r wr) (fun i _ _ => s.size - (RowKit.intOf i).toNat)
  case atStart => exact ⟨0, Nat.zero_le _, rfl, by simpa [escAll] using HT1.out⟩
  case round =>
    obtain ⟨j, hj, rfl, htr⟩ := hrel
    have HTR := hidE htr
    have hlen : ([39] ++ escAll (s.data.toList.take j)).length ≤ 6 * s.size + 1 := by
      have h1 := escAll_len (s.data.toList.take j)
      have h2 : (s.data.toList.take j).length ≤ s.size := by rw [List.length_take]; show min j s.size ≤ _; omega
      simp only [List.length_append, List.length_cons, List.length_nil]
      omega
    have hBr : base ≤ wr.heap.size := Nat.le_trans hB htr.grown.size
    by_cases hlt : j < s.size
    · have HC := hidE (escape_any s[j] base _ u0 _ wr htr.own hBr (by omega))
      have HAT := hidE (atV_byte s j hlt)
      clear htr HT1
      have hji : (j : Int) < s.size := by omega
      go_wp2_with fail
      refine HC.out.mono ?_
      rintro e w2 ⟨v2, rfl, ht2⟩
      have HT2 : Hid (Told base n xs v w ([39] ++ escAll (s.data.toList.take (j + 1))) v2 w2) := by
        show Told _ _ _ _ _ _ _ _
        rw [List.take_add_one, HAT.out]
        show Told _ _ _ _ _ ([39] ++ escAll (_ ++ [s[j]])) _ _
        rw [escAll_snoc, ← List.append_assoc]
        exact HTR.out.trans ht2
      clear ht2 HC HTR
      go_wp2_with fail
      go_roundw
      case rel => exact ⟨j + 1, by omega, by go_num, HT2.out⟩
      case measure => simp [RowKit.intOf]; omega
    · have hji : ¬ (j : Int) < s.size := by omega
      obtain ⟨W3, hW3⟩ : ∃ W3, wr.alloc (.cells #[.int .u8 39] 5) = W3 := ⟨_, rfl⟩
      have hb3 : Below wr.heap.size wr W3 := hW3 ▸ (Below.refl _ _).alloc (Nat.le_refl _) _
      have hown3 := own_below htr.own hb3
      have hB3 : base ≤ W3.heap.size := Nat.le_trans hBr hb3.size
      have hc3 : ∀ j u, (byteCells [39])[j]? = some u → W3.cell? ((⟨wr.heap.size, 0, none⟩ : Addr).add j) = some u := fun j u hj => by
        rw [← hW3]; exact cell_one_new wr (.int .u8 39) 5 j u hj
      have HB3 := hidE hb3
      have HW3 := hidE hW3
      have HQ : Hid (quoteB s = ([39] ++ escAll (s.data.toList.take j)) ++ [39]) := by
        show _ = _
        rw [List.take_of_length_le (by show s.size ≤ j; omega)]; rfl
      clear hW3 hb3 htr HT1
      go_wp2_with (at_builtin; rw [HW3.out]; refine append_row W3 rfl _ _ rfl base _ u0 _ rfl hown3 ⟨wr.heap.size, 0, none⟩ 1 1 [39] rfl rfl hc3 (by omega) hB3 ?_; intro v4 w4 ht4)
      have HT4 : Hid (Told base n xs v w (quoteB s) v4 w4) := by
        show Told _ _ _ _ _ _ _ _
        rw [HQ.out]
        exact HTR.out.trans (ht4.from HB3.out)
      clear ht4
      go_ret
      exact ⟨_, rfl, HT4.out⟩
end Go.Proofs.YthfilnflgahcjaaGreatDoor

namespace Go.Proofs.YthfilnflgahcjaaGreatDoor
open Go.RowKit Go.Shelf Go.Lib
set_option linter.unusedVariables false
set_option linter.unusedSimpArgs false
/-- The tables stand below. -/
structure TBG (base : Nat) (w : World) : Prop where
  env : ∀ w', Below base w w' → Env2 w'
  pow : TabBelow Tryz.prog base w "internal/strconv.uint64pow10" .u64 pow10Tab
theorem TBG.on {base : Nat} {w w' : World} (h : TBG base w) (hb : Below base w w') : TBG base w' := ⟨fun w2 h2 => h.env w2 (hb.trans h2), h.pow.on hb⟩
theorem TBG.tb {base : Nat} {w : World} (h : TBG base w) : TB base w := ⟨fun w' hb => (h.env w' hb).e.tabs, h.pow⟩
mutual
/-- A value as it is told. -/
def tellG : Tree → List UInt8
  | .mk k b n s ks ts => if k = 1 then boolBytes b else if k = 2 then itoa n else if k = 3 then quoteB s else if k = 4 then [91] ++ tellAllG false ks 0 ts ++ [93] else if k = 5 then [123] ++ tellAllG true ks 0 ts ++ [125] else if k = 6 then [60, 110] ++ itoa n ++ [62] else if k = 7 then [60, 114] ++ itoa n ++ [62] else [110, 117, 108, 108]
/-- What is in it. -/
def tellAllG (mp : Bool) (ks : List ByteArray) : Nat → List Tree → List UInt8
  | _, [] => []
  | i, t :: ts => (if i = 0 then [] else [44, 32]) ++ (if mp then (vnameB (ks.getD i ⟨#[]⟩)).data.toList ++ [58, 32] else []) ++ tellG t ++ tellAllG mp ks (i + 1) ts
end
def pieceG (mp : Bool) (ks : List ByteArray) (i : Nat) (t : Tree) : List UInt8 := (if i = 0 then [] else [44, 32]) ++ (if mp then (vnameB (ks.getD i ⟨#[]⟩)).data.toList ++ [58, 32] else []) ++ tellG t
theorem tellAllG_snoc (mp : Bool) (ks : List ByteArray) (t : Tree) : ∀ (l : List Tree) (i : Nat), tellAllG mp ks i (l ++ [t]) = tellAllG mp ks i l ++ pieceG mp ks (i + l.length) t
  | [], i => by simp [tellAllG, pieceG]
  | u :: l, i => by
    rw [List.cons_append, tellAllG, tellAllG, tellAllG_snoc mp ks t l (i + 1), List.length_cons]
    simp only [List.append_assoc]
    rw [show i + 1 + l.length = i + (l.length + 1) by omega]
def TellOkG (T : Tree) : Prop := ∀ (base n : Nat) (v : Value) (xs : List Value) (tv : Value) (w : World), w.ownsRow base 5 1 v n xs → base ≤ w.heap.size → Lies base w tv T → TBG base w → n + (tellG T).length ≤ 1000000000 →
  Calls Tryz.prog 152 #[v, tv] w fun e w' => ∃ v', e = .returned v' ∧ Told base n xs v w (tellG T) v' w'
/-- The keys may be told. -/
def KeyOkG (s : ByteArray) : Prop := s.size ≤ 100000000 ∧ validD s.data.toList = true ∧ True
theorem tellAllG_take {mp : Bool} {ks : List ByteArray} {ts : List Tree} {j : Nat} {t : Tree} (h : ts[j]? = some t) : tellAllG mp ks 0 (ts.take (j + 1)) = tellAllG mp ks 0 (ts.take j) ++ pieceG mp ks j t := by
  rw [List.take_add_one, h]
  have hj : j < ts.length := (List.getElem?_eq_some_iff.1 h).1
  have := tellAllG_snoc mp ks t (ts.take j) 0
  rw [Nat.zero_add, List.length_take, Nat.min_eq_left (by omega)] at this
  exact this
theorem tellAllG_le {mp : Bool} {ks : List ByteArray} : ∀ {a b : List Tree} {i : Nat}, (tellAllG mp ks i a).length ≤ (tellAllG mp ks i (a ++ b)).length
  | [], b, i => by simp [tellAllG]
  | u :: a, b, i => by
    have := tellAllG_le (mp := mp) (ks := ks) (a := a) (b := b) (i := i + 1)
    rw [List.cons_append, tellAllG, tellAllG]
    simp only [List.length_append]
    omega
theorem tellAllG_take_le {mp : Bool} {ks : List ByteArray} {ts : List Tree} (j : Nat) : (tellAllG mp ks 0 (ts.take j)).length ≤ (tellAllG mp ks 0 ts).length := by
  have := tellAllG_le (mp := mp) (ks := ks) (a := ts.take j) (b := ts.drop j) (i := 0)
  rwa [List.take_append_drop] at this
set_option maxRecDepth 100000 in
set_option maxHeartbeats 4000000 in
theorem tellAll_anyG (k : Int) (b : Bool) (nn : Int) (s : ByteArray) (ks : List ByteArray) (ts : List Tree) (ih : ∀ t ∈ ts, TellOkG t) (hkey : k = 5 → ks.length = ts.length ∧ ∀ x ∈ ks, KeyOkG x) (base n : Nat) (v : Value) (xs : List Value) (tv : Value) (w : World)
    (hown : w.ownsRow base 5 1 v n xs) (hB : base ≤ w.heap.size) (hl : Lies base w tv (.mk k b nn s ks ts)) (htb : TBG base w) (hn : n + (tellAllG (decide (k = 5)) ks 0 ts).length ≤ 1000000000) :
    Calls Tryz.prog 204 #[v, tv] w fun e w' => ∃ v', e = .returned v' ∧ Told base n xs v w (tellAllG (decide (k = 5)) ks 0 ts) v' w' := by
  simp only [Lies] at hl
  obtain ⟨ka, kc, la, lc, rfl, ⟨hs1, hs2, hs3, hs4, hs5⟩, hk, ht⟩ := hl
  obtain ⟨W1, hW1⟩ : ∃ W1, w.alloc (.cells #[.int .i64 k, .bool b, .int .i64 nn, .string s, .slice ka ks.length kc, .slice la ts.length lc] 88) = W1 := ⟨_, rfl⟩
  have hb1 : Below w.heap.size w W1 := hW1 ▸ (Below.refl _ _).alloc (Nat.le_refl _) _
  have hq1 : W1.heap[w.heap.size]? = some (.cells #[.int .i64 k, .bool b, .int .i64 nn, .string s, .slice ka ks.length kc, .slice la ts.length lc] 88 (0, 0)) := hW1 ▸ World.alloc_heap_new _ _
  have hown1 := own_below hown hb1
  have hB1 : base ≤ W1.heap.size := Nat.le_trans hB hb1.size
  have HW1 := hidE hW1
  have HX := hidE (And.intro hb1 (And.intro hq1 (And.intro hown1 hB1)))
  have HK := hidE hk
  have HT := hidE ht
  have HKEY := hidE hkey
  have HIH := hidE ih
  have HTB := hidE htb
  have HOWN := hidE hown
  have HN := hidE hn
  clear hW1 hb1 hq1 hown1 hk ht hkey ih htb hown hn
  unfold maxLen at hs3 hs5
  go_enter Tryz.func204, Tryz.ntmps204
  go_wp2_with fail
  rw [HW1.out]
  go_loopw [0, 10] (fun r i wr => ∃ j : Nat, j ≤ ts.length ∧ i = .int .i64 j ∧ Told base n xs v W1 (tellAllG (decide (k = 5)) ks 0 (ts.take j)) r wr) (fun _ i _ => ts.length - (RowKit.intOf i).toNat)
  case atStart => exact ⟨0, Nat.zero_le _, rfl, by have := told_nil HX.out.2.2.1; simpa [tellAllG] using this⟩
  case round =>
    obtain ⟨j, hj, rfl, htd⟩ := hrel
    revert u0
    intro r htd
    by_cases hlt : j < ts.length
    · obtain ⟨⟨p0, p1, p2, p3, p4, p5⟩, hx⟩ : ∃ t, ts[j]? = some t := ⟨_, List.getElem?_eq_getElem hlt⟩
      obtain ⟨hb1, hq1, hown1, hB1⟩ := HX.out
      have hbr1 : Below base W1 wr := htd.below hown1 hB1
      have hbr : Below base w wr := (hb1.mono hB).trans hbr1
      obtain ⟨bl, off, rfl, hbl, hkl⟩ := HT.out.resolve_left (by intro e; rw [e] at hlt; simp at hlt)
      obtain ⟨ja, jc, jl, jd, ⟨c0, c1, c2, c3, c4, c5⟩, hlx⟩ := (hkl.below hbr hbl).cells hx
      have hbx := htd.box hown1 hq1
      have d0 := box_cell hbx (i := 0) rfl
      have d4 := box_cell hbx (i := 4) rfl
      have hsz : base ≤ wr.heap.size := Nat.le_trans hB1 htd.grown.size
      have hlt2 : w.heap.size < wr.heap.size := lt_of_cell d0
      have hne2 : w.heap.size ≠ wr.heap.size := by omega
      obtain ⟨WA, hWA⟩ : ∃ WA, wr.alloc (.cells #[.int .i64 p0, .bool p1, .int .i64 p2, .string p3, .slice ja p4.length jc, .slice jl p5.length jd] 88) = WA := ⟨_, rfl⟩
      have hba : Below wr.heap.size wr WA := hWA ▸ (Below.refl _ _).alloc (Nat.le_refl _) _
      have hqa : WA.heap[wr.heap.size]? = some (.cells #[.int .i64 p0, .bool p1, .int .i64 p2, .string p3, .slice ja p4.length jc, .slice jl p5.length jd] 88 (0, 0)) := hWA ▸ World.alloc_heap_new _ _
      have hta : Told base n xs v W1 (tellAllG (decide (k = 5)) ks 0 (ts.take j)) r WA := htd.upto hba
      have hbxa : WA.heap[w.heap.size]? = some (.cells #[.int .i64 k, .bool b, .int .i64 nn, .string s, .slice ka ks.length kc, .slice (some ⟨bl, off, none⟩) ts.length lc] 88 (0, 0)) := hta.box hown1 hq1
      have hpc := tellAllG_take (mp := decide (k = 5)) (ks := ks) hx
      have hle := tellAllG_take_le (mp := decide (k = 5)) (ks := ks) (ts := ts) (j + 1)
      rw [hpc, List.length_append] at hle
      have hnn := HN.out
      obtain ⟨A, hA⟩ : ∃ A, tellAllG (decide (k = 5)) ks 0 (ts.take j) = A := ⟨_, rfl⟩
      rw [hA] at hta hpc hle
      have hoka : WA.ownsRow base 5 1 r (n + A.length) (xs ++ byteCells A) := hta.own
      have hsa : base ≤ WA.heap.size := Nat.le_trans hsz hba.size
      have hla : Lies base WA (.agg #[.int .i64 p0, .bool p1, .int .i64 p2, .string p3, .slice ja p4.length jc, .slice jl p5.length jd]) (.mk p0 p1 p2 p3 p4 p5) := hlx.below (hba.mono hsz)
      have hbwa : Below base w WA := hbr.trans (hba.mono hsz)
      have HTA := hidE hta
      have HPC := hidE hpc
      have HWA := hidE hWA
      have HIHT := hidE (HIH.out _ (List.mem_of_getElem? hx))
      have HA := hidE (And.intro hoka (And.intro hsa (And.intro hla (And.intro hbwa (And.intro hqa hbxa)))))
      have HLE := hidE (And.intro hle hnn)
      clear htd hx hkl hlx hbx hba hqa hta hbxa hpc hle hnn hA hoka hsa hla hbwa hWA hbr hbr1 hb1 hq1 hown1
      by_cases hj0 : j = 0
      · by_cases hk5 : k = 5
        · have hkk : (k == 5) = true := by simp [hk5]
          have hpb : pieceG (decide (k = 5)) ks j (.mk p0 p1 p2 p3 p4 p5) = (vnameB (ks.getD j ⟨#[]⟩)).data.toList ++ ([58, 32] ++ (tellG (.mk p0 p1 p2 p3 p4 p5))) := by simp [pieceG, hj0, hk5]
          have hlen := HLE.out
          rw [hpb] at hlen
          try simp only [List.length_append, List.length_cons, List.length_nil, told_len] at hlen
          have HPB := hidE hpb
          have HJ0 := hidE hj0
          clear hpb hj0
          obtain ⟨hok, hsz2, hlz, hbz, hqz, hbxz⟩ := HA.out
          have hz : ¬ (0 : Int) < (j : Int) := by have := HJ0.out; omega
          obtain ⟨hkl, hko⟩ := HKEY.out hk5
          obtain ⟨kb, ko, rfl, hkb, hkc⟩ := HK.out.resolve_left (by intro e; rw [e] at hkl; simp at hkl; omega)
          obtain ⟨hkc1, hkc2⟩ := hkc j (by omega)
          obtain ⟨y, hy⟩ : ∃ y, ks.getD j ⟨#[]⟩ = y := ⟨_, rfl⟩
          have hym : y ∈ ks := by
            rw [← hy, List.getD_eq_getElem?_getD, List.getElem?_eq_getElem (by omega)]
            exact List.getElem_mem _
          obtain ⟨hy1, hy2, hy3⟩ := hko y hym
          rw [hy] at HPB hlen hkc1
          have hjk : j < ks.length := by omega
          have HKC := hidE (And.intro hkb hkc1)
          have HY := hidE (And.intro hy1 (And.intro hy2 hy3))
          clear hkc hkc1 hkc2 hko hy1 hy2 hy3 hym hkb hkl
          have HLEN := hidE hlen
          have HK5 := hidE hk5
          clear hlen hk5
          have kc1 := (hbz.cell (p := ⟨kb, ko + j, none⟩) HKC.out.1).trans HKC.out.2
          have HU1 : Hid (Told base (n + A.length) (xs ++ byteCells A) r WA [] r WA) := told_nil hok
          have kcr : wr.cell? ⟨kb, ko + j, none⟩ = some (.string y) := by
            have := HKC.out.1
            rw [← kc1, ← HWA.out]
            exact (World.cell?_alloc_lt wr _ _ (by show kb < _; omega)).symm
          have hkb2 : kb < wr.heap.size := by have := HKC.out.1; omega
          have hkb3 : kb ≠ wr.heap.size := by omega
          go_wp2_with fail
          rw [HWA.out]
          refine (vname_any y (by have := HY.out.1; omega) HY.out.2.1 WA (HTB.out.env _ (hbz.trans (HU1.out.below hok hsz2)))).mono ?_
          rintro e w2 ⟨rfl, hbn⟩
          have HU2 : Hid (Told base (n + A.length) (xs ++ byteCells A) r WA ([] : List UInt8) r w2) := HU1.out.upto hbn
          have ho2 : w2.ownsRow base 5 1 r (n + A.length + ([] : List UInt8).length) (xs ++ byteCells A ++ byteCells ([] : List UInt8)) := HU2.out.own
          have hs2' : base ≤ w2.heap.size := by have := HU2.out.grown.size; omega
          obtain ⟨y0, y1, y2, y3, y4, y5⟩ := boxes HU2.out hok hqz
          obtain ⟨x0, x1, x2, x3, x4, x5⟩ := boxes HU2.out hok hbxz
          clear hbn
          have hnl : (vnameB y).data.toList.length = (vnameB y).size := rfl
          go_wp2_with (first | (at_builtin; refine append_text w2 rfl _ _ rfl base (n + A.length + ([] : List UInt8).length) r (xs ++ byteCells A ++ byteCells ([] : List UInt8)) rfl ho2 (vnameB y) rfl (vname_pos y) (by have := HLEN.out; simp only [List.length_cons, List.length_nil]; omega) hs2' ?_; intro v3 w3 ht3; have HU3 := hidE (HU2.out.trans ht3); obtain ⟨y0, y1, y2, y3, y4, y5⟩ := boxes HU3.out hok hqz) | (at_builtin; refine append_text w3 rfl _ _ rfl base _ v3 _ rfl HU3.out.own ⟨#[58, 32]⟩ rfl (by decide) (by have := HLEN.out; simp only [List.length_append, List.length_cons, List.length_nil, hnl]; show _ + 2 ≤ _; omega) (by have := HU3.out.grown.size; omega) ?_; intro v4 w4 ht4; obtain ⟨y0, y1, y2, y3, y4, y5⟩ := boxes (HU3.out.trans ht4) hok hqz))
          have HU4 : Hid (Told base (n + A.length) (xs ++ byteCells A) r WA (([] : List UInt8) ++ (vnameB y).data.toList ++ [58, 32]) v4 w4) := HU3.out.trans ht4
          clear ht3 ht4
          have hbl : Below base w w4 := hbz.trans (HU4.out.below hok hsz2)
          have hol := HU4.out.own
          refine (HIHT.out base _ v4 _ _ w4 hol (by have := HU4.out.grown.size; omega) (hlz.below (HU4.out.below hok hsz2)) (HTB.out.on hbl) (by have := HLEN.out; simp only [List.length_append, List.length_cons, List.length_nil, told_len]; omega)).mono ?_
          rintro e w9 ⟨v9, rfl, ht9⟩
          have HT9 : Hid (Told base (n + A.length) (xs ++ byteCells A) r WA ((([] : List UInt8) ++ (vnameB y).data.toList ++ [58, 32]) ++ tellG (.mk p0 p1 p2 p3 p4 p5)) v9 w9) := HU4.out.trans ht9
          clear hol hbl
          clear ht9
          go_wp2_with fail
          go_roundw
          case rel =>
            refine ⟨j + 1, by omega, by go_num, ?_⟩
            rw [HPC.out, HPB.out]
            have h9 := HTA.out.trans HT9.out
            simpa only [List.nil_append, List.append_assoc] using h9
          case measure => simp [RowKit.intOf]; omega
        · have hkk : (k == 5) = false := by simp [hk5]
          have hpb : pieceG (decide (k = 5)) ks j (.mk p0 p1 p2 p3 p4 p5) = tellG (.mk p0 p1 p2 p3 p4 p5) := by simp [pieceG, hj0, hk5]
          have hlen := HLE.out
          rw [hpb] at hlen
          try simp only [List.length_append, List.length_cons, List.length_nil, told_len] at hlen
          have HPB := hidE hpb
          have HJ0 := hidE hj0
          clear hpb hj0
          obtain ⟨hok, hsz2, hlz, hbz, hqz, hbxz⟩ := HA.out
          have hz : ¬ (0 : Int) < (j : Int) := by have := HJ0.out; omega
          have HLEN := hidE hlen
          have HK5 := hidE hk5
          clear hlen hk5
          go_wp2_with fail
          rw [HWA.out]
          have ht0 := told_nil hok
          have HU : Hid (Told base (n + A.length) (xs ++ byteCells A) r WA [] r WA) := ht0
          refine (HIHT.out base (n + A.length) r (xs ++ byteCells A) _ WA hok hsz2 hlz (HTB.out.on hbz) (by have := HLEN.out; omega)).mono ?_
          rintro e w9 ⟨v9, rfl, ht9⟩
          have HT9 : Hid (Told base (n + A.length) (xs ++ byteCells A) r WA (tellG (.mk p0 p1 p2 p3 p4 p5)) v9 w9) := ht9
          clear ht9
          go_wp2_with fail
          go_roundw
          case rel =>
            refine ⟨j + 1, by omega, by go_num, ?_⟩
            rw [HPC.out, HPB.out]
            have h9 := HTA.out.trans HT9.out
            simpa only [List.nil_append, List.append_assoc] using h9
          case measure => simp [RowKit.intOf]; omega
      · by_cases hk5 : k = 5
        · have hkk : (k == 5) = true := by simp [hk5]
          have hpb : pieceG (decide (k = 5)) ks j (.mk p0 p1 p2 p3 p4 p5) = [44, 32] ++ ((vnameB (ks.getD j ⟨#[]⟩)).data.toList ++ ([58, 32] ++ (tellG (.mk p0 p1 p2 p3 p4 p5)))) := by simp [pieceG, hj0, hk5]
          have hlen := HLE.out
          rw [hpb] at hlen
          try simp only [List.length_append, List.length_cons, List.length_nil, told_len] at hlen
          have HPB := hidE hpb
          have HJ0 := hidE hj0
          clear hpb hj0
          obtain ⟨hok, hsz2, hlz, hbz, hqz, hbxz⟩ := HA.out
          have hz : (0 : Int) < (j : Int) := by have := HJ0.out; omega
          obtain ⟨hkl, hko⟩ := HKEY.out hk5
          obtain ⟨kb, ko, rfl, hkb, hkc⟩ := HK.out.resolve_left (by intro e; rw [e] at hkl; simp at hkl; omega)
          obtain ⟨hkc1, hkc2⟩ := hkc j (by omega)
          obtain ⟨y, hy⟩ : ∃ y, ks.getD j ⟨#[]⟩ = y := ⟨_, rfl⟩
          have hym : y ∈ ks := by
            rw [← hy, List.getD_eq_getElem?_getD, List.getElem?_eq_getElem (by omega)]
            exact List.getElem_mem _
          obtain ⟨hy1, hy2, hy3⟩ := hko y hym
          rw [hy] at HPB hlen hkc1
          have hjk : j < ks.length := by omega
          have HKC := hidE (And.intro hkb hkc1)
          have HY := hidE (And.intro hy1 (And.intro hy2 hy3))
          clear hkc hkc1 hkc2 hko hy1 hy2 hy3 hym hkb hkl
          have HLEN := hidE hlen
          have HK5 := hidE hk5
          clear hlen hk5
          go_wp2_with (at_builtin; rw [HWA.out]; refine append_text WA rfl _ _ rfl base (n + A.length) r (xs ++ byteCells A) rfl hok ⟨#[44, 32]⟩ rfl (by decide) (by have := HLEN.out; show n + A.length + 2 ≤ _; omega) hsz2 ?_; intro v1 w1 ht1; obtain ⟨y0, y1, y2, y3, y4, y5⟩ := boxes ht1 hok hqz; obtain ⟨x0, x1, x2, x3, x4, x5⟩ := boxes ht1 hok hbxz; have kc1 := ((hbz.trans (ht1.below hok hsz2)).cell (p := ⟨kb, ko + j, none⟩) HKC.out.1).trans HKC.out.2)
          have HU1 : Hid (Told base (n + A.length) (xs ++ byteCells A) r WA [44, 32] v1 w1) := ht1
          refine (vname_any y (by have := HY.out.1; omega) HY.out.2.1 w1 (HTB.out.env _ (hbz.trans (HU1.out.below hok hsz2)))).mono ?_
          rintro e w2 ⟨rfl, hbn⟩
          have HU2 : Hid (Told base (n + A.length) (xs ++ byteCells A) r WA ([44, 32] : List UInt8) v1 w2) := HU1.out.upto hbn
          have ho2 : w2.ownsRow base 5 1 v1 (n + A.length + ([44, 32] : List UInt8).length) (xs ++ byteCells A ++ byteCells ([44, 32] : List UInt8)) := HU2.out.own
          have hs2' : base ≤ w2.heap.size := by have := HU2.out.grown.size; omega
          obtain ⟨y0, y1, y2, y3, y4, y5⟩ := boxes HU2.out hok hqz
          obtain ⟨x0, x1, x2, x3, x4, x5⟩ := boxes HU2.out hok hbxz
          clear hbn
          have hnl : (vnameB y).data.toList.length = (vnameB y).size := rfl
          go_wp2_with (first | (at_builtin; refine append_text w2 rfl _ _ rfl base (n + A.length + ([44, 32] : List UInt8).length) v1 (xs ++ byteCells A ++ byteCells ([44, 32] : List UInt8)) rfl ho2 (vnameB y) rfl (vname_pos y) (by have := HLEN.out; simp only [List.length_cons, List.length_nil]; omega) hs2' ?_; intro v3 w3 ht3; have HU3 := hidE (HU2.out.trans ht3); obtain ⟨y0, y1, y2, y3, y4, y5⟩ := boxes HU3.out hok hqz) | (at_builtin; refine append_text w3 rfl _ _ rfl base _ v3 _ rfl HU3.out.own ⟨#[58, 32]⟩ rfl (by decide) (by have := HLEN.out; simp only [List.length_append, List.length_cons, List.length_nil, hnl]; show _ + 2 ≤ _; omega) (by have := HU3.out.grown.size; omega) ?_; intro v4 w4 ht4; obtain ⟨y0, y1, y2, y3, y4, y5⟩ := boxes (HU3.out.trans ht4) hok hqz))
          have HU4 : Hid (Told base (n + A.length) (xs ++ byteCells A) r WA (([44, 32] : List UInt8) ++ (vnameB y).data.toList ++ [58, 32]) v4 w4) := HU3.out.trans ht4
          clear ht3 ht4
          have hbl : Below base w w4 := hbz.trans (HU4.out.below hok hsz2)
          have hol := HU4.out.own
          refine (HIHT.out base _ v4 _ _ w4 hol (by have := HU4.out.grown.size; omega) (hlz.below (HU4.out.below hok hsz2)) (HTB.out.on hbl) (by have := HLEN.out; simp only [List.length_append, List.length_cons, List.length_nil, told_len]; omega)).mono ?_
          rintro e w9 ⟨v9, rfl, ht9⟩
          have HT9 : Hid (Told base (n + A.length) (xs ++ byteCells A) r WA ((([44, 32] : List UInt8) ++ (vnameB y).data.toList ++ [58, 32]) ++ tellG (.mk p0 p1 p2 p3 p4 p5)) v9 w9) := HU4.out.trans ht9
          clear hol hbl
          clear ht9
          go_wp2_with fail
          go_roundw
          case rel =>
            refine ⟨j + 1, by omega, by go_num, ?_⟩
            rw [HPC.out, HPB.out]
            have h9 := HTA.out.trans HT9.out
            simpa only [List.nil_append, List.append_assoc] using h9
          case measure => simp [RowKit.intOf]; omega
        · have hkk : (k == 5) = false := by simp [hk5]
          have hpb : pieceG (decide (k = 5)) ks j (.mk p0 p1 p2 p3 p4 p5) = [44, 32] ++ (tellG (.mk p0 p1 p2 p3 p4 p5)) := by simp [pieceG, hj0, hk5]
          have hlen := HLE.out
          rw [hpb] at hlen
          try simp only [List.length_append, List.length_cons, List.length_nil, told_len] at hlen
          have HPB := hidE hpb
          have HJ0 := hidE hj0
          clear hpb hj0
          obtain ⟨hok, hsz2, hlz, hbz, hqz, hbxz⟩ := HA.out
          have hz : (0 : Int) < (j : Int) := by have := HJ0.out; omega
          have HLEN := hidE hlen
          have HK5 := hidE hk5
          clear hlen hk5
          go_wp2_with (at_builtin; rw [HWA.out]; refine append_text WA rfl _ _ rfl base (n + A.length) r (xs ++ byteCells A) rfl hok ⟨#[44, 32]⟩ rfl (by decide) (by have := HLEN.out; show n + A.length + 2 ≤ _; omega) hsz2 ?_; intro v1 w1 ht1; obtain ⟨y0, y1, y2, y3, y4, y5⟩ := boxes ht1 hok hqz; obtain ⟨x0, x1, x2, x3, x4, x5⟩ := boxes ht1 hok hbxz)
          have HU1 : Hid (Told base (n + A.length) (xs ++ byteCells A) r WA [44, 32] v1 w1) := ht1
          have hbl : Below base w w1 := hbz.trans (HU1.out.below hok hsz2)
          have hol := HU1.out.own
          refine (HIHT.out base _ v1 _ _ w1 hol (by have := HU1.out.grown.size; omega) (hlz.below (HU1.out.below hok hsz2)) (HTB.out.on hbl) (by have := HLEN.out; simp only [List.length_append, List.length_cons, List.length_nil, told_len]; omega)).mono ?_
          rintro e w9 ⟨v9, rfl, ht9⟩
          have HT9 : Hid (Told base (n + A.length) (xs ++ byteCells A) r WA (([44, 32] : List UInt8) ++ tellG (.mk p0 p1 p2 p3 p4 p5)) v9 w9) := HU1.out.trans ht9
          clear hol hbl
          clear ht9
          go_wp2_with fail
          go_roundw
          case rel =>
            refine ⟨j + 1, by omega, by go_num, ?_⟩
            rw [HPC.out, HPB.out]
            have h9 := HTA.out.trans HT9.out
            simpa only [List.nil_append, List.append_assoc] using h9
          case measure => simp [RowKit.intOf]; omega
    · obtain ⟨hb1, hq1, hown1, hB1⟩ := HX.out
      have HF : Hid (Told base n xs v w (tellAllG (decide (k = 5)) ks 0 ts) r wr) := by
        rw [List.take_of_length_le (by omega)] at htd
        exact htd.from hb1
      clear htd hb1 hq1 hown1 hB1
      go_wp2_with fail
      go_ret
      exact ⟨_, rfl, HF.out⟩
end Go.Proofs.YthfilnflgahcjaaGreatDoor

