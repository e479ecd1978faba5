/- Bytes and texts, told. DERIVED: THE SHELF's CONTRACTS AT THIS DUMP, IN PLAIN WORDS (tools/lay-plain.mjs out of 'TryzShelf.lean', which tools/lay-shelf.mjs wrote): THE SAME DECLARATIONS UNDER THE SAME NAMES: 'import', 'namespace', 'open', 'def', 'theorem' AND NOTHING ELSE: no command of the shelf's: FOR A HAND-IN. Each laying: the table of numbers ('.._ren') and one theorem, a field a fact of the dump's own or the kernel's comparison; each contract: ONE APPLICATION. Keys, told, whatever signs are in them. -/
import Derived.Test.YtbpmhgcjefpigaaGreatDoorEsc10
import Derived.Shelf.Strings.Builder1
import Derived.Shelf.Strings.Builder2
import Derived.Shelf.LaysM
import Derived.Shelf.Strconv.Itoa3
import Derived.Shelf.Strconv.Itoa4
import Derived.Shelf.Strings.Replace
import Derived.Test.YtbpmhgcjefpigaaGreatDoorProg
import Derived.Test.YtbpmhgcjefpigaaGreatDoorJoin15
import Derived.Test.YtbpmhgcjefpigaaGreatDoorJoin13
import Derived.Lib.SplitLaws
namespace Go.Proofs.YtbpmhgcjefpigaaGreatDoor
open Go.RowKit Go.Shelf Go.Lib
set_option linter.unusedVariables false
set_option linter.unusedSimpArgs false
def escB (c : UInt8) : List UInt8 :=
 if c = 39 ∨ c = 92 then [92, c] else if c = 10 then [92, 110] else if c = 9 then [92, 116] else if c = 13 then [92, 114] else if c < 32 ∨ c = 127 then [92, 117, 48, 48, hexB (c.toNat / 16), hexB (c.toNat % 16)] else [c]
theorem escB_len (c : UInt8) : 1 ≤ (escB c).length ∧ (escB c).length ≤ 6 := by
 unfold escB
 split
 ·simp
 ·split
  ·simp
  ·split
   ·simp
   ·split
    ·simp
    ·split <;> simp
def escAll (l : List UInt8) : List UInt8 := (l.map escB).flatten
theorem escAll_snoc (l : List UInt8) (c : UInt8) : escAll (l ++ [c]) = escAll l ++ escB c := by simp [escAll]
theorem escAll_len (l : List UInt8) : (escAll l).length ≤ 6 * l.length := by
 induction l with
 | nil => simp [escAll]
 | cons c r ih =>
  have := (escB_len c).2
  simp only [escAll, List.map_cons, List.flatten_cons, List.length_append, List.length_cons] at ih ⊢
  omega
def quoteB (s : ByteArray) : List UInt8 := [39] ++ escAll s.data.toList ++ [39]
theorem u8_eq {c : UInt8} {k : Nat} (hk : k < 256) (h : c.toNat = k) : c = UInt8.ofNat k := by
 rw [← h]; simp
set_option maxRecDepth 100000 in
set_option maxHeartbeats 4000000 in
theorem escape_any (c : UInt8) (base n : Nat) (v : Value) (xs : List Value) (w : World) (hown : w.ownsRow base 5 1 v n xs) (hB : base ≤ w.heap.size) (hn : n ≤ 100000000000) :
  Calls Tryz.prog 105 #[v, .int .u8 (c.toNat : Int)] w fun e w' => ∃ v', e = .returned v' ∧ Told base n xs v w (escB c) v' w' := by
 obtain ⟨m, hm⟩ : ∃ m, c.toNat = m := ⟨_, rfl⟩
 have hm256 : m < 256 := by rw [← hm]; exact c.toNat_lt
 rw [hm]
 have HM := hidE hm
 have HO := hidE hown
 go_enter Tryz.func105, Tryz.ntmps105
 by_cases h1 : m = 39 ∨ m = 92
 ·have HE : Hid (escB c = [92, c]) := by
   show _ = _
   have : c = 39 ∨ c = 92 := h1.imp (fun h => u8_eq (by omega) (hm.trans h)) (fun h => u8_eq (by omega) (hm.trans h))
   unfold escB; rw [if_pos this]
  obtain ⟨W1, hW1⟩ : ∃ W1, w.alloc (.cells #[.int .u8 92, .int .u8 (m : Int)] 5) = W1 := ⟨_, rfl⟩
  have hb1 : Below w.heap.size w W1 := hW1 ▸ (Below.refl _ _).alloc (Nat.le_refl _) _
  have hown1 := own_below hown hb1
  have hB1 : base ≤ W1.heap.size := Nat.le_trans hB hb1.size
  have hc1 : ∀ j u, (byteCells [92, c])[j]? = some u → W1.cell? ((⟨w.heap.size, 0, none⟩ : Addr).add j) = some u := fun j u hj => by
   rw [← hW1, Lib.add_plain, Nat.zero_add]
   refine cell_new _ _ _ _ _ ?_
   simpa [byteCells, hm] using hj
  have HB1 := hidE hb1
  have HW1 := hidE hW1
  clear hW1 hb1 hm hown
  by_cases h39 : m = 39
  ·have g39 : ((m : Int) == 39) = true := by simp; omega
   clear h1 h39
   go_wp2_with (at_builtin; rw [HW1.out]; refine append_row W1 rfl _ _ rfl base n v xs rfl hown1 ⟨w.heap.size, 0, none⟩ 2 2 [92, c] rfl rfl hc1 (by omega) hB1 ?_; intro v1 w1 ht)
   have HT : Hid (Told base n xs v w (escB c) v1 w1) := by show Told _ _ _ _ _ _ _ _; rw [HE.out]; exact ht.from HB1.out
   clear ht
   go_ret
   exact ⟨_, rfl, HT.out⟩
  ·have g39 : ((m : Int) == 39) = false := by simp; omega
   have g92 : ((m : Int) == 92) = true := by simp; omega
   clear h1 h39
   go_wp2_with (at_builtin; rw [HW1.out]; refine append_row W1 rfl _ _ rfl base n v xs rfl hown1 ⟨w.heap.size, 0, none⟩ 2 2 [92, c] rfl rfl hc1 (by omega) hB1 ?_; intro v1 w1 ht)
   have HT : Hid (Told base n xs v w (escB c) v1 w1) := by show Told _ _ _ _ _ _ _ _; rw [HE.out]; exact ht.from HB1.out
   clear ht
   go_ret
   exact ⟨_, rfl, HT.out⟩
 have g39 : ((m : Int) == 39) = false := by simp; omega
 have g92 : ((m : Int) == 92) = false := by simp; omega
 have hn1 : ¬ (c = 39 ∨ c = 92) := fun h => h1 (h.imp (fun e => by rw [← hm, e]; rfl) (fun e => by rw [← hm, e]; rfl))
 by_cases h2 : m = 10
 ·have HE : Hid (escB c = [92, 110]) := by
   show _ = _
   unfold escB; rw [if_neg hn1, if_pos (show c = 10 from u8_eq (k := 10) (by decide) (hm.trans h2))]
  subst h2
  go_wp2_with (at_builtin; refine append_text w rfl _ _ rfl base n v xs rfl hown ⟨#[92, 110]⟩ rfl (by decide) (by show n + 2 ≤ _; omega) hB ?_; intro v1 w1 ht)
  have HT : Hid (Told base n xs v w (escB c) v1 w1) := by show Told _ _ _ _ _ _ _ _; rw [HE.out]; exact ht
  clear ht
  go_ret
  exact ⟨_, rfl, HT.out⟩
 have g10 : ((m : Int) == 10) = false := by simp; omega
 have hn2 : ¬ c = 10 := fun h => h2 (by rw [← hm, h]; rfl)
 by_cases h3 : m = 9
 ·have HE : Hid (escB c = [92, 116]) := by
   show _ = _
   unfold escB; rw [if_neg hn1, if_neg hn2, if_pos (show c = 9 from u8_eq (k := 9) (by decide) (hm.trans h3))]
  subst h3
  go_wp2_with (at_builtin; refine append_text w rfl _ _ rfl base n v xs rfl hown ⟨#[92, 116]⟩ rfl (by decide) (by show n + 2 ≤ _; omega) hB ?_; intro v1 w1 ht)
  have HT : Hid (Told base n xs v w (escB c) v1 w1) := by show Told _ _ _ _ _ _ _ _; rw [HE.out]; exact ht
  clear ht
  go_ret
  exact ⟨_, rfl, HT.out⟩
 have g9 : ((m : Int) == 9) = false := by simp; omega
 have hn3 : ¬ c = 9 := fun h => h3 (by rw [← hm, h]; rfl)
 by_cases h4 : m = 13
 ·have HE : Hid (escB c = [92, 114]) := by
   show _ = _
   unfold escB; rw [if_neg hn1, if_neg hn2, if_neg hn3, if_pos (show c = 13 from u8_eq (k := 13) (by decide) (hm.trans h4))]
  subst h4
  go_wp2_with (at_builtin; refine append_text w rfl _ _ rfl base n v xs rfl hown ⟨#[92, 114]⟩ rfl (by decide) (by show n + 2 ≤ _; omega) hB ?_; intro v1 w1 ht)
  have HT : Hid (Told base n xs v w (escB c) v1 w1) := by show Told _ _ _ _ _ _ _ _; rw [HE.out]; exact ht
  clear ht
  go_ret
  exact ⟨_, rfl, HT.out⟩
 have g13 : ((m : Int) == 13) = false := by simp; omega
 have hn4 : ¬ c = 13 := fun h => h4 (by rw [← hm, h]; rfl)
 by_cases h5 : m < 32 ∨ m = 127
 ·have HE : Hid (escB c = [92, 117, 48, 48, hexB (m / 16), hexB (m % 16)]) := by
   show _ = _
   have : c < 32 ∨ c = 127 := h5.imp (fun h => UInt8.lt_iff_toNat_lt.2 (by rw [hm]; exact h)) (fun h => u8_eq (by omega) (hm.trans h))
   unfold escB; rw [if_neg hn1, if_neg hn2, if_neg hn3, if_neg hn4, if_pos this, hm]
  have h128 : m < 128 := by omega
  clear hn1 hn2 hn3 hn4 h1 h2 h3 h4
  have hc5 : (decide ((m : Int) < 32) || ((m : Int) == 127)) = true := by
   rcases h5 with h | h
   ·simp; omega
   ·simp; omega
  rcases h5 with h | h
  ·have g32 : (m : Int) < 32 := by omega
   go_upto_region 10 with fail
   show (Code.region 10 RE10 true).wp _ _ _ _
   refine regionE10 base n m v xs w _ _ ⟨rfl, rfl, rfl⟩ ⟨HO.out, hB, hn, h128⟩ ?_
   intro a w1 hS ht
   have HT : Hid (Told base n xs v w (escB c) (a.eval (.tmp 4)) w1) := by show Told _ _ _ _ _ _ _ _; rw [HE.out]; exact ht
   have hl : a = ⟨#[v, Value.int IntKind.u8 ↑m, undef, undef, a.eval (.tmp 4), Value.bool false, Value.int IntKind.u8 ↑m, Value.bool false, Value.bool false, Value.int IntKind.u8 ↑m, Value.bool false, Value.bool false, undef, undef, undef, undef, Value.bool false, Value.int IntKind.u8 ↑m, Value.bool false, undef, undef, Value.bool false, Value.int IntKind.u8 ↑m, Value.bool false, undef, undef, Value.bool false, Value.int IntKind.u8 ↑m, Value.bool false, undef, undef, Value.bool true, Value.int IntKind.u8 ↑m, Value.bool true, Value.bool true, undef, undef, Value.bool true, a.eval (.tmp 38), a.eval (.tmp 39), a.eval (.tmp 40), a.eval (.tmp 41), a.eval (.tmp 42), a.eval (.tmp 43), a.eval (.tmp 44), a.eval (.tmp 45), a.eval (.tmp 46), a.eval (.tmp 47), undef, undef, undef, undef], []⟩ := (same_lay hS).trans (by kernel_rfl)
   generalize a.eval (.tmp 4) = v1 at hl HT
   generalize a.eval (.tmp 38) = z38 at hl
   generalize a.eval (.tmp 39) = z39 at hl
   generalize a.eval (.tmp 40) = z40 at hl
   generalize a.eval (.tmp 41) = z41 at hl
   generalize a.eval (.tmp 42) = z42 at hl
   generalize a.eval (.tmp 43) = z43 at hl
   generalize a.eval (.tmp 44) = z44 at hl
   generalize a.eval (.tmp 45) = z45 at hl
   generalize a.eval (.tmp 46) = z46 at hl
   generalize a.eval (.tmp 47) = z47 at hl
   clear hS ht
   subst hl
   go_wp2_with fail
   go_ret
   exact ⟨_, rfl, HT.out⟩
  ·have g32 : ¬ (m : Int) < 32 := by omega
   have g127 : ((m : Int) == 127) = true := by simp; omega
   go_upto_region 10 with fail
   show (Code.region 10 RE10 true).wp _ _ _ _
   refine regionE10 base n m v xs w _ _ ⟨rfl, rfl, rfl⟩ ⟨HO.out, hB, hn, h128⟩ ?_
   intro a w1 hS ht
   have HT : Hid (Told base n xs v w (escB c) (a.eval (.tmp 4)) w1) := by show Told _ _ _ _ _ _ _ _; rw [HE.out]; exact ht
   have hl : a = ⟨#[v, Value.int IntKind.u8 ↑m, undef, undef, a.eval (.tmp 4), Value.bool false, Value.int IntKind.u8 ↑m, Value.bool false, Value.bool false, Value.int IntKind.u8 ↑m, Value.bool false, Value.bool false, undef, undef, undef, undef, Value.bool false, Value.int IntKind.u8 ↑m, Value.bool false, undef, undef, Value.bool false, Value.int IntKind.u8 ↑m, Value.bool false, undef, undef, Value.bool false, Value.int IntKind.u8 ↑m, Value.bool false, undef, undef, Value.bool true, Value.int IntKind.u8 ↑m, Value.bool false, Value.bool false, Value.int IntKind.u8 ↑m, Value.bool true, Value.bool true, a.eval (.tmp 38), a.eval (.tmp 39), a.eval (.tmp 40), a.eval (.tmp 41), a.eval (.tmp 42), a.eval (.tmp 43), a.eval (.tmp 44), a.eval (.tmp 45), a.eval (.tmp 46), a.eval (.tmp 47), undef, undef, undef, undef], []⟩ := (same_lay hS).trans (by kernel_rfl)
   generalize a.eval (.tmp 4) = v1 at hl HT
   generalize a.eval (.tmp 38) = z38 at hl
   generalize a.eval (.tmp 39) = z39 at hl
   generalize a.eval (.tmp 40) = z40 at hl
   generalize a.eval (.tmp 41) = z41 at hl
   generalize a.eval (.tmp 42) = z42 at hl
   generalize a.eval (.tmp 43) = z43 at hl
   generalize a.eval (.tmp 44) = z44 at hl
   generalize a.eval (.tmp 45) = z45 at hl
   generalize a.eval (.tmp 46) = z46 at hl
   generalize a.eval (.tmp 47) = z47 at hl
   clear hS ht
   subst hl
   go_wp2_with fail
   go_ret
   exact ⟨_, rfl, HT.out⟩
 ·have HE : Hid (escB c = [c]) := by
   show _ = _
   have : ¬ (c < 32 ∨ c = 127) := fun h => h5 (h.imp (fun e => by rw [← hm]; exact UInt8.lt_iff_toNat_lt.1 e) (fun e => by rw [← hm, e]; rfl))
   unfold escB; rw [if_neg hn1, if_neg hn2, if_neg hn3, if_neg hn4, if_neg this]
  have g32 : ¬ (m : Int) < 32 := by omega
  have g127 : ((m : Int) == 127) = false := by simp; omega
  obtain ⟨W1, hW1⟩ : ∃ W1, w.alloc (.cells #[.int .u8 (m : Int)] 5) = W1 := ⟨_, rfl⟩
  have hb1 : Below w.heap.size w W1 := hW1 ▸ (Below.refl _ _).alloc (Nat.le_refl _) _
  have hown1 := own_below hown hb1
  have hB1 : base ≤ W1.heap.size := Nat.le_trans hB hb1.size
  have hc1 : ∀ j u, (byteCells [c])[j]? = some u → W1.cell? ((⟨w.heap.size, 0, none⟩ : Addr).add j) = some u := fun j u hj => by
   rw [← hW1, Lib.add_plain, Nat.zero_add]
   refine cell_new _ _ _ _ _ ?_
   simpa [byteCells, hm] using hj
  have HB1 := hidE hb1
  have HW1 := hidE hW1
  clear hW1 hb1 hm hown h1 h2 h3 h4 h5 hn1 hn2 hn3 hn4
  go_wp2_with (at_builtin; rw [HW1.out]; refine append_row W1 rfl _ _ rfl base n v xs rfl hown1 ⟨w.heap.size, 0, none⟩ 1 1 [c] rfl rfl hc1 (by omega) hB1 ?_; intro v1 w1 ht)
  have HT : Hid (Told base n xs v w (escB c) v1 w1) := by show Told _ _ _ _ _ _ _ _; rw [HE.out]; exact ht.from HB1.out
  clear ht
  go_ret
  exact ⟨_, rfl, HT.out⟩
theorem at_byte (s : ByteArray) (j : Nat) (h : j < s.size) : s.data.toList[j]? = some s[j] := by
 rw [List.getElem?_eq_getElem (by simpa using h)]
 rfl
set_option maxRecDepth 100000 in
set_option maxHeartbeats 4000000 in
theorem quote_any (s : ByteArray) (hs : s.size ≤ 10000000000) (base n : Nat) (v : Value) (xs : List Value) (w : World) (hown : w.ownsRow base 5 1 v n xs) (hB : base ≤ w.heap.size) (hn : n ≤ 10000000000) :
  Calls Tryz.prog 82 #[v, .string s] w fun e w' => ∃ v', e = .returned v' ∧ Told base n xs v w (quoteB s) v' w' := by
 obtain ⟨W1, hW1⟩ : ∃ W1, w.alloc (.cells #[.int .u8 39] 5) = W1 := ⟨_, rfl⟩
 have hb1 : Below w.heap.size w W1 := hW1 ▸ (Below.refl _ _).alloc (Nat.le_refl _) _
 have hown1 := own_below hown hb1
 have hB1 : base ≤ W1.heap.size := Nat.le_trans hB hb1.size
 have hc1 : ∀ j u, (byteCells [39])[j]? = some u → W1.cell? ((⟨w.heap.size, 0, none⟩ : Addr).add j) = some u := fun j u hj => by
  rw [← hW1]; exact cell_one_new w (.int .u8 39) 5 j u hj
 have HB1 := hidE hb1
 have HW1 := hidE hW1
 have HO := hidE hown
 clear hW1 hb1 hown
 go_enter Tryz.func82, Tryz.ntmps82
 go_wp2_with (at_builtin; rw [HW1.out]; refine append_row W1 rfl _ _ rfl base n v xs rfl hown1 ⟨w.heap.size, 0, none⟩ 1 1 [39] rfl rfl hc1 (by omega) hB1 ?_; intro v1 w1 ht)
 have HT1 : Hid (Told base n xs v w [39] v1 w1) := ht.from HB1.out
 clear ht hown1 hc1 HW1 HB1
 go_loopw [11, 0] (fun i r wr => ∃ j : Nat, j ≤ s.size ∧ i = .int .i64 j ∧ Told base n xs v w ([39] ++ escAll (s.data.toList.take j)) r wr) (fun i _ _ => s.size - (intOf i).toNat)
 case atStart => exact ⟨0, Nat.zero_le _, rfl, by simpa [escAll] using HT1.out⟩
 case round =>
  obtain ⟨j, hj, rfl, htr⟩ := hrel
  have HTR := hidE htr
  have hlen : ([39] ++ escAll (s.data.toList.take j)).length ≤ 6 * s.size + 1 := by
   have h1 := escAll_len (s.data.toList.take j)
   have h2 : (s.data.toList.take j).length ≤ s.size := by rw [List.length_take]; show min j s.size ≤ _; omega
   simp only [List.length_append, List.length_cons, List.length_nil]
   omega
  have hBr : base ≤ wr.heap.size := Nat.le_trans hB htr.grown.size
  by_cases hlt : j < s.size
  ·have HC := hidE (escape_any s[j] base _ u0 _ wr htr.own hBr (by omega))
   have HAT := hidE (at_byte s j hlt)
   clear htr HT1
   have hji : (j : Int) < s.size := by omega
   go_wp2_with fail
   refine HC.out.mono ?_
   rintro e w2 ⟨v2, rfl, ht2⟩
   have HT2 : Hid (Told base n xs v w ([39] ++ escAll (s.data.toList.take (j + 1))) v2 w2) := by
    show Told _ _ _ _ _ _ _ _
    rw [List.take_add_one, HAT.out]
    show Told _ _ _ _ _ ([39] ++ escAll (_ ++ [s[j]])) _ _
    rw [escAll_snoc, ← List.append_assoc]
    exact HTR.out.trans ht2
   clear ht2 HC HTR
   go_wp2_with fail
   go_roundw
   case rel => exact ⟨j + 1, by omega, by go_num, HT2.out⟩
   case measure => simp [intOf]; omega
  ·have hji : ¬ (j : Int) < s.size := by omega
   obtain ⟨W3, hW3⟩ : ∃ W3, wr.alloc (.cells #[.int .u8 39] 5) = W3 := ⟨_, rfl⟩
   have hb3 : Below wr.heap.size wr W3 := hW3 ▸ (Below.refl _ _).alloc (Nat.le_refl _) _
   have hown3 := own_below htr.own hb3
   have hB3 : base ≤ W3.heap.size := Nat.le_trans hBr hb3.size
   have hc3 : ∀ j u, (byteCells [39])[j]? = some u → W3.cell? ((⟨wr.heap.size, 0, none⟩ : Addr).add j) = some u := fun j u hj => by
    rw [← hW3]; exact cell_one_new wr (.int .u8 39) 5 j u hj
   have HB3 := hidE hb3
   have HW3 := hidE hW3
   have HQ : Hid (quoteB s = ([39] ++ escAll (s.data.toList.take j)) ++ [39]) := by
    show _ = _
    rw [List.take_of_length_le (by show s.size ≤ j; omega)]; rfl
   clear hW3 hb3 htr HT1
   go_wp2_with (at_builtin; rw [HW3.out]; refine append_row W3 rfl _ _ rfl base _ u0 _ rfl hown3 ⟨wr.heap.size, 0, none⟩ 1 1 [39] rfl rfl hc3 (by omega) hB3 ?_; intro v4 w4 ht4)
   have HT4 : Hid (Told base n xs v w (quoteB s) v4 w4) := by
    show Told _ _ _ _ _ _ _ _
    rw [HQ.out]
    exact HTR.out.trans (ht4.from HB3.out)
   clear ht4
   go_ret
   exact ⟨_, rfl, HT4.out⟩
end Go.Proofs.YtbpmhgcjefpigaaGreatDoor

namespace Go.Proofs
open Go.Shelf
def Tryz.lays155_ren : Go.Shelf.Ren := ⟨fun | 155 => 84 | 154 => 107 | 138 => 122 | 165 => 123 | 143 => 124 | 166 => 125 | 197 => 126 | 169 => 127 | 195 => 145 | 218 => 146 | 240 => 147 | 241 => 148 | 219 => 149 | 260 => 150 | 276 => 166 | 277 => 167 | 217 => 168 | 225 => 169 | 224 => 170 | 267 => 171 | 266 => 176 | 314 => 177 | n => n, fun | 9 => 9 | 3 => 3 | 4 => 4 | 72 => 126 | 0 => 0 | 76 => 130 | 105 => 132 | 21 => 21 | 5 => 5 | 70 => 124 | 20 => 20 | 37 => 67 | 75 => 129 | 127 => 153 | 164 => 165 | 46 => 107 | 119 => 103 | 139 => 106 | 138 => 105 | 146 => 174 | 51 => 144 | 80 => 134 | n => n, fun | 1 => 2 | 3 => 0 | 4 => 1 | n => n⟩
theorem Tryz.lays155 : Go.Proofs.Lays.n155 Tryz.prog Tryz.lays155_ren := {
 mixed := by kernel_rfl
 f138 := Tryz.func122.trans (congrArg some (by kernel_rfl))
 f143 := Tryz.func124.trans (congrArg some (by kernel_rfl))
 f154 := Tryz.func107.trans (congrArg some (by kernel_rfl))
 f155 := Tryz.func84.trans (congrArg some (by kernel_rfl))
 f165 := Tryz.func123.trans (congrArg some (by kernel_rfl))
 f166 := Tryz.func125.trans (congrArg some (by kernel_rfl))
 f169 := Tryz.func127.trans (congrArg some (by kernel_rfl))
 f195 := Tryz.func145.trans (congrArg some (by kernel_rfl))
 f197 := Tryz.func126.trans (congrArg some (by kernel_rfl))
 f217 := Tryz.func168.trans (congrArg some (by kernel_rfl))
 f218 := Tryz.func146.trans (congrArg some (by kernel_rfl))
 f219 := Tryz.func149.trans (congrArg some (by kernel_rfl))
 f224 := Tryz.func170.trans (congrArg some (by kernel_rfl))
 f225 := Tryz.func169.trans (congrArg some (by kernel_rfl))
 f240 := Tryz.func147.trans (congrArg some (by kernel_rfl))
 f241 := Tryz.func148.trans (congrArg some (by kernel_rfl))
 f260 := Tryz.func150.trans (congrArg some (by kernel_rfl))
 f266 := Tryz.func176.trans (congrArg some (by kernel_rfl))
 f267 := Tryz.func171.trans (congrArg some (by kernel_rfl))
 f276 := Tryz.func166.trans (congrArg some (by kernel_rfl))
 f277 := Tryz.func167.trans (congrArg some (by kernel_rfl))
 f314 := Tryz.func177.trans (congrArg some (by kernel_rfl))
 t0 := Tryz.underlying0
 a0 := Tryz.isAgg0
 z0 := Tryz.sizeOf0
 v0 := Tryz.zeroValue0
 t3 := Tryz.underlying3
 a3 := Tryz.isAgg3
 z3 := Tryz.sizeOf3
 v3 := Tryz.zeroValue3
 t4 := Tryz.underlying4
 a4 := Tryz.isAgg4
 z4 := Tryz.sizeOf4
 v4 := Tryz.zeroValue4
 t5 := Tryz.underlying5
 a5 := Tryz.isAgg5
 z5 := Tryz.sizeOf5
 v5 := Tryz.zeroValue5
 t9 := Tryz.underlying9
 a9 := Tryz.isAgg9
 z9 := Tryz.sizeOf9
 v9 := Tryz.zeroValue9
 t20 := Tryz.underlying20
 a20 := Tryz.isAgg20
 z20 := Tryz.sizeOf20
 v20 := Tryz.zeroValue20
 t21 := Tryz.underlying21
 a21 := Tryz.isAgg21
 z21 := Tryz.sizeOf21
 v21 := Tryz.zeroValue21
 t37 := Tryz.underlying67
 a37 := Tryz.isAgg67
 z37 := Tryz.sizeOf67
 v37 := Tryz.zeroValue67
 t46 := Tryz.underlying107
 a46 := Tryz.isAgg107
 z46 := Tryz.sizeOf107
 v46 := Tryz.zeroValue107
 t51 := Tryz.underlying144
 a51 := Tryz.isAgg144
 z51 := Tryz.sizeOf144
 v51 := Tryz.zeroValue144
 t70 := Tryz.underlying124
 a70 := Tryz.isAgg124
 z70 := Tryz.sizeOf124
 v70 := Tryz.zeroValue124
 t72 := Tryz.underlying126
 a72 := Tryz.isAgg126
 z72 := Tryz.sizeOf126
 v72 := Tryz.zeroValue126
 t75 := Tryz.underlying129
 a75 := Tryz.isAgg129
 z75 := Tryz.sizeOf129
 v75 := Tryz.zeroValue129
 t76 := Tryz.underlying130
 a76 := Tryz.isAgg130
 z76 := Tryz.sizeOf130
 v76 := Tryz.zeroValue130
 t105 := Tryz.underlying132
 a105 := Tryz.isAgg132
 z105 := Tryz.sizeOf132
 v105 := Tryz.zeroValue132
 t119 := Tryz.underlying103
 a119 := Tryz.isAgg103
 z119 := Tryz.sizeOf103
 t127 := Tryz.underlying153
 a127 := Tryz.isAgg153
 z127 := Tryz.sizeOf153
 v127 := Tryz.zeroValue153
 t138 := Tryz.underlying105
 a138 := Tryz.isAgg105
 z138 := Tryz.sizeOf105
 v138 := Tryz.zeroValue105
 t139 := Tryz.underlying106
 a139 := Tryz.isAgg106
 z139 := Tryz.sizeOf106
 v139 := Tryz.zeroValue106
 t146 := Tryz.underlying174
 a146 := Tryz.isAgg174
 z146 := Tryz.sizeOf174
 v146 := Tryz.zeroValue174
 t164 := Tryz.underlying165
 a164 := Tryz.isAgg165
 z164 := Tryz.sizeOf165
 v164 := Tryz.zeroValue165
 g1 := by kernel_rfl
 g3 := by kernel_rfl
 g4 := by kernel_rfl }
theorem Tryz.Builder_Extra_155 : Builder.Extra Tryz.prog Tryz.lays155_ren := {
 sizeBuilder := by kernel_rfl
 liesBuilder := by kernel_rfl
 t5 := Tryz.underlying5
 a5 := Tryz.isAgg5
 z5 := Tryz.sizeOf5
 v5 := Tryz.zeroValue5
 infoByte := by kernel_rfl
 cellsByte := by kernel_rfl
 sizeByte := by kernel_rfl
 neB5 := by decide }
open Go.RowKit Go.Lib in
theorem Tryz.strings_ReplaceAll (s old new : ByteArray) (m : Int) (w : World) (hs : s.size < 4294967281) (hm : w.cell? ⟨2, 0, none⟩ = some (.int .i64 m)) (h1 : 1 ≤ old.size) (hlen : s.size + Lib.countB s old * new.size ≤ 140737488355328) :
  Calls Tryz.prog 84 #[.string s, .string old, .string new] w fun e w' =>
   e = .returned (.string ⟨(Lib.replaceAll s.data.toList old.data.toList new.data.toList).toArray⟩) ∧ Below w.heap.size w w' := Any.strings_ReplaceAll Tryz.lays155 Tryz.Builder_Extra_155 s old new m w hs hm h1 hlen
end Go.Proofs

namespace Go.Proofs.YtbpmhgcjefpigaaGreatDoor
open Go.RowKit Go.Shelf Go.Lib
set_option linter.unusedVariables false
def dblB (l : List UInt8) : List UInt8 := (l.map fun c => if c = 96 then [96, 96] else [c]).flatten
theorem dblB_cons (c : UInt8) (l : List UInt8) : dblB (c :: l) = (if c = 96 then [96, 96] else [c]) ++ dblB l := by simp [dblB]
theorem dblB_len (l : List UInt8) : (dblB l).length ≤ 2 * l.length := by
 induction l with
 | nil => simp [dblB]
 | cons c r ih =>
  rw [dblB_cons]
  simp only [List.length_append, List.length_cons]
  split <;> simp <;> omega
theorem index_hit (l : List UInt8) : index (96 :: l) [96] = 0 := by
 rw [index, if_pos]; simp
theorem index_pass {c : UInt8} (h : c ≠ 96) (l : List UInt8) : index (c :: l) [96] = if index l [96] == -1 then -1 else index l [96] + 1 := by
 rw [index, if_neg]
 simp
 exact fun e => h e.symm
theorem replaceK_pass {c : UInt8} (h : c ≠ 96) (l : List UInt8) : ∀ k, replaceK [96] [96, 96] k (c :: l) = c :: replaceK [96] [96, 96] k l
 | 0 => rfl
 | k + 1 => by
  rw [replaceK, replaceK, index_pass h]
  by_cases e : index l [96] = -1
  ·simp [e]
  ·have hge := index_ge l [96]
   have e' : (index l [96] == -1) = false := by simpa using e
   obtain ⟨i, hi⟩ : ∃ i : Nat, index l [96] = i := ⟨(index l [96]).toNat, by omega⟩
   rw [hi] at e' ⊢
   have e2 : (((i : Int) + 1 == -1)) = false := by simp; omega
   rw [e']
   simp only [Bool.false_eq_true, if_false, e2]
   rw [show ((i : Int) + 1).toNat = i + 1 from by omega, Int.toNat_natCast]
   rfl
theorem replace_dbl : ∀ l : List UInt8, replaceK [96] [96, 96] (count l [96]) l = dblB l
 | [] => by rw [show count [] [96] = 0 from rfl]; rfl
 | c :: l => by
  by_cases h : c = 96
  ·subst h
   rw [count_cons_eq, Nat.add_comm, replaceK, index_hit, dblB_cons, if_pos rfl]
   have e : ((0 : Int) == -1) = false := rfl
   rw [e]
   simp only [Bool.false_eq_true, if_false]
   show [] ++ [96, 96] ++ replaceK [96] [96, 96] (count l [96]) l = _
   rw [replace_dbl l]; rfl
  ·rw [count_cons_ne c 96 l h, replaceK_pass h, replace_dbl l, dblB_cons, if_neg h]; rfl
theorem replaceAll_dbl (l : List UInt8) : replaceAll l [96] [96, 96] = dblB l := by
 unfold replaceAll replace replaceNum
 rw [if_neg (by decide), if_pos (.inl (by decide))]
 exact replace_dbl l
def nameG (s : ByteArray) : ByteArray := if bareB s then s else ⟨#[96]⟩ ++ ⟨(dblB s.data.toList).toArray⟩ ++ ⟨#[96]⟩
theorem nameG_pos (s : ByteArray) : 0 < (nameG s).size := by
 unfold nameG
 by_cases h : bareB s = true
 ·rw [if_pos h]
  unfold bareB at h
  simp at h
  exact h.2
 ·rw [if_neg h]
  simp only [ByteArray.size_append]
  have : (⟨#[96]⟩ : ByteArray).size = 1 := rfl
  omega
theorem nameG_len (s : ByteArray) : (nameG s).size ≤ 2 * s.size + 2 := by
 unfold nameG
 split
 ·omega
 ·simp only [ByteArray.size_append]
  have h1 : (⟨#[96]⟩ : ByteArray).size = 1 := rfl
  have h2 : (⟨(dblB s.data.toList).toArray⟩ : ByteArray).size = (dblB s.data.toList).length := by simp [ByteArray.size]
  have h3 := dblB_len s.data.toList
  have h4 : s.data.toList.length = s.size := rfl
  omega
def ML (w : World) : Prop := ∃ m, w.cell? ⟨2, 0, none⟩ = some (.int .i64 m)
set_option maxHeartbeats 1000000 in
theorem name_anyG (s : ByteArray) (hs : s.size ≤ 1000000000) (hv : Lib.validD s.data.toList = true) (w : World) (hT : Tabs w) (hM : ML w) (h2 : 2 < w.heap.size) :
  Calls Tryz.prog 45 #[.string s] w fun e w' => e = .returned (.string (nameG s)) ∧ Below w.heap.size w w' := by
 have hs' : s.size ≤ maxLen := by unfold maxLen; omega
 obtain ⟨m, hm⟩ := hM
 have hcb := countB_mul_le ⟨#[96]⟩ (by decide) s.size s (Nat.le_refl _)
 have h1 : (⟨#[96]⟩ : ByteArray).size = 1 := rfl
 have h22 : (⟨#[96, 96]⟩ : ByteArray).size = 2 := rfl
 have HR : Hid (∀ w', Below w.heap.size w w' → Calls Tryz.prog 84 #[.string s, .string ⟨#[96]⟩, .string ⟨#[96, 96]⟩] w' fun e w2 => e = .returned (.string ⟨(dblB s.data.toList).toArray⟩) ∧ Below w'.heap.size w' w2) := fun w' hb => by
  have := Tryz.strings_ReplaceAll s ⟨#[96]⟩ ⟨#[96, 96]⟩ m w' (by omega) ((hb.cell (p := ⟨2, 0, none⟩) h2).trans hm) (by decide) (by rw [h22]; rw [h1] at hcb; omega)
  rw [show (⟨#[96]⟩ : ByteArray).data.toList = [96] from rfl, show (⟨#[96, 96]⟩ : ByteArray).data.toList = [96, 96] from rfl, replaceAll_dbl] at this
  exact this
 have HV := hidE (valid_any s w hs' hT)
 rw [hv] at HV
 obtain ⟨D, hD⟩ : ∃ D : ByteArray, (⟨(dblB s.data.toList).toArray⟩ : ByteArray) = D := ⟨_, rfl⟩
 have hDs : D.size ≤ 2000000000 := by
  rw [← hD]
  have a := dblB_len s.data.toList
  have b : s.data.toList.length = s.size := rfl
  have c : (⟨(dblB s.data.toList).toArray⟩ : ByteArray).size = (dblB s.data.toList).length := by simp [ByteArray.size]
  omega
 rw [hD] at HR
 have z1 : ¬ 9223372036854775807 < 1 + D.size := by omega
 have z2 : ¬ 9223372036854775807 < 1 + D.size + 1 := by omega
 have HD := hidE hD
 clear hD hcb hm hT h2 h1 h22
 go_enter Tryz.func45, Tryz.ntmps45
 go_wp2_with fail
 refine HV.out.mono ?_
 rintro e w1 ⟨rfl, hb⟩
 have HB := hidE hb
 have HC := hidE (bare_any s hs' w1)
 clear hb hs hs' HV
 go_wp2_with fail
 refine HC.out.mono ?_
 rintro e _ ⟨rfl, rfl⟩
 cases hb : bareB s with
 | true =>
  have HN : Hid (nameG s = s) := by show _ = _; unfold nameG; rw [if_pos hb]
  clear hb
  go_wp2_with fail
  go_ret
  exact ⟨by rw [HN.out]; rfl, HB.out⟩
 | false =>
  have HN : Hid (nameG s = ⟨#[96]⟩ ++ D ++ ⟨#[96]⟩) := by show _ = _; unfold nameG; rw [if_neg (by simp [hb]), HD.out]
  clear hb
  go_wp2_with fail
  refine (HR.out _ HB.out).mono ?_
  rintro e w3 ⟨rfl, hb3⟩
  have HB3 : Hid (Below w.heap.size w w3) := below_on HB.out hb3
  clear hb3
  go_wp2_with fail
  go_ret
  exact ⟨by rw [HN.out]; rfl, HB3.out⟩
end Go.Proofs.YtbpmhgcjefpigaaGreatDoor

