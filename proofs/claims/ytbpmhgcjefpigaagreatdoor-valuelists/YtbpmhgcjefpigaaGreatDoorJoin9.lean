/- The document's order of two values of one kind. The document's order of two maps. The document's order of values is the program's. The document's May: may a value be, however great? -/
import Derived.Test.YtbpmhgcjefpigaaGreatDoorJoin8
import Derived.Test.YtbpmhgcjefpigaaGreatDoorMay1
import Derived.Test.YtbpmhgcjefpigaaGreatDoorMay6
namespace Go.Proofs.YtbpmhgcjefpigaaGreatDoor
open Go.RowKit Go.Shelf
set_option linter.unusedVariables false
set_option maxRecDepth 100000 in
set_option maxHeartbeats 2000000 in
theorem refcmp_num (k : Int) (x : Bool) (n : Int) (s : ByteArray) (ka : Option Addr) (kl kc : Nat) (la : Option Addr) (ll lc : Nat) (k' : Int) (x' : Bool) (n' : Int) (s' : ByteArray) (ka' : Option Addr) (kl' kc' : Nat) (la' : Option Addr) (ll' lc' : Nat) (w : World) (he : k = k') (h1 : k ≠ 1) (h3 : k ≠ 3) (h5 : k ≠ 5) (h4 : k ≠ 4) :
  Calls Tryz.prog 30 #[.agg #[.int .i64 k, .bool x, .int .i64 n, .string s, .slice ka kl kc, .slice la ll lc], .agg #[.int .i64 k', .bool x', .int .i64 n', .string s', .slice ka' kl' kc', .slice la' ll' lc']] w fun e w' => e = .returned (.int .i64 (cmpI n n')) ∧ Below w.heap.size w w' := by
 have HX : Hid (∀ w1, Below ((w.alloc (.cells #[.int .i64 k, .bool x, .int .i64 n, .string s, .slice ka kl kc, .slice la ll lc] 26)).alloc (.cells #[.int .i64 k', .bool x', .int .i64 n', .string s', .slice ka' kl' kc', .slice la' ll' lc'] 26)).heap.size ((w.alloc (.cells #[.int .i64 k, .bool x, .int .i64 n, .string s, .slice ka kl kc, .slice la ll lc] 26)).alloc (.cells #[.int .i64 k', .bool x', .int .i64 n', .string s', .slice ka' kl' kc', .slice la' ll' lc'] 26)) w1 → _) := fun w1 hb => two_boxes (w := w) (w1 := w1) (A := #[.int .i64 k, .bool x, .int .i64 n, .string s, .slice ka kl kc, .slice la ll lc]) (A' := #[.int .i64 k', .bool x', .int .i64 n', .string s', .slice ka' kl' kc', .slice la' ll' lc']) hb
 have HB := hidE (HX.out _ (Below.refl _ _)).1
 have e1 : (k == 1) = false := ne_bool h1
 have e3 : (k == 3) = false := ne_bool h3
 have e5 : (k == 5) = false := ne_bool h5
 have e4 : (k == 4) = false := ne_bool h4
 have ek : (k == k') = true := eq_bool he
 clear he h1 h3 h5 h4
 go_enter Tryz.func30, Tryz.ntmps30
 go_wp2_with fail
 refine (ints_any _ _ _).mono ?_
 rintro e w' ⟨rfl, rfl⟩
 go_wp2_with fail
 go_ret
 exact ⟨rfl, HB.out⟩
set_option maxRecDepth 100000 in
set_option maxHeartbeats 2000000 in
theorem refcmp_bool (k : Int) (x : Bool) (n : Int) (s : ByteArray) (ka : Option Addr) (kl kc : Nat) (la : Option Addr) (ll lc : Nat) (k' : Int) (x' : Bool) (n' : Int) (s' : ByteArray) (ka' : Option Addr) (kl' kc' : Nat) (la' : Option Addr) (ll' lc' : Nat) (w : World) (he : k = k') (hk : k = 1) :
  Calls Tryz.prog 30 #[.agg #[.int .i64 k, .bool x, .int .i64 n, .string s, .slice ka kl kc, .slice la ll lc], .agg #[.int .i64 k', .bool x', .int .i64 n', .string s', .slice ka' kl' kc', .slice la' ll' lc']] w fun e w' => e = .returned (.int .i64 (cmpI (truthI x) (truthI x'))) ∧ Below w.heap.size w w' := by
 have HX : Hid (∀ w1, Below ((w.alloc (.cells #[.int .i64 k, .bool x, .int .i64 n, .string s, .slice ka kl kc, .slice la ll lc] 26)).alloc (.cells #[.int .i64 k', .bool x', .int .i64 n', .string s', .slice ka' kl' kc', .slice la' ll' lc'] 26)).heap.size ((w.alloc (.cells #[.int .i64 k, .bool x, .int .i64 n, .string s, .slice ka kl kc, .slice la ll lc] 26)).alloc (.cells #[.int .i64 k', .bool x', .int .i64 n', .string s', .slice ka' kl' kc', .slice la' ll' lc'] 26)) w1 → _) := fun w1 hb => two_boxes (w := w) (w1 := w1) (A := #[.int .i64 k, .bool x, .int .i64 n, .string s, .slice ka kl kc, .slice la ll lc]) (A' := #[.int .i64 k', .bool x', .int .i64 n', .string s', .slice ka' kl' kc', .slice la' ll' lc']) hb
 have HB := hidE (HX.out _ (Below.refl _ _)).1
 have e1 : (k == 1) = true := eq_bool hk
 have e3 : (k == 3) = false := ne_bool (by omega)
 have e5 : (k == 5) = false := ne_bool (by omega)
 have e4 : (k == 4) = false := ne_bool (by omega)
 have ek : (k == k') = true := eq_bool he
 clear he hk
 cases x with
 | true =>
  cases x' with
  | true =>
   go_enter Tryz.func30, Tryz.ntmps30
   go_wp2_with fail
   go_ret
   exact ⟨rfl, HB.out⟩
  | false =>
   go_enter Tryz.func30, Tryz.ntmps30
   go_wp2_with fail
   go_ret
   exact ⟨rfl, HB.out⟩
 | false =>
  cases x' with
  | true =>
   go_enter Tryz.func30, Tryz.ntmps30
   go_wp2_with fail
   go_ret
   exact ⟨rfl, HB.out⟩
  | false =>
   go_enter Tryz.func30, Tryz.ntmps30
   go_wp2_with fail
   go_ret
   exact ⟨rfl, HB.out⟩
set_option maxRecDepth 100000 in
set_option maxHeartbeats 2000000 in
theorem refcmp_text (k : Int) (x : Bool) (n : Int) (s : ByteArray) (ka : Option Addr) (kl kc : Nat) (la : Option Addr) (ll lc : Nat) (k' : Int) (x' : Bool) (n' : Int) (s' : ByteArray) (ka' : Option Addr) (kl' kc' : Nat) (la' : Option Addr) (ll' lc' : Nat) (w : World) (he : k = k') (hk : k = 3) (hs : s.size ≤ 9223372036854775807) (hs' : s'.size ≤ 9223372036854775807) :
  Calls Tryz.prog 30 #[.agg #[.int .i64 k, .bool x, .int .i64 n, .string s, .slice ka kl kc, .slice la ll lc], .agg #[.int .i64 k', .bool x', .int .i64 n', .string s', .slice ka' kl' kc', .slice la' ll' lc']] w fun e w' => e = .returned (.int .i64 (Lib.compareBytes s.data.toList s'.data.toList)) ∧ Below w.heap.size w w' := by
 have HX : Hid (∀ w1, Below ((w.alloc (.cells #[.int .i64 k, .bool x, .int .i64 n, .string s, .slice ka kl kc, .slice la ll lc] 26)).alloc (.cells #[.int .i64 k', .bool x', .int .i64 n', .string s', .slice ka' kl' kc', .slice la' ll' lc'] 26)).heap.size ((w.alloc (.cells #[.int .i64 k, .bool x, .int .i64 n, .string s, .slice ka kl kc, .slice la ll lc] 26)).alloc (.cells #[.int .i64 k', .bool x', .int .i64 n', .string s', .slice ka' kl' kc', .slice la' ll' lc'] 26)) w1 → _) := fun w1 hb => two_boxes (w := w) (w1 := w1) (A := #[.int .i64 k, .bool x, .int .i64 n, .string s, .slice ka kl kc, .slice la ll lc]) (A' := #[.int .i64 k', .bool x', .int .i64 n', .string s', .slice ka' kl' kc', .slice la' ll' lc']) hb
 have HB := hidE (HX.out _ (Below.refl _ _)).1
 have e1 : (k == 1) = false := ne_bool (by omega)
 have e3 : (k == 3) = true := eq_bool hk
 have e5 : (k == 5) = false := ne_bool (by omega)
 have e4 : (k == 4) = false := ne_bool (by omega)
 have ek : (k == k') = true := eq_bool he
 clear he hk
 have HT : Hid (∀ W, Calls Tryz.prog 69 #[.string s, .string s'] W fun e w' => e = .returned (.int .i64 (Lib.compareBytes s.data.toList s'.data.toList)) ∧ ∃ q, w' = W.drewN q) := fun W => texts_any s s' W hs hs'
 go_enter Tryz.func30, Tryz.ntmps30
 go_wp2_with fail
 refine (HT.out _).mono ?_
 rintro e w' ⟨rfl, q, rfl⟩
 go_wp2_with fail
 go_ret
 exact ⟨rfl, below_drewN HB.out _⟩
set_option maxRecDepth 100000 in
set_option maxHeartbeats 2000000 in
theorem refcmp_list (k : Int) (x : Bool) (n : Int) (s : ByteArray) (ka : Option Addr) (kl kc : Nat) (la : Option Addr) (ll lc : Nat) (k' : Int) (x' : Bool) (n' : Int) (s' : ByteArray) (ka' : Option Addr) (kl' kc' : Nat) (la' : Option Addr) (ll' lc' : Nat) (w : World) (he : k = k') (hk : k = 4) (res : Int) (HR : Hid (∀ W, Below w.heap.size w W → Calls Tryz.prog 33 #[.slice la ll lc, .slice la' ll' lc'] W fun e w' => e = .returned (.int .i64 res) ∧ Below W.heap.size W w')) :
  Calls Tryz.prog 30 #[.agg #[.int .i64 k, .bool x, .int .i64 n, .string s, .slice ka kl kc, .slice la ll lc], .agg #[.int .i64 k', .bool x', .int .i64 n', .string s', .slice ka' kl' kc', .slice la' ll' lc']] w fun e w' => e = .returned (.int .i64 (res)) ∧ Below w.heap.size w w' := by
 have HX : Hid (∀ w1, Below ((w.alloc (.cells #[.int .i64 k, .bool x, .int .i64 n, .string s, .slice ka kl kc, .slice la ll lc] 26)).alloc (.cells #[.int .i64 k', .bool x', .int .i64 n', .string s', .slice ka' kl' kc', .slice la' ll' lc'] 26)).heap.size ((w.alloc (.cells #[.int .i64 k, .bool x, .int .i64 n, .string s, .slice ka kl kc, .slice la ll lc] 26)).alloc (.cells #[.int .i64 k', .bool x', .int .i64 n', .string s', .slice ka' kl' kc', .slice la' ll' lc'] 26)) w1 → _) := fun w1 hb => two_boxes (w := w) (w1 := w1) (A := #[.int .i64 k, .bool x, .int .i64 n, .string s, .slice ka kl kc, .slice la ll lc]) (A' := #[.int .i64 k', .bool x', .int .i64 n', .string s', .slice ka' kl' kc', .slice la' ll' lc']) hb
 have HB := hidE (HX.out _ (Below.refl _ _)).1
 have e1 : (k == 1) = false := ne_bool (by omega)
 have e3 : (k == 3) = false := ne_bool (by omega)
 have e5 : (k == 5) = false := ne_bool (by omega)
 have e4 : (k == 4) = true := eq_bool hk
 have ek : (k == k') = true := eq_bool he
 clear he hk
 have HC := hidE (HR.out _ HB.out)
 go_enter Tryz.func30, Tryz.ntmps30
 go_wp2_with fail
 refine HC.out.mono ?_
 rintro e w2 ⟨rfl, hb2⟩
 have HF := hidE (below_on HB.out hb2)
 clear hb2
 go_wp2_with fail
 go_ret
 exact ⟨rfl, HF.out⟩
end Go.Proofs.YtbpmhgcjefpigaaGreatDoor

namespace Go.Proofs.YtbpmhgcjefpigaaGreatDoor
open Go.RowKit Go.Shelf
set_option linter.unusedVariables false
theorem cmpB_self : ∀ a : List UInt8, Lib.compareBytes a a = 0
 | [] => rfl
 | a :: r => by rw [Lib.compareBytes, if_neg (by simp), if_neg (by simp)]; exact cmpB_self r
theorem cmpB_zero : ∀ {a b : List UInt8}, Lib.compareBytes a b = 0 → a = b
 | [], [], _ => rfl
 | [], _ :: _, h => by simp [Lib.compareBytes] at h
 | _ :: _, [], h => by simp [Lib.compareBytes] at h
 | a :: r, b :: t, h => by
  rw [Lib.compareBytes] at h
  by_cases h1 : a < b
  ·rw [if_pos h1] at h; simp at h
  ·rw [if_neg h1] at h
   by_cases h2 : b < a
   ·rw [if_pos h2] at h; simp at h
   ·rw [if_neg h2] at h
    have e : a = b := by
     apply UInt8.toNat_inj.mp
     have h3 : ¬ a.toNat < b.toNat := fun c => h1 (UInt8.lt_iff_toNat_lt.mpr c)
     have h4 : ¬ b.toNat < a.toNat := fun c => h2 (UInt8.lt_iff_toNat_lt.mpr c)
     omega
    rw [e, cmpB_zero h]
theorem cmpB_ne {x y : ByteArray} (h : x ≠ y) : Lib.compareBytes x.data.toList y.data.toList ≠ 0 := by
 intro c
 apply h
 have := cmpB_zero c
 cases x; cases y
 simp at this
 rw [this]
set_option maxRecDepth 100000 in
set_option maxHeartbeats 4000000 in
theorem refcmp_map (k : Int) (x : Bool) (n : Int) (s : ByteArray) (ka : Option Addr) (ks : List ByteArray) (kc : Nat) (la : Option Addr) (ll lc : Nat) (k' : Int) (x' : Bool) (n' : Int) (s' : ByteArray) (ka' : Option Addr) (ks' : List ByteArray) (kc' : Nat) (la' : Option Addr) (ll' lc' : Nat) (w : World) (B : Nat) (hB : B ≤ w.heap.size) (hK : KeysLie B w ka ks) (hK' : KeysLie B w ka' ks') (h1 : ks.length ≤ kc) (h2 : kc ≤ maxLen) (h3 : ks'.length ≤ kc') (h4 : kc' ≤ maxLen) (he : k = k') (hk : k = 5) (res r : Int) (HRES : Hid (r = if agS ks ks' = 0 then res else agS ks ks')) (HR : Hid (∀ W, Below w.heap.size w W → Calls Tryz.prog 33 #[.slice la ll lc, .slice la' ll' lc'] W fun e w' => e = .returned (.int .i64 res) ∧ Below W.heap.size W w')) :
  Calls Tryz.prog 30 #[.agg #[.int .i64 k, .bool x, .int .i64 n, .string s, .slice ka ks.length kc, .slice la ll lc], .agg #[.int .i64 k', .bool x', .int .i64 n', .string s', .slice ka' ks'.length kc', .slice la' ll' lc']] w fun e w' => e = .returned (.int .i64 r) ∧ Below w.heap.size w w' := by
 unfold maxLen at h2 h4
 have HX : Hid (∀ w1, Below ((w.alloc (.cells #[.int .i64 k, .bool x, .int .i64 n, .string s, .slice ka ks.length kc, .slice la ll lc] 26)).alloc (.cells #[.int .i64 k', .bool x', .int .i64 n', .string s', .slice ka' ks'.length kc', .slice la' ll' lc'] 26)).heap.size ((w.alloc (.cells #[.int .i64 k, .bool x, .int .i64 n, .string s, .slice ka ks.length kc, .slice la ll lc] 26)).alloc (.cells #[.int .i64 k', .bool x', .int .i64 n', .string s', .slice ka' ks'.length kc', .slice la' ll' lc'] 26)) w1 → _) := fun w1 hb => two_boxes (w := w) (w1 := w1) (A := #[.int .i64 k, .bool x, .int .i64 n, .string s, .slice ka ks.length kc, .slice la ll lc]) (A' := #[.int .i64 k', .bool x', .int .i64 n', .string s', .slice ka' ks'.length kc', .slice la' ll' lc']) hb
 have e1 : (k == 1) = false := ne_bool (by omega)
 have e3 : (k == 3) = false := ne_bool (by omega)
 have e5 : (k == 5) = true := eq_bool hk
 have e4 : (k == 4) = false := ne_bool (by omega)
 have ek : (k == k') = true := eq_bool he
 clear he hk
 have H0 := hidE (Below.refl ((w.alloc (.cells #[.int .i64 k, .bool x, .int .i64 n, .string s, .slice ka ks.length kc, .slice la ll lc] 26)).alloc (.cells #[.int .i64 k', .bool x', .int .i64 n', .string s', .slice ka' ks'.length kc', .slice la' ll' lc'] 26)).heap.size ((w.alloc (.cells #[.int .i64 k, .bool x, .int .i64 n, .string s, .slice ka ks.length kc, .slice la ll lc] 26)).alloc (.cells #[.int .i64 k', .bool x', .int .i64 n', .string s', .slice ka' ks'.length kc', .slice la' ll' lc'] 26)))
 have HBY : Hid (∀ w1, Below ((w.alloc (.cells #[.int .i64 k, .bool x, .int .i64 n, .string s, .slice ka ks.length kc, .slice la ll lc] 26)).alloc (.cells #[.int .i64 k', .bool x', .int .i64 n', .string s', .slice ka' ks'.length kc', .slice la' ll' lc'] 26)).heap.size ((w.alloc (.cells #[.int .i64 k, .bool x, .int .i64 n, .string s, .slice ka ks.length kc, .slice la ll lc] 26)).alloc (.cells #[.int .i64 k', .bool x', .int .i64 n', .string s', .slice ka' ks'.length kc', .slice la' ll' lc'] 26)) w1 → Below w.heap.size w w1 ∧ w1.cell? ⟨w.heap.size, 4, none⟩ = some (.slice ka ks.length kc) ∧ w1.cell? ⟨w.heap.size + 1, 4, none⟩ = some (.slice ka' ks'.length kc') ∧ w1.cell? ⟨w.heap.size, 5, none⟩ = some (.slice la ll lc) ∧ w1.cell? ⟨w.heap.size + 1, 5, none⟩ = some (.slice la' ll' lc')) := by
  intro w1 hb
  obtain ⟨a, f, g⟩ := HX.out w1 hb
  exact ⟨a, f 4 _ rfl, g 4 _ rfl, f 5 _ rfl, g 5 _ rfl⟩
 clear HX
 have HKK := hidE (And.intro hK hK')
 clear hK hK'
 go_enter Tryz.func30, Tryz.ntmps30
 go_wp2_with fail
 generalize ((w.alloc (.cells #[.int .i64 k, .bool x, .int .i64 n, .string s, .slice ka ks.length kc, .slice la ll lc] 26)).alloc (.cells #[.int .i64 k', .bool x', .int .i64 n', .string s', .slice ka' ks'.length kc', .slice la' ll' lc'] 26)) = W1 at *
 go_loopw [5] (fun i wr => ∃ j : Nat, j ≤ ks.length ∧ j ≤ ks'.length ∧ i = .int .i64 j ∧ Below W1.heap.size W1 wr ∧ agS (ks.drop j) (ks'.drop j) = agS ks ks') (fun i _ => ks.length - (intOf i).toNat)
 case atStart => exact ⟨0, Nat.zero_le _, Nat.zero_le _, rfl, Below.refl _ _, rfl⟩
 case round =>
  obtain ⟨j, hj, hj2, rfl, hbr, hag⟩ := hrel
  have HAG := hidE hag
  have HBR := hidE hbr
  obtain ⟨hbw, q4, r4, q5, r5⟩ := HBY.out wr hbr
  have HBW := hidE hbw
  clear hag hbr hbw
  by_cases hja : j < ks.length
  ·by_cases hjb : j < ks'.length
   ·obtain ⟨bk, off, rfl, hbk, hkey⟩ := (HKK.out.1.below (HBW.out.mono hB)).resolve_left (by intro e; subst e; simp at hja)
    obtain ⟨bk', off', rfl, hbk', hkey'⟩ := (HKK.out.2.below (HBW.out.mono hB)).resolve_left (by intro e; subst e; simp at hjb)
    obtain ⟨hc, hz⟩ := hkey j hja
    obtain ⟨hc', hz'⟩ := hkey' j hjb
    unfold maxLen at hz hz'
    have HST := hidE (agS_drop (a := ks) (b := ks') (i := j) hja hjb)
    generalize ks.getD j ⟨#[]⟩ = y at *
    generalize ks'.getD j ⟨#[]⟩ = y' at *
    clear hkey hkey' HKK
    by_cases hy : y = y'
    ·subst hy
     have HN : Hid (agS (ks.drop (j + 1)) (ks'.drop (j + 1)) = agS ks ks') := by
      show _ = _
      have := HST.out
      rw [if_pos (cmpB_self _), HAG.out] at this
      exact this.symm
     clear HST HAG
     go_wp2_with fail
     go_quiet (fail)
     go_wp2_with fail
     go_roundw
     case rel => exact ⟨j + 1, by omega, by omega, by go_num, below_drewN HBR.out _, HN.out⟩
     case measure => simp [intOf]; omega
    ·have HZ := hidE (cmpB_ne hy)
     have HN : Hid (Lib.compareBytes y.data.toList y'.data.toList = agS ks ks') := by
      show _ = _
      have := HST.out
      rw [if_neg HZ.out, HAG.out] at this
      exact this.symm
     have HE : Hid (r = Lib.compareBytes y.data.toList y'.data.toList) := by
      show _ = _
      rw [HRES.out, ← HN.out, if_neg HZ.out]
     have ey : (y.toList == y'.toList) = false := beq_eq_false_iff_ne.2 (fun c => hy (by have := c; simp only [ByteArray.toList_eq] at this; cases y; cases y'; simp at this; rw [this]))
     have HT : Hid (∀ W, Calls Tryz.prog 69 #[.string y, .string y'] W fun e w' => e = .returned (.int .i64 (Lib.compareBytes y.data.toList y'.data.toList)) ∧ ∃ q, w' = W.drewN q) := fun W => texts_any y y' W hz hz'
     clear HST HAG HZ HN
     go_wp2_with fail
     go_quiet (fail)
     go_wp2_with fail
     go_region_with (go_at_call 69; refine (HT.out _).mono ?_; rintro e w' ⟨rfl, q, rfl⟩)
     all_goals
      go_wp2_with fail
      go_ret
      exact ⟨by rw [HE.out]; rfl, below_drewN HBW.out _⟩
   ·have HN : Hid (agS ks ks' = cmpI ks.length ks'.length) := by show _ = _; rw [← HAG.out, agS_end (by omega)]
    clear HAG HKK
    by_cases hl : ks.length = ks'.length
    ·exfalso; omega
    ·have el : ((ks.length : Int) == (ks'.length : Int)) = false := ne_bool (by omega)
     have HE : Hid (r = cmpI ks.length ks'.length) := by
      show _ = _
      rw [HRES.out, HN.out, if_neg]
      unfold cmpI
      by_cases c : (ks.length : Int) < ks'.length
      ·rw [if_pos c]; decide
      ·rw [if_neg c, if_pos (by omega)]; decide
     clear HN hl
     go_wp2_with fail
     refine (ints_any _ _ _).mono ?_
     rintro e w2 ⟨rfl, rfl⟩
     go_wp2_with fail
     go_ret
     exact ⟨by rw [HE.out]; rfl, HBW.out⟩
  ·have HN : Hid (agS ks ks' = cmpI ks.length ks'.length) := by show _ = _; rw [← HAG.out, agS_end (by omega)]
   clear HAG HKK
   by_cases hl : ks.length = ks'.length
   ·have el : ((ks.length : Int) == (ks'.length : Int)) = true := eq_bool (by omega)
    have HE : Hid (r = res) := by
     show _ = _
     rw [HRES.out, if_pos (by rw [HN.out, hl]; exact cmpI_self _)]
    have HC := hidE (HR.out wr HBW.out)
    clear HN
    go_wp2_with fail
    refine HC.out.mono ?_
    rintro e w2 ⟨rfl, hb2⟩
    have HF := hidE (below_on HBW.out hb2)
    clear hb2 q4 r4 q5 r5
    go_wp2_with fail
    go_ret
    exact ⟨by rw [HE.out]; rfl, HF.out⟩
   ·have el : ((ks.length : Int) == (ks'.length : Int)) = false := ne_bool (by omega)
    have HE : Hid (r = cmpI ks.length ks'.length) := by
     show _ = _
     rw [HRES.out, HN.out, if_neg]
     unfold cmpI
     by_cases c : (ks.length : Int) < ks'.length
     ·rw [if_pos c]; decide
     ·rw [if_neg c, if_pos (by omega)]; decide
    clear HN hl
    go_wp2_with fail
    refine (ints_any _ _ _).mono ?_
    rintro e w2 ⟨rfl, rfl⟩
    go_wp2_with fail
    go_ret
    exact ⟨by rw [HE.out]; rfl, HBW.out⟩
end Go.Proofs.YtbpmhgcjefpigaaGreatDoor

namespace Go.Proofs.YtbpmhgcjefpigaaGreatDoor
open Go.RowKit Go.Shelf
set_option linter.unusedVariables false
theorem refcmp_any : ∀ (T : Tree) (B : Nat) (v v' : Value) (T' : Tree) (w : World), B ≤ w.heap.size → Lies B w v T → Lies B w v' T' → Known T → Known T' →
  Calls Tryz.prog 30 #[v, v'] w fun e w' => e = .returned (.int .i64 (ordT T T')) ∧ Below w.heap.size w w' := by
 refine Tree.ind ?_
 intro k x n s ks ts ih B v v' T' w hB hv hv' hkn hkn'
 obtain ⟨k', x', n', s', ks', ts'⟩ := T'
 simp only [Lies] at hv hv'
 simp only [Known] at hkn hkn'
 obtain ⟨ka, kc, la, lc, rfl, ⟨hs1, hs2, hs3, hs4, hs5⟩, hk, ht⟩ := hv
 obtain ⟨ka', kc', la', lc', rfl, ⟨gs1, gs2, gs3, gs4, gs5⟩, hk', ht'⟩ := hv'
 have ht0 : ListLies B w la ts := ht
 have ht0' : ListLies B w la' ts' := ht'
 have hord : ordT (.mk k x n s ks ts) (.mk k' x' n' s' ks' ts') = (if cmpI (rankN k) (rankN k') = 0 then
   (if k = 5 then (if agS ks ks' = 0 then ordL ts ts' else agS ks ks') else if k = 4 then ordL ts ts' else if k = 3 then Lib.compareBytes s.data.toList s'.data.toList else if k = 1 then cmpI (truthI x) (truthI x') else cmpI n n')
  else cmpI (rankN k) (rankN k')) := by rw [ordT]
 have hR : Hid (∀ W, Below w.heap.size w W → Calls Tryz.prog 33 #[.slice la ts.length lc, .slice la' ts'.length lc'] W fun e w' => e = .returned (.int .i64 (ordL ts ts')) ∧ Below W.heap.size W w') :=
  fun W hb => refrows_any ts ih B la la' lc lc' ts' W (Nat.le_trans hB hb.size) (ht0.below (hb.mono hB)) (ht0'.below (hb.mono hB)) hs4 hs5 gs4 gs5 hkn.2 hkn'.2
 have hm : maxLen = 9223372036854775807 := rfl
 by_cases hkk : k = k'
 ·have h0 : cmpI (rankN k) (rankN k') = 0 := by rw [hkk]; exact cmpI_self _
  rw [hord, if_pos h0]
  by_cases k5 : k = 5
  ·rw [if_pos k5]
   exact refcmp_map k x n s ka ks kc la ts.length lc k' x' n' s' ka' ks' kc' la' ts'.length lc' w B hB hk hk' hs2 hs3 gs2 gs3 hkk k5 (ordL ts ts') _ rfl hR
  rw [if_neg k5]
  by_cases k4 : k = 4
  ·rw [if_pos k4]
   exact refcmp_list k x n s ka ks.length kc la ts.length lc k' x' n' s' ka' ks'.length kc' la' ts'.length lc' w hkk k4 _ hR
  rw [if_neg k4]
  by_cases k3 : k = 3
  ·rw [if_pos k3]
   exact refcmp_text k x n s ka ks.length kc la ts.length lc k' x' n' s' ka' ks'.length kc' la' ts'.length lc' w hkk k3 (by omega) (by omega)
  rw [if_neg k3]
  by_cases k1 : k = 1
  ·rw [if_pos k1]
   exact refcmp_bool k x n s ka ks.length kc la ts.length lc k' x' n' s' ka' ks'.length kc' la' ts'.length lc' w hkk k1
  rw [if_neg k1]
  exact refcmp_num k x n s ka ks.length kc la ts.length lc k' x' n' s' ka' ks'.length kc' la' ts'.length lc' w hkk k1 k3 k5 k4
 ·have h0 := rank_ne k k' hkk hkn.1.1 hkn.1.2 hkn'.1.1 hkn'.1.2
  rw [hord, if_neg h0]
  exact refcmp_ne k x n s ka ks.length kc la ts.length lc k' x' n' s' ka' ks'.length kc' la' ts'.length lc' w hkk hkn.1.1 hkn.1.2 hkn'.1.1 hkn'.1.2
end Go.Proofs.YtbpmhgcjefpigaaGreatDoor

namespace Go.Proofs.YtbpmhgcjefpigaaGreatDoor
open Go.RowKit Go.WideShapes Go.Shelf
set_option linter.unusedVariables false
theorem box_cells {w w1 : World} {A : Array Value} (hb : Below (w.alloc (.cells A 26)).heap.size (w.alloc (.cells A 26)) w1) : Below w.heap.size w w1 ∧ (∀ i v, A[i]? = some v → w1.cell? ⟨w.heap.size, i, none⟩ = some v) :=
 ⟨below_alloc hb, fun i v hi => (hb.cell (p := ⟨w.heap.size, i, none⟩) (by simp)).trans (cell_new _ _ _ _ _ hi)⟩
theorem less_cmp : ∀ (a b : List UInt8), Op.bytesLess a b = decide (Lib.compareBytes a b < 0)
 | [], [] => rfl
 | [], _ :: _ => rfl
 | _ :: _, [] => rfl
 | a :: r, b :: t => by
  rw [Op.bytesLess, Lib.compareBytes, less_cmp r t]
  by_cases h : a < b
  ·simp [h]
  ·by_cases g : b < a
   ·have : (a == b) = false := by
     rw [beq_eq_false_iff_ne]
     intro e; subst e
     exact absurd g h
    simp [h, g, this]
   ·have : (a == b) = true := by
     rw [beq_iff_eq]
     have h1 : ¬ a.toNat < b.toNat := h
     have h2 : ¬ b.toNat < a.toNat := g
     exact UInt8.toNat_inj.1 (by omega)
    simp [h, g, this]
def badB (k : Int) (b : Bool) (n : Int) (s : ByteArray) (kl ll : Nat) : Bool :=
 ((((decide (k < 0) || decide (7 < k)) || !rbareB k b n s kl ll) || (((k == 6) || (k == 7)) && decide (n < 0))) || !Lib.validD s.data.toList) || ((k == 5) && ((kl : Int) != (ll : Int)))
mutual
def mayT : Tree → Bool
 | .mk k b n s ks ts => !badB k b n s ks.length ts.length && (risingB ks && mayL ts)
def mayL : List Tree → Bool
 | [] => true
 | t :: ts => mayT t && mayL ts
end
theorem mayL_all : ∀ (ts : List Tree), mayL ts = ts.all mayT
 | [] => rfl
 | t :: ts => by rw [mayL, mayL_all ts]; rfl
theorem mayL_false {ts : List Tree} {t : Tree} {i : Nat} (h : ts[i]? = some t) (hf : mayT t = false) : mayL ts = false := by
 rw [mayL_all, List.all_eq_false]
 exact ⟨t, List.mem_of_getElem? h, by simp [hf]⟩
theorem mayL_true {ts : List Tree} (h : ∀ (i : Nat) (t : Tree), ts[i]? = some t → mayT t = true) : mayL ts = true := by
 rw [mayL_all, List.all_eq_true]
 intro t ht
 obtain ⟨i, hi⟩ := List.mem_iff_getElem?.1 ht
 exact h i t hi
theorem rises_key {ks : List ByteArray} {j : Nat} {y z : ByteArray} (hy : ks.getD j ⟨#[]⟩ = y) (hz : ks.getD (j - 1) ⟨#[]⟩ = z) {x : Bool}
  (hx : x = (!Lib.validD y.data.toList || (decide (0 < (j : Int)) && !Op.bytesLess z.toList y.toList))) : risesAt ks j = !x := by
 unfold risesAt
 rw [hx, hy, hz, ByteArray.toList_eq, ByteArray.toList_eq, less_cmp]
 have e1 : decide (0 < (j : Int)) = decide (0 < j) := by simp
 have e2 : (!decide (Lib.compareBytes z.data.toList y.data.toList < 0)) = decide (0 ≤ Lib.compareBytes z.data.toList y.data.toList) := by
  by_cases h : Lib.compareBytes z.data.toList y.data.toList < 0
  ·simp [h, show ¬ (0 ≤ Lib.compareBytes z.data.toList y.data.toList) by omega]
  ·simp [h, show 0 ≤ Lib.compareBytes z.data.toList y.data.toList by omega]
 rw [e1, e2]
 simp [Bool.not_or, Bool.not_and]
def Rises (ks : List ByteArray) (j : Nat) : Prop := ∀ i, i < j → risesAt ks i = true
theorem Rises.snoc {ks : List ByteArray} {j : Nat} (h : Rises ks j) (hj : risesAt ks j = true) : Rises ks (j + 1) := fun i hi => by
 rcases Nat.lt_or_eq_of_le (Nat.le_of_lt_succ hi) with h' | rfl
 ·exact h i h'
 ·exact hj
def Mays (ts : List Tree) (p : Nat) : Prop := ∀ (i : Nat) (t : Tree), i < p → ts[i]? = some t → mayT t = true
theorem Mays.snoc {ts : List Tree} {p : Nat} {t : Tree} (h : Mays ts p) (hp : ts[p]? = some t) (ht : mayT t = true) : Mays ts (p + 1) := fun i u hi hu => by
 rcases Nat.lt_or_eq_of_le (Nat.le_of_lt_succ hi) with h' | rfl
 ·exact h i u h' hu
 ·rw [hp] at hu; cases hu; exact ht
set_option maxRecDepth 100000 in
set_option maxHeartbeats 4000000 in
theorem may_any : ∀ (T : Tree) (B : Nat) (v : Value) (w : World), B ≤ w.heap.size → Lies B w v T → Sane T →
  Calls Tryz.prog 65 #[v] w fun e w' => e = .returned (.bool (mayT T)) ∧ Below w.heap.size w w' := by
 refine Tree.ind ?_
 intro k x n s ks ts ih B v w hB hv hSa
 simp only [Lies] at hv
 simp only [Sane] at hSa
 obtain ⟨s1, s2, s3, s4, s5⟩ := hSa
 obtain ⟨ka, kc, la, lc, rfl, ⟨hs1, hs2, hs3, hs4, hs5⟩, hk, ht⟩ := hv
 unfold maxLen at hs1 hs3 hs5
 obtain ⟨W1, hW1⟩ : ∃ W1, w.alloc (.cells #[.int .i64 k, .bool x, .int .i64 n, .string s, .slice ka ks.length kc, .slice la ts.length lc] 26) = W1 := ⟨_, rfl⟩
 have HX : Hid (∀ W, Below W1.heap.size W1 W → Below w.heap.size w W ∧ (W.cell? ⟨w.heap.size, 0, none⟩ = some (.int .i64 k) ∧ W.cell? ⟨w.heap.size, 1, none⟩ = some (.bool x) ∧ W.cell? ⟨w.heap.size, 2, none⟩ = some (.int .i64 n) ∧ W.cell? ⟨w.heap.size, 3, none⟩ = some (.string s) ∧ W.cell? ⟨w.heap.size, 4, none⟩ = some (.slice ka ks.length kc) ∧ W.cell? ⟨w.heap.size, 5, none⟩ = some (.slice la ts.length lc))) := fun W hb => by
  rw [← hW1] at hb
  obtain ⟨h1, h2⟩ := box_cells hb
  exact ⟨h1, h2 0 _ rfl, h2 1 _ rfl, h2 2 _ rfl, h2 3 _ rfl, h2 4 _ rfl, h2 5 _ rfl⟩
 have HM : Hid (mayT (.mk k x n s ks ts) = (!badB k x n s ks.length ts.length && (risingB ks && mayL ts))) := by show _ = _; rw [mayT]
 have HW1 := hidE hW1
 have HIH := hidE ih
 have HKK := hidE hk
 have HTT := hidE ht
 have HS4 := hidE s4
 have HS5 := hidE s5
 generalize mayT (.mk k x n s ks ts) = res at *
 clear ih hk ht s4 s5 hW1
 go_enter Tryz.func65, Tryz.ntmps65
 go_upto_region 1 with fail
 rw [HW1.out]
 show (Code.region 1 RM1 false).wp _ _ _ _
 refine regionM1 w.heap.size k x n s ka ks.length kc la ts.length lc ((decide (k < 0))) ((decide (7 < k))) ((((decide (k < 0)) || (decide (7 < k))))) ((rbareB k x n s ks.length ts.length)) ((!(rbareB k x n s ks.length ts.length))) ((((((decide (k < 0)) || (decide (7 < k)))) || (!(rbareB k x n s ks.length ts.length))))) (((k == 6))) (((k == 7))) (((((k == 6)) || ((k == 7))))) ((decide (n < 0))) (((((((k == 6)) || ((k == 7)))) && (decide (n < 0))))) ((((((((decide (k < 0)) || (decide (7 < k)))) || (!(rbareB k x n s ks.length ts.length)))) || ((((((k == 6)) || ((k == 7)))) && (decide (n < 0))))))) ((Lib.validD s.data.toList)) ((!(Lib.validD s.data.toList))) ((((((((((decide (k < 0)) || (decide (7 < k)))) || (!(rbareB k x n s ks.length ts.length)))) || ((((((k == 6)) || ((k == 7)))) && (decide (n < 0)))))) || (!(Lib.validD s.data.toList))))) (((k == 5))) ((((ks.length : Int) != (ts.length : Int)))) (((((k == 5)) && (((ks.length : Int) != (ts.length : Int)))))) ((((((((((((decide (k < 0)) || (decide (7 < k)))) || (!(rbareB k x n s ks.length ts.length)))) || ((((((k == 6)) || ((k == 7)))) && (decide (n < 0)))))) || (!(Lib.validD s.data.toList)))) || ((((k == 5)) && (((ks.length : Int) != (ts.length : Int)))))))) _ _ _ rfl rfl rfl rfl rfl rfl rfl rfl rfl rfl rfl rfl rfl rfl rfl rfl rfl rfl rfl rfl ⟨rfl⟩ (fun W hb => by obtain ⟨_, h0, h1, h2, h3, h4, h5⟩ := HX.out W hb; exact ⟨h0, h1, h2, h3, h4, h5, s1⟩) ?_
 intro c W hS hB1 he
 have hbad : badB k x n s ks.length ts.length = ((((((((((((decide (k < 0)) || (decide (7 < k)))) || (!(rbareB k x n s ks.length ts.length)))) || ((((((k == 6)) || ((k == 7)))) && (decide (n < 0)))))) || (!(Lib.validD s.data.toList)))) || ((((k == 5)) && (((ks.length : Int) != (ts.length : Int)))))))) := rfl
 rw [← hbad] at he
 clear hbad
 generalize badB k x n s ks.length ts.length = bad at *
 have hl : c = ⟨#[.agg #[.int .i64 k, .bool x, .int .i64 n, .string s, .slice ka ks.length kc, .slice la ts.length lc], .pointer (some ⟨w.heap.size, 0, none⟩), .bool false, undef, undef, c.eval (.tmp 5), c.eval (.tmp 6), c.eval (.tmp 7), c.eval (.tmp 8), c.eval (.tmp 9), c.eval (.tmp 10), c.eval (.tmp 11), c.eval (.tmp 12), c.eval (.tmp 13), c.eval (.tmp 14), c.eval (.tmp 15), c.eval (.tmp 16), c.eval (.tmp 17), c.eval (.tmp 18), c.eval (.tmp 19), c.eval (.tmp 20), c.eval (.tmp 21), c.eval (.tmp 22), c.eval (.tmp 23), c.eval (.tmp 24), c.eval (.tmp 25), c.eval (.tmp 26), c.eval (.tmp 27), c.eval (.tmp 28), c.eval (.tmp 29), c.eval (.tmp 30), c.eval (.tmp 31), c.eval (.tmp 32), c.eval (.tmp 33), c.eval (.tmp 34), c.eval (.tmp 35), c.eval (.tmp 36), c.eval (.tmp 37), c.eval (.tmp 38), c.eval (.tmp 39), c.eval (.tmp 40), c.eval (.tmp 41), c.eval (.tmp 42), c.eval (.tmp 43), c.eval (.tmp 44), c.eval (.tmp 45), c.eval (.tmp 46), c.eval (.tmp 47), c.eval (.tmp 48), c.eval (.tmp 49), c.eval (.tmp 50), c.eval (.tmp 51), c.eval (.tmp 52), undef, undef, undef, undef, undef, undef, undef, undef, undef, undef, undef, undef, undef, undef, undef, undef, undef, undef, undef, undef, undef, undef, undef, undef, undef, undef, undef, undef, undef, undef, undef, undef, undef, undef, undef, undef, undef, undef, undef, undef, undef, undef, undef, undef, undef, undef], []⟩ := (same_lay hS).trans (by kernel_rfl)
 rw [he] at hl
 generalize c.eval (.tmp 5) = y5, c.eval (.tmp 6) = y6, c.eval (.tmp 7) = y7, c.eval (.tmp 8) = y8, c.eval (.tmp 9) = y9, c.eval (.tmp 10) = y10, c.eval (.tmp 11) = y11, c.eval (.tmp 12) = y12, c.eval (.tmp 13) = y13, c.eval (.tmp 14) = y14, c.eval (.tmp 15) = y15, c.eval (.tmp 16) = y16, c.eval (.tmp 17) = y17, c.eval (.tmp 18) = y18, c.eval (.tmp 19) = y19, c.eval (.tmp 20) = y20, c.eval (.tmp 21) = y21, c.eval (.tmp 22) = y22, c.eval (.tmp 23) = y23, c.eval (.tmp 24) = y24, c.eval (.tmp 25) = y25, c.eval (.tmp 26) = y26, c.eval (.tmp 27) = y27, c.eval (.tmp 28) = y28, c.eval (.tmp 29) = y29, c.eval (.tmp 30) = y30, c.eval (.tmp 31) = y31, c.eval (.tmp 32) = y32, c.eval (.tmp 33) = y33, c.eval (.tmp 34) = y34, c.eval (.tmp 35) = y35, c.eval (.tmp 36) = y36, c.eval (.tmp 37) = y37, c.eval (.tmp 38) = y38, c.eval (.tmp 39) = y39, c.eval (.tmp 40) = y40, c.eval (.tmp 41) = y41, c.eval (.tmp 42) = y42, c.eval (.tmp 43) = y43, c.eval (.tmp 44) = y44, c.eval (.tmp 45) = y45, c.eval (.tmp 46) = y46, c.eval (.tmp 47) = y47, c.eval (.tmp 48) = y48, c.eval (.tmp 49) = y49, c.eval (.tmp 50) = y50, c.eval (.tmp 51) = y51 at hl
 clear hS he
 subst hl
 have HB1 := hidE hB1
 have HBW := hidE (HX.out W hB1).1
 clear hB1
 cases bad
 case true =>
  go_wp2_with fail
  go_ret
  exact ⟨by rw [HM.out]; rfl, HBW.out⟩
 go_wp2_with fail
 go_loopw [3] (fun i wr => ∃ j : Nat, j ≤ ks.length ∧ i = .int .i64 j ∧ Below W1.heap.size W1 wr ∧ Rises ks j) (fun i _ => ks.length - (intOf i).toNat)
 case atStart => exact ⟨0, Nat.zero_le _, rfl, HB1.out, fun i hi => absurd hi (Nat.not_lt_zero _)⟩
 case round =>
  obtain ⟨j, hj, rfl, hbr, hri⟩ := hrel
  obtain ⟨hbw, q0, q1, q2, q3, q4, q5⟩ := HX.out wr hbr
  have HBR := hidE hbr
  have HRI := hidE hri
  have HBV := hidE hbw
  clear hbr hri hbw q0 q1 q2 q3 q5
  by_cases hja : j < ks.length
  ·obtain ⟨bk, off, rfl, hbk, hkey⟩ := (HKK.out.below (HBV.out.mono hB)).resolve_left (by intro e; subst e; simp at hja)
   obtain ⟨y, hy⟩ : ∃ y, ks.getD j ⟨#[]⟩ = y := ⟨_, rfl⟩
   obtain ⟨z, hz⟩ : ∃ z, ks.getD (j - 1) ⟨#[]⟩ = z := ⟨_, rfl⟩
   have HK1 := hidE (hy ▸ (hkey j hja).1)
   have HK2 : Hid (0 < j → wr.cell? ⟨bk, off + (j - 1), none⟩ = some (.string z)) := fun h => hz ▸ (hkey (j - 1) (by omega)).1
   have HSZ : Hid (y.size ≤ 140737488355328) := by
    show _ ≤ _
    rw [← hy, List.getD_eq_getElem?_getD, List.getElem?_eq_getElem hja]
    exact HS4.out _ (List.getElem_mem hja)
   have HRS : Hid (∀ x : Bool, x = (!Lib.validD y.data.toList || (decide (0 < (j : Int)) && !Op.bytesLess z.toList y.toList)) → risesAt ks j = !x) := fun x h => rises_key hy hz h
   clear hkey hy hz
   go_upto_region 6 with fail
   show (Code.region 6 RM6 true).wp _ _ _ _
   refine regionM6 w.heap.size bk off ks.length kc j y z ((Lib.validD y.data.toList)) ((!(Lib.validD y.data.toList))) ((decide (0 < (j : Int)))) ((!Op.bytesLess z.toList y.toList)) ((((decide (0 < (j : Int))) && (!Op.bytesLess z.toList y.toList)))) ((((!(Lib.validD y.data.toList)) || (((decide (0 < (j : Int))) && (!Op.bytesLess z.toList y.toList)))))) _ _ _ rfl rfl rfl (fun h => by simpa using h) (fun h => by simpa using h) rfl rfl rfl rfl ⟨rfl, rfl⟩ (fun W hb => ⟨cell_below hb (Nat.le_refl _) q4, cell_below hb (Nat.le_refl _) HK1.out, fun h => cell_below hb (Nat.le_refl _) (HK2.out h), HSZ.out, hja, by omega⟩) ?_
   intro c Wr hS hB6 he
   have HB6 := hidE (HBR.out.trans (hB6.mono HBR.out.size))
   have HBX := hidE (HX.out _ HB6.out).1
   clear hB6 HK1 HK2 q4
   have HR6 := hidE (HRS.out _ rfl)
   rw [show ((((!(Lib.validD y.data.toList)) || (((decide (0 < (j : Int))) && (!Op.bytesLess z.toList y.toList)))))) = !risesAt ks j by rw [HR6.out]; simp] at he
   clear HRS HR6
   obtain ⟨rz, hrz⟩ : ∃ rz, risesAt ks j = rz := ⟨_, rfl⟩
   rw [hrz] at he
   have HRZ := hidE hrz
   clear hrz
   cases rz
   case false =>
    simp only [Bool.not_false] at he
    have hl : c = ⟨#[.agg #[.int .i64 k, .bool x, .int .i64 n, .string s, .slice (some ⟨bk, off, none⟩) ks.length kc, .slice la ts.length lc], .pointer (some ⟨w.heap.size, 0, none⟩), u2, .int .i64 (j : Int), undef, y5, y6, y7, y8, y9, y10, y11, y12, y13, y14, y15, y16, y17, y18, y19, y20, y21, y22, y23, y24, y25, y26, y27, y28, y29, y30, y31, y32, y33, y34, y35, y36, y37, y38, y39, y40, y41, y42, y43, y44, y45, y46, y47, y48, y49, y50, y51, .bool false, .int .i64 (j : Int), .pointer (some ⟨w.heap.size, 4, none⟩), .slice (some ⟨bk, off, none⟩) ks.length kc, .int .i64 (ks.length : Int), .bool true, u58, u59, c.eval (.tmp 60), c.eval (.tmp 61), c.eval (.tmp 62), c.eval (.tmp 63), c.eval (.tmp 64), c.eval (.tmp 65), c.eval (.tmp 66), c.eval (.tmp 67), c.eval (.tmp 68), c.eval (.tmp 69), c.eval (.tmp 70), c.eval (.tmp 71), c.eval (.tmp 72), c.eval (.tmp 73), c.eval (.tmp 74), c.eval (.tmp 75), c.eval (.tmp 76), c.eval (.tmp 77), c.eval (.tmp 78), c.eval (.tmp 79), c.eval (.tmp 80), c.eval (.tmp 81), c.eval (.tmp 82), c.eval (.tmp 83), c.eval (.tmp 84), undef, undef, undef, undef, undef, undef, undef, undef, undef, undef, undef, undef, undef, undef], []⟩ := (same_lay hS).trans (by kernel_rfl)
    rw [he] at hl
    generalize c.eval (.tmp 60) = y60, c.eval (.tmp 61) = y61, c.eval (.tmp 62) = y62, c.eval (.tmp 63) = y63, c.eval (.tmp 64) = y64, c.eval (.tmp 65) = y65, c.eval (.tmp 66) = y66, c.eval (.tmp 67) = y67, c.eval (.tmp 68) = y68, c.eval (.tmp 69) = y69, c.eval (.tmp 70) = y70, c.eval (.tmp 71) = y71, c.eval (.tmp 72) = y72, c.eval (.tmp 73) = y73, c.eval (.tmp 74) = y74, c.eval (.tmp 75) = y75, c.eval (.tmp 76) = y76, c.eval (.tmp 77) = y77, c.eval (.tmp 78) = y78, c.eval (.tmp 79) = y79, c.eval (.tmp 80) = y80, c.eval (.tmp 81) = y81, c.eval (.tmp 82) = y82, c.eval (.tmp 83) = y83 at hl
    clear hS he
    subst hl
    go_wp2_with fail
    go_ret
    exact ⟨by rw [HM.out, rising_false hja HRZ.out]; rfl, HBX.out⟩
   case true =>
    simp only [Bool.not_true] at he
    have hl : c = ⟨#[.agg #[.int .i64 k, .bool x, .int .i64 n, .string s, .slice (some ⟨bk, off, none⟩) ks.length kc, .slice la ts.length lc], .pointer (some ⟨w.heap.size, 0, none⟩), u2, .int .i64 (j : Int), undef, y5, y6, y7, y8, y9, y10, y11, y12, y13, y14, y15, y16, y17, y18, y19, y20, y21, y22, y23, y24, y25, y26, y27, y28, y29, y30, y31, y32, y33, y34, y35, y36, y37, y38, y39, y40, y41, y42, y43, y44, y45, y46, y47, y48, y49, y50, y51, .bool false, .int .i64 (j : Int), .pointer (some ⟨w.heap.size, 4, none⟩), .slice (some ⟨bk, off, none⟩) ks.length kc, .int .i64 (ks.length : Int), .bool true, u58, u59, c.eval (.tmp 60), c.eval (.tmp 61), c.eval (.tmp 62), c.eval (.tmp 63), c.eval (.tmp 64), c.eval (.tmp 65), c.eval (.tmp 66), c.eval (.tmp 67), c.eval (.tmp 68), c.eval (.tmp 69), c.eval (.tmp 70), c.eval (.tmp 71), c.eval (.tmp 72), c.eval (.tmp 73), c.eval (.tmp 74), c.eval (.tmp 75), c.eval (.tmp 76), c.eval (.tmp 77), c.eval (.tmp 78), c.eval (.tmp 79), c.eval (.tmp 80), c.eval (.tmp 81), c.eval (.tmp 82), c.eval (.tmp 83), c.eval (.tmp 84), undef, undef, undef, undef, undef, undef, undef, undef, undef, undef, undef, undef, undef, undef], []⟩ := (same_lay hS).trans (by kernel_rfl)
    rw [he] at hl
    generalize c.eval (.tmp 60) = y60, c.eval (.tmp 61) = y61, c.eval (.tmp 62) = y62, c.eval (.tmp 63) = y63, c.eval (.tmp 64) = y64, c.eval (.tmp 65) = y65, c.eval (.tmp 66) = y66, c.eval (.tmp 67) = y67, c.eval (.tmp 68) = y68, c.eval (.tmp 69) = y69, c.eval (.tmp 70) = y70, c.eval (.tmp 71) = y71, c.eval (.tmp 72) = y72, c.eval (.tmp 73) = y73, c.eval (.tmp 74) = y74, c.eval (.tmp 75) = y75, c.eval (.tmp 76) = y76, c.eval (.tmp 77) = y77, c.eval (.tmp 78) = y78, c.eval (.tmp 79) = y79, c.eval (.tmp 80) = y80, c.eval (.tmp 81) = y81, c.eval (.tmp 82) = y82, c.eval (.tmp 83) = y83 at hl
    clear hS he
    subst hl
    go_wp2_with fail
    go_roundw
    case rel => exact ⟨j + 1, by omega, by go_num, HB6.out, HRI.out.snoc HRZ.out⟩
    case measure => simp [intOf]; omega
  ·have HRT : Hid (risingB ks = true) := rising_true fun i hi => HRI.out i (by omega)
   go_wp2_with fail
   clear q4
   go_loopw [4] (fun i wr => ∃ p : Nat, p ≤ ts.length ∧ i = .int .i64 p ∧ Below W1.heap.size W1 wr ∧ Mays ts p) (fun i _ => ts.length - (intOf i).toNat)
   case atStart => exact ⟨0, Nat.zero_le _, rfl, HBR.out, fun i t hi _ => absurd hi (Nat.not_lt_zero _)⟩
   case round =>
    obtain ⟨p, hp, rfl, hbr2, hma⟩ := hrel
    obtain ⟨hbw2, q0, q1, q2, q3, q4, q5⟩ := HX.out _ hbr2
    have HBR2 := hidE hbr2
    have HBW2 := hidE hbw2
    have HMA := hidE hma
    clear hbr2 hma hbw2 q0 q1 q2 q3 q4
    by_cases hlt : p < ts.length
    ·obtain ⟨bl, off, rfl, hbl, hkk⟩ := HTT.out.resolve_left (by intro e; subst e; simp at hlt)
     obtain ⟨⟨p0, p1, p2, p3, p4, p5⟩, hx⟩ : ∃ t, ts[p]? = some t := ⟨_, List.getElem?_eq_getElem hlt⟩
     obtain ⟨ja, jc, jl, jd, ⟨c0, c1, c2, c3, c4, c5⟩, hlx⟩ := (hkk.below (HBW2.out.mono hB) hbl).cells hx
     have HC := hidE (HIH.out _ (List.mem_of_getElem? hx) B _ wr (Nat.le_trans hB HBW2.out.size) hlx (HS5.out.mem (List.mem_of_getElem? hx)))
     have HF := hidE (@mayL_false ts _ p hx)
     have HSN := hidE (fun h => @Mays.snoc ts p _ HMA.out hx h)
     clear hkk hlx hx
     generalize mayT (.mk p0 p1 p2 p3 p4 p5) = mt at *
     go_wp2_with fail
     refine HC.out.mono ?_; rintro e w' ⟨rfl, hk2⟩
     have HB2 := hidE (HBR2.out.trans (hk2.mono HBR2.out.size))
     clear hk2 c0 c1 c2 c3 c4 c5 q5
     cases mt
     ·go_wp2_with fail
      go_ret
      exact ⟨by rw [HM.out, HRT.out, HF.out (by simp)]; rfl, (HX.out _ HB2.out).1⟩
     ·go_wp2_with fail
      go_roundw
      case rel => exact ⟨p + 1, by omega, by go_num, HB2.out, HSN.out (by simp)⟩
      case measure => simp [intOf]; omega
    ·have HMT : Hid (mayL ts = true) := mayL_true fun i t hi => HMA.out i t (by have := (List.getElem?_eq_some_iff.1 hi).1; omega) hi
     go_wp2_with fail
     go_ret
     exact ⟨by rw [HM.out, HRT.out, HMT.out]; rfl, HBW2.out⟩
end Go.Proofs.YtbpmhgcjefpigaaGreatDoor

