/- The document's order of two values of one kind. The document's order of two maps. -/
import Derived.Test.YtbpmhgcjefpigaaGreatDoorJoin4
namespace Go.Proofs.YtbpmhgcjefpigaaGreatDoor
open Go.RowKit Go.Shelf
set_option linter.unusedVariables false

set_option maxRecDepth 100000 in
set_option maxHeartbeats 2000000 in
theorem refcmp_num (k : Int) (x : Bool) (n : Int) (s : ByteArray) (ka : Option Addr) (kl kc : Nat) (la : Option Addr) (ll lc : Nat) (k' : Int) (x' : Bool) (n' : Int) (s' : ByteArray) (ka' : Option Addr) (kl' kc' : Nat) (la' : Option Addr) (ll' lc' : Nat) (w : World) (he : k = k') (h1 : k ≠ 1) (h3 : k ≠ 3) (h5 : k ≠ 5) (h4 : k ≠ 4) :
    Calls Tryz.prog 30 #[.agg #[.int .i64 k, .bool x, .int .i64 n, .string s, .slice ka kl kc, .slice la ll lc], .agg #[.int .i64 k', .bool x', .int .i64 n', .string s', .slice ka' kl' kc', .slice la' ll' lc']] w fun e w' => e = .returned (.int .i64 (cmpI n n')) ∧ Below w.heap.size w w' := by
  have HX : Hid (∀ w1, Below ((w.alloc (.cells #[.int .i64 k, .bool x, .int .i64 n, .string s, .slice ka kl kc, .slice la ll lc] 26)).alloc (.cells #[.int .i64 k', .bool x', .int .i64 n', .string s', .slice ka' kl' kc', .slice la' ll' lc'] 26)).heap.size ((w.alloc (.cells #[.int .i64 k, .bool x, .int .i64 n, .string s, .slice ka kl kc, .slice la ll lc] 26)).alloc (.cells #[.int .i64 k', .bool x', .int .i64 n', .string s', .slice ka' kl' kc', .slice la' ll' lc'] 26)) w1 → _) := fun w1 hb => two_boxes (w := w) (w1 := w1) (A := #[.int .i64 k, .bool x, .int .i64 n, .string s, .slice ka kl kc, .slice la ll lc]) (A' := #[.int .i64 k', .bool x', .int .i64 n', .string s', .slice ka' kl' kc', .slice la' ll' lc']) hb
  have HB := hidE (HX.out _ (Below.refl _ _)).1
  have e1 : (k == 1) = false := ne_bool h1
  have e3 : (k == 3) = false := ne_bool h3
  have e5 : (k == 5) = false := ne_bool h5
  have e4 : (k == 4) = false := ne_bool h4
  have ek : (k == k') = true := eq_bool he
  clear he h1 h3 h5 h4
  go_enter Tryz.func30, Tryz.ntmps30
  go_wp2_with fail
  refine (ints_any _ _ _).mono ?_
  rintro e w' ⟨rfl, rfl⟩
  go_wp2_with fail
  go_ret
  exact ⟨rfl, HB.out⟩

set_option maxRecDepth 100000 in
set_option maxHeartbeats 2000000 in
theorem refcmp_bool (k : Int) (x : Bool) (n : Int) (s : ByteArray) (ka : Option Addr) (kl kc : Nat) (la : Option Addr) (ll lc : Nat) (k' : Int) (x' : Bool) (n' : Int) (s' : ByteArray) (ka' : Option Addr) (kl' kc' : Nat) (la' : Option Addr) (ll' lc' : Nat) (w : World) (he : k = k') (hk : k = 1) :
    Calls Tryz.prog 30 #[.agg #[.int .i64 k, .bool x, .int .i64 n, .string s, .slice ka kl kc, .slice la ll lc], .agg #[.int .i64 k', .bool x', .int .i64 n', .string s', .slice ka' kl' kc', .slice la' ll' lc']] w fun e w' => e = .returned (.int .i64 (cmpI (truthI x) (truthI x'))) ∧ Below w.heap.size w w' := by
  have HX : Hid (∀ w1, Below ((w.alloc (.cells #[.int .i64 k, .bool x, .int .i64 n, .string s, .slice ka kl kc, .slice la ll lc] 26)).alloc (.cells #[.int .i64 k', .bool x', .int .i64 n', .string s', .slice ka' kl' kc', .slice la' ll' lc'] 26)).heap.size ((w.alloc (.cells #[.int .i64 k, .bool x, .int .i64 n, .string s, .slice ka kl kc, .slice la ll lc] 26)).alloc (.cells #[.int .i64 k', .bool x', .int .i64 n', .string s', .slice ka' kl' kc', .slice la' ll' lc'] 26)) w1 → _) := fun w1 hb => two_boxes (w := w) (w1 := w1) (A := #[.int .i64 k, .bool x, .int .i64 n, .string s, .slice ka kl kc, .slice la ll lc]) (A' := #[.int .i64 k', .bool x', .int .i64 n', .string s', .slice ka' kl' kc', .slice la' ll' lc']) hb
  have HB := hidE (HX.out _ (Below.refl _ _)).1
  have e1 : (k == 1) = true := eq_bool hk
  have e3 : (k == 3) = false := ne_bool (by omega)
  have e5 : (k == 5) = false := ne_bool (by omega)
  have e4 : (k == 4) = false := ne_bool (by omega)
  have ek : (k == k') = true := eq_bool he
  clear he hk
  cases x with
  | true =>
    cases x' with
    | true =>
      go_enter Tryz.func30, Tryz.ntmps30
      go_wp2_with fail
      go_ret
      exact ⟨rfl, HB.out⟩
    | false =>
      go_enter Tryz.func30, Tryz.ntmps30
      go_wp2_with fail
      go_ret
      exact ⟨rfl, HB.out⟩
  | false =>
    cases x' with
    | true =>
      go_enter Tryz.func30, Tryz.ntmps30
      go_wp2_with fail
      go_ret
      exact ⟨rfl, HB.out⟩
    | false =>
      go_enter Tryz.func30, Tryz.ntmps30
      go_wp2_with fail
      go_ret
      exact ⟨rfl, HB.out⟩

set_option maxRecDepth 100000 in
set_option maxHeartbeats 2000000 in
theorem refcmp_text (k : Int) (x : Bool) (n : Int) (s : ByteArray) (ka : Option Addr) (kl kc : Nat) (la : Option Addr) (ll lc : Nat) (k' : Int) (x' : Bool) (n' : Int) (s' : ByteArray) (ka' : Option Addr) (kl' kc' : Nat) (la' : Option Addr) (ll' lc' : Nat) (w : World) (he : k = k') (hk : k = 3) (hs : s.size ≤ 9223372036854775807) (hs' : s'.size ≤ 9223372036854775807) :
    Calls Tryz.prog 30 #[.agg #[.int .i64 k, .bool x, .int .i64 n, .string s, .slice ka kl kc, .slice la ll lc], .agg #[.int .i64 k', .bool x', .int .i64 n', .string s', .slice ka' kl' kc', .slice la' ll' lc']] w fun e w' => e = .returned (.int .i64 (Lib.compareBytes s.data.toList s'.data.toList)) ∧ Below w.heap.size w w' := by
  have HX : Hid (∀ w1, Below ((w.alloc (.cells #[.int .i64 k, .bool x, .int .i64 n, .string s, .slice ka kl kc, .slice la ll lc] 26)).alloc (.cells #[.int .i64 k', .bool x', .int .i64 n', .string s', .slice ka' kl' kc', .slice la' ll' lc'] 26)).heap.size ((w.alloc (.cells #[.int .i64 k, .bool x, .int .i64 n, .string s, .slice ka kl kc, .slice la ll lc] 26)).alloc (.cells #[.int .i64 k', .bool x', .int .i64 n', .string s', .slice ka' kl' kc', .slice la' ll' lc'] 26)) w1 → _) := fun w1 hb => two_boxes (w := w) (w1 := w1) (A := #[.int .i64 k, .bool x, .int .i64 n, .string s, .slice ka kl kc, .slice la ll lc]) (A' := #[.int .i64 k', .bool x', .int .i64 n', .string s', .slice ka' kl' kc', .slice la' ll' lc']) hb
  have HB := hidE (HX.out _ (Below.refl _ _)).1
  have e1 : (k == 1) = false := ne_bool (by omega)
  have e3 : (k == 3) = true := eq_bool hk
  have e5 : (k == 5) = false := ne_bool (by omega)
  have e4 : (k == 4) = false := ne_bool (by omega)
  have ek : (k == k') = true := eq_bool he
  clear he hk
  have HT : Hid (∀ W, Calls Tryz.prog 69 #[.string s, .string s'] W fun e w' => e = .returned (.int .i64 (Lib.compareBytes s.data.toList s'.data.toList)) ∧ ∃ q, w' = W.drewN q) := fun W => texts_any s s' W hs hs'
  go_enter Tryz.func30, Tryz.ntmps30
  go_wp2_with fail
  refine (HT.out _).mono ?_
  rintro e w' ⟨rfl, q, rfl⟩
  go_wp2_with fail
  go_ret
  exact ⟨rfl, below_drewN HB.out _⟩

set_option maxRecDepth 100000 in
set_option maxHeartbeats 2000000 in
theorem refcmp_list (k : Int) (x : Bool) (n : Int) (s : ByteArray) (ka : Option Addr) (kl kc : Nat) (la : Option Addr) (ll lc : Nat) (k' : Int) (x' : Bool) (n' : Int) (s' : ByteArray) (ka' : Option Addr) (kl' kc' : Nat) (la' : Option Addr) (ll' lc' : Nat) (w : World) (he : k = k') (hk : k = 4) (res : Int) (HR : Hid (∀ W, Below w.heap.size w W → Calls Tryz.prog 33 #[.slice la ll lc, .slice la' ll' lc'] W fun e w' => e = .returned (.int .i64 res) ∧ Below W.heap.size W w')) :
    Calls Tryz.prog 30 #[.agg #[.int .i64 k, .bool x, .int .i64 n, .string s, .slice ka kl kc, .slice la ll lc], .agg #[.int .i64 k', .bool x', .int .i64 n', .string s', .slice ka' kl' kc', .slice la' ll' lc']] w fun e w' => e = .returned (.int .i64 (res)) ∧ Below w.heap.size w w' := by
  have HX : Hid (∀ w1, Below ((w.alloc (.cells #[.int .i64 k, .bool x, .int .i64 n, .string s, .slice ka kl kc, .slice la ll lc] 26)).alloc (.cells #[.int .i64 k', .bool x', .int .i64 n', .string s', .slice ka' kl' kc', .slice la' ll' lc'] 26)).heap.size ((w.alloc (.cells #[.int .i64 k, .bool x, .int .i64 n, .string s, .slice ka kl kc, .slice la ll lc] 26)).alloc (.cells #[.int .i64 k', .bool x', .int .i64 n', .string s', .slice ka' kl' kc', .slice la' ll' lc'] 26)) w1 → _) := fun w1 hb => two_boxes (w := w) (w1 := w1) (A := #[.int .i64 k, .bool x, .int .i64 n, .string s, .slice ka kl kc, .slice la ll lc]) (A' := #[.int .i64 k', .bool x', .int .i64 n', .string s', .slice ka' kl' kc', .slice la' ll' lc']) hb
  have HB := hidE (HX.out _ (Below.refl _ _)).1
  have e1 : (k == 1) = false := ne_bool (by omega)
  have e3 : (k == 3) = false := ne_bool (by omega)
  have e5 : (k == 5) = false := ne_bool (by omega)
  have e4 : (k == 4) = true := eq_bool hk
  have ek : (k == k') = true := eq_bool he
  clear he hk
  have HC := hidE (HR.out _ HB.out)
  go_enter Tryz.func30, Tryz.ntmps30
  go_wp2_with fail
  refine HC.out.mono ?_
  rintro e w2 ⟨rfl, hb2⟩
  have HF := hidE (below_on HB.out hb2)
  clear hb2
  go_wp2_with fail
  go_ret
  exact ⟨rfl, HF.out⟩

end Go.Proofs.YtbpmhgcjefpigaaGreatDoor

namespace Go.Proofs.YtbpmhgcjefpigaaGreatDoor
open Go.RowKit Go.Shelf
set_option linter.unusedVariables false

theorem cmpB_self : ∀ a : List UInt8, Lib.compareBytes a a = 0
  | [] => rfl
  | a :: r => by rw [Lib.compareBytes, if_neg (by simp), if_neg (by simp)]; exact cmpB_self r
theorem cmpB_zero : ∀ {a b : List UInt8}, Lib.compareBytes a b = 0 → a = b
  | [], [], _ => rfl
  | [], _ :: _, h => by simp [Lib.compareBytes] at h
  | _ :: _, [], h => by simp [Lib.compareBytes] at h
  | a :: r, b :: t, h => by
    rw [Lib.compareBytes] at h
    by_cases h1 : a < b
    · rw [if_pos h1] at h; simp at h
    · rw [if_neg h1] at h
      by_cases h2 : b < a
      · rw [if_pos h2] at h; simp at h
      · rw [if_neg h2] at h
        have e : a = b := by
          apply UInt8.toNat_inj.mp
          have h3 : ¬ a.toNat < b.toNat := fun c => h1 (UInt8.lt_iff_toNat_lt.mpr c)
          have h4 : ¬ b.toNat < a.toNat := fun c => h2 (UInt8.lt_iff_toNat_lt.mpr c)
          omega
        rw [e, cmpB_zero h]
theorem cmpB_ne {x y : ByteArray} (h : x ≠ y) : Lib.compareBytes x.data.toList y.data.toList ≠ 0 := by
  intro c
  apply h
  have := cmpB_zero c
  cases x; cases y
  simp at this
  rw [this]

set_option maxRecDepth 100000 in
set_option maxHeartbeats 4000000 in
theorem refcmp_map (k : Int) (x : Bool) (n : Int) (s : ByteArray) (ka : Option Addr) (ks : List ByteArray) (kc : Nat) (la : Option Addr) (ll lc : Nat) (k' : Int) (x' : Bool) (n' : Int) (s' : ByteArray) (ka' : Option Addr) (ks' : List ByteArray) (kc' : Nat) (la' : Option Addr) (ll' lc' : Nat) (w : World) (B : Nat) (hB : B ≤ w.heap.size) (hK : KeysLie B w ka ks) (hK' : KeysLie B w ka' ks') (h1 : ks.length ≤ kc) (h2 : kc ≤ maxLen) (h3 : ks'.length ≤ kc') (h4 : kc' ≤ maxLen) (he : k = k') (hk : k = 5) (res r : Int) (HRES : Hid (r = if agS ks ks' = 0 then res else agS ks ks')) (HR : Hid (∀ W, Below w.heap.size w W → Calls Tryz.prog 33 #[.slice la ll lc, .slice la' ll' lc'] W fun e w' => e = .returned (.int .i64 res) ∧ Below W.heap.size W w')) :
    Calls Tryz.prog 30 #[.agg #[.int .i64 k, .bool x, .int .i64 n, .string s, .slice ka ks.length kc, .slice la ll lc], .agg #[.int .i64 k', .bool x', .int .i64 n', .string s', .slice ka' ks'.length kc', .slice la' ll' lc']] w fun e w' => e = .returned (.int .i64 r) ∧ Below w.heap.size w w' := by
  unfold maxLen at h2 h4
  have HX : Hid (∀ w1, Below ((w.alloc (.cells #[.int .i64 k, .bool x, .int .i64 n, .string s, .slice ka ks.length kc, .slice la ll lc] 26)).alloc (.cells #[.int .i64 k', .bool x', .int .i64 n', .string s', .slice ka' ks'.length kc', .slice la' ll' lc'] 26)).heap.size ((w.alloc (.cells #[.int .i64 k, .bool x, .int .i64 n, .string s, .slice ka ks.length kc, .slice la ll lc] 26)).alloc (.cells #[.int .i64 k', .bool x', .int .i64 n', .string s', .slice ka' ks'.length kc', .slice la' ll' lc'] 26)) w1 → _) := fun w1 hb => two_boxes (w := w) (w1 := w1) (A := #[.int .i64 k, .bool x, .int .i64 n, .string s, .slice ka ks.length kc, .slice la ll lc]) (A' := #[.int .i64 k', .bool x', .int .i64 n', .string s', .slice ka' ks'.length kc', .slice la' ll' lc']) hb
  have e1 : (k == 1) = false := ne_bool (by omega)
  have e3 : (k == 3) = false := ne_bool (by omega)
  have e5 : (k == 5) = true := eq_bool hk
  have e4 : (k == 4) = false := ne_bool (by omega)
  have ek : (k == k') = true := eq_bool he
  clear he hk
  have H0 := hidE (Below.refl ((w.alloc (.cells #[.int .i64 k, .bool x, .int .i64 n, .string s, .slice ka ks.length kc, .slice la ll lc] 26)).alloc (.cells #[.int .i64 k', .bool x', .int .i64 n', .string s', .slice ka' ks'.length kc', .slice la' ll' lc'] 26)).heap.size ((w.alloc (.cells #[.int .i64 k, .bool x, .int .i64 n, .string s, .slice ka ks.length kc, .slice la ll lc] 26)).alloc (.cells #[.int .i64 k', .bool x', .int .i64 n', .string s', .slice ka' ks'.length kc', .slice la' ll' lc'] 26)))
  have HBY : Hid (∀ w1, Below ((w.alloc (.cells #[.int .i64 k, .bool x, .int .i64 n, .string s, .slice ka ks.length kc, .slice la ll lc] 26)).alloc (.cells #[.int .i64 k', .bool x', .int .i64 n', .string s', .slice ka' ks'.length kc', .slice la' ll' lc'] 26)).heap.size ((w.alloc (.cells #[.int .i64 k, .bool x, .int .i64 n, .string s, .slice ka ks.length kc, .slice la ll lc] 26)).alloc (.cells #[.int .i64 k', .bool x', .int .i64 n', .string s', .slice ka' ks'.length kc', .slice la' ll' lc'] 26)) w1 → Below w.heap.size w w1 ∧ w1.cell? ⟨w.heap.size, 4, none⟩ = some (.slice ka ks.length kc) ∧ w1.cell? ⟨w.heap.size + 1, 4, none⟩ = some (.slice ka' ks'.length kc') ∧ w1.cell? ⟨w.heap.size, 5, none⟩ = some (.slice la ll lc) ∧ w1.cell? ⟨w.heap.size + 1, 5, none⟩ = some (.slice la' ll' lc')) := by
    intro w1 hb
    obtain ⟨a, f, g⟩ := HX.out w1 hb
    exact ⟨a, f 4 _ rfl, g 4 _ rfl, f 5 _ rfl, g 5 _ rfl⟩
  clear HX
  have HKK := hidE (And.intro hK hK')
  clear hK hK'
  go_enter Tryz.func30, Tryz.ntmps30
  go_wp2_with fail
  generalize ((w.alloc (.cells #[.int .i64 k, .bool x, .int .i64 n, .string s, .slice ka ks.length kc, .slice la ll lc] 26)).alloc (.cells #[.int .i64 k', .bool x', .int .i64 n', .string s', .slice ka' ks'.length kc', .slice la' ll' lc'] 26)) = W1 at *
  go_loopw [5] (fun i wr => ∃ j : Nat, j ≤ ks.length ∧ j ≤ ks'.length ∧ i = .int .i64 j ∧ Below W1.heap.size W1 wr ∧ agS (ks.drop j) (ks'.drop j) = agS ks ks') (fun i _ => ks.length - (intOf i).toNat)
  case atStart => exact ⟨0, Nat.zero_le _, Nat.zero_le _, rfl, Below.refl _ _, rfl⟩
  case round =>
    obtain ⟨j, hj, hj2, rfl, hbr, hag⟩ := hrel
    have HAG := hidE hag
    have HBR := hidE hbr
    obtain ⟨hbw, q4, r4, q5, r5⟩ := HBY.out wr hbr
    have HBW := hidE hbw
    clear hag hbr hbw
    by_cases hja : j < ks.length
    · by_cases hjb : j < ks'.length
      · obtain ⟨bk, off, rfl, hbk, hkey⟩ := (HKK.out.1.below (HBW.out.mono hB)).resolve_left (by intro e; subst e; simp at hja)
        obtain ⟨bk', off', rfl, hbk', hkey'⟩ := (HKK.out.2.below (HBW.out.mono hB)).resolve_left (by intro e; subst e; simp at hjb)
        obtain ⟨hc, hz⟩ := hkey j hja
        obtain ⟨hc', hz'⟩ := hkey' j hjb
        unfold maxLen at hz hz'
        have HST := hidE (agS_drop (a := ks) (b := ks') (i := j) hja hjb)
        generalize ks.getD j ⟨#[]⟩ = y at *
        generalize ks'.getD j ⟨#[]⟩ = y' at *
        clear hkey hkey' HKK
        by_cases hy : y = y'
        · subst hy
          have HN : Hid (agS (ks.drop (j + 1)) (ks'.drop (j + 1)) = agS ks ks') := by
            show _ = _
            have := HST.out
            rw [if_pos (cmpB_self _), HAG.out] at this
            exact this.symm
          clear HST HAG
          go_wp2_with fail
          go_quiet (fail)
          go_wp2_with fail
          go_roundw
          case rel => exact ⟨j + 1, by omega, by omega, by go_num, below_drewN HBR.out _, HN.out⟩
          case measure => simp [intOf]; omega
        · have HZ := hidE (cmpB_ne hy)
          have HN : Hid (Lib.compareBytes y.data.toList y'.data.toList = agS ks ks') := by
            show _ = _
            have := HST.out
            rw [if_neg HZ.out, HAG.out] at this
            exact this.symm
          have HE : Hid (r = Lib.compareBytes y.data.toList y'.data.toList) := by
            show _ = _
            rw [HRES.out, ← HN.out, if_neg HZ.out]
          have ey : (y.toList == y'.toList) = false := beq_eq_false_iff_ne.2 (fun c => hy (by have := c; simp only [ByteArray.toList_eq] at this; cases y; cases y'; simp at this; rw [this]))
          have HT : Hid (∀ W, Calls Tryz.prog 69 #[.string y, .string y'] W fun e w' => e = .returned (.int .i64 (Lib.compareBytes y.data.toList y'.data.toList)) ∧ ∃ q, w' = W.drewN q) := fun W => texts_any y y' W hz hz'
          clear HST HAG HZ HN
          go_wp2_with fail
          go_quiet (fail)
          go_wp2_with fail
          go_region_with (go_at_call 69; refine (HT.out _).mono ?_; rintro e w' ⟨rfl, q, rfl⟩)
          all_goals
            go_wp2_with fail
            go_ret
            exact ⟨by rw [HE.out]; rfl, below_drewN HBW.out _⟩
      · have HN : Hid (agS ks ks' = cmpI ks.length ks'.length) := by show _ = _; rw [← HAG.out, agS_end (by omega)]
        clear HAG HKK
        by_cases hl : ks.length = ks'.length
        · exfalso; omega
        · have el : ((ks.length : Int) == (ks'.length : Int)) = false := ne_bool (by omega)
          have HE : Hid (r = cmpI ks.length ks'.length) := by
            show _ = _
            rw [HRES.out, HN.out, if_neg]
            unfold cmpI
            by_cases c : (ks.length : Int) < ks'.length
            · rw [if_pos c]; decide
            · rw [if_neg c, if_pos (by omega)]; decide
          clear HN hl
          go_wp2_with fail
          refine (ints_any _ _ _).mono ?_
          rintro e w2 ⟨rfl, rfl⟩
          go_wp2_with fail
          go_ret
          exact ⟨by rw [HE.out]; rfl, HBW.out⟩
    · have HN : Hid (agS ks ks' = cmpI ks.length ks'.length) := by show _ = _; rw [← HAG.out, agS_end (by omega)]
      clear HAG HKK
      by_cases hl : ks.length = ks'.length
      · have el : ((ks.length : Int) == (ks'.length : Int)) = true := eq_bool (by omega)
        have HE : Hid (r = res) := by
          show _ = _
          rw [HRES.out, if_pos (by rw [HN.out, hl]; exact cmpI_self _)]
        have HC := hidE (HR.out wr HBW.out)
        clear HN
        go_wp2_with fail
        refine HC.out.mono ?_
        rintro e w2 ⟨rfl, hb2⟩
        have HF := hidE (below_on HBW.out hb2)
        clear hb2 q4 r4 q5 r5
        go_wp2_with fail
        go_ret
        exact ⟨by rw [HE.out]; rfl, HF.out⟩
      · have el : ((ks.length : Int) == (ks'.length : Int)) = false := ne_bool (by omega)
        have HE : Hid (r = cmpI ks.length ks'.length) := by
          show _ = _
          rw [HRES.out, HN.out, if_neg]
          unfold cmpI
          by_cases c : (ks.length : Int) < ks'.length
          · rw [if_pos c]; decide
          · rw [if_neg c, if_pos (by omega)]; decide
        clear HN hl
        go_wp2_with fail
        refine (ints_any _ _ _).mono ?_
        rintro e w2 ⟨rfl, rfl⟩
        go_wp2_with fail
        go_ret
        exact ⟨by rw [HE.out]; rfl, HBW.out⟩
end Go.Proofs.YtbpmhgcjefpigaaGreatDoor

