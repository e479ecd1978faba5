/- The document's order of values is the program's. The document's equality of values, where no list is looked into; the truth of a value. -/
import Derived.Test.YtbpmhgcjefpigaaGreatDoorJoin4
import Derived.Test.YtbpmhgcjefpigaaGreatDoorJoin5
namespace Go.Proofs.YtbpmhgcjefpigaaGreatDoor
open Go.RowKit Go.Shelf
set_option linter.unusedVariables false

theorem refcmp_any : ∀ (T : Tree) (B : Nat) (v v' : Value) (T' : Tree) (w : World), B ≤ w.heap.size → Lies B w v T → Lies B w v' T' → Known T → Known T' →
    Calls Tryz.prog 30 #[v, v'] w fun e w' => e = .returned (.int .i64 (ordT T T')) ∧ Below w.heap.size w w' := by
  refine Tree.ind ?_
  intro k x n s ks ts ih B v v' T' w hB hv hv' hkn hkn'
  obtain ⟨k', x', n', s', ks', ts'⟩ := T'
  simp only [Lies] at hv hv'
  simp only [Known] at hkn hkn'
  obtain ⟨ka, kc, la, lc, rfl, ⟨hs1, hs2, hs3, hs4, hs5⟩, hk, ht⟩ := hv
  obtain ⟨ka', kc', la', lc', rfl, ⟨gs1, gs2, gs3, gs4, gs5⟩, hk', ht'⟩ := hv'
  have ht0 : ListLies B w la ts := ht
  have ht0' : ListLies B w la' ts' := ht'
  have hord : ordT (.mk k x n s ks ts) (.mk k' x' n' s' ks' ts') = (if cmpI (rankN k) (rankN k') = 0 then
      (if k = 5 then (if agS ks ks' = 0 then ordL ts ts' else agS ks ks') else if k = 4 then ordL ts ts' else if k = 3 then Lib.compareBytes s.data.toList s'.data.toList else if k = 1 then cmpI (truthI x) (truthI x') else cmpI n n')
    else cmpI (rankN k) (rankN k')) := by rw [ordT]
  have hR : Hid (∀ W, Below w.heap.size w W → Calls Tryz.prog 33 #[.slice la ts.length lc, .slice la' ts'.length lc'] W fun e w' => e = .returned (.int .i64 (ordL ts ts')) ∧ Below W.heap.size W w') :=
    fun W hb => refrows_any ts ih B la la' lc lc' ts' W (Nat.le_trans hB hb.size) (ht0.below (hb.mono hB)) (ht0'.below (hb.mono hB)) hs4 hs5 gs4 gs5 hkn.2 hkn'.2
  have hm : maxLen = 9223372036854775807 := rfl
  by_cases hkk : k = k'
  · have h0 : cmpI (rankN k) (rankN k') = 0 := by rw [hkk]; exact cmpI_self _
    rw [hord, if_pos h0]
    by_cases k5 : k = 5
    · rw [if_pos k5]
      exact refcmp_map k x n s ka ks kc la ts.length lc k' x' n' s' ka' ks' kc' la' ts'.length lc' w B hB hk hk' hs2 hs3 gs2 gs3 hkk k5 (ordL ts ts') _ rfl hR
    rw [if_neg k5]
    by_cases k4 : k = 4
    · rw [if_pos k4]
      exact refcmp_list k x n s ka ks.length kc la ts.length lc k' x' n' s' ka' ks'.length kc' la' ts'.length lc' w hkk k4 _ hR
    rw [if_neg k4]
    by_cases k3 : k = 3
    · rw [if_pos k3]
      exact refcmp_text k x n s ka ks.length kc la ts.length lc k' x' n' s' ka' ks'.length kc' la' ts'.length lc' w hkk k3 (by omega) (by omega)
    rw [if_neg k3]
    by_cases k1 : k = 1
    · rw [if_pos k1]
      exact refcmp_bool k x n s ka ks.length kc la ts.length lc k' x' n' s' ka' ks'.length kc' la' ts'.length lc' w hkk k1
    rw [if_neg k1]
    exact refcmp_num k x n s ka ks.length kc la ts.length lc k' x' n' s' ka' ks'.length kc' la' ts'.length lc' w hkk k1 k3 k5 k4
  · have h0 := rank_ne k k' hkk hkn.1.1 hkn.1.2 hkn'.1.1 hkn'.1.2
    rw [hord, if_neg h0]
    exact refcmp_ne k x n s ka ks.length kc la ts.length lc k' x' n' s' ka' ks'.length kc' la' ts'.length lc' w hkk hkn.1.1 hkn.1.2 hkn'.1.1 hkn'.1.2

/-- A list of values held against another, in the document's words. -/
theorem refrows_all (a : List Tree) (B : Nat) (la lb : Option Addr) (ca cb : Nat) (b : List Tree) (w : World) (hB : B ≤ w.heap.size) (ha : ListLies B w la a) (hb : ListLies B w lb b) (h1 : a.length ≤ ca) (h2 : ca ≤ maxLen) (h3 : b.length ≤ cb) (h4 : cb ≤ maxLen) (hka : KnownL a) (hkb : KnownL b) :
    Calls Tryz.prog 33 #[.slice la a.length ca, .slice lb b.length cb] w fun e w' => e = .returned (.int .i64 (ordL a b)) ∧ Below w.heap.size w w' :=
  refrows_any a (fun t _ => refcmp_any t) B la lb ca cb b w hB ha hb h1 h2 h3 h4 hka hkb
end Go.Proofs.YtbpmhgcjefpigaaGreatDoor

namespace Go.Proofs.YtbpmhgcjefpigaaGreatDoor
open Go.RowKit Go.Shelf
set_option linter.unusedVariables false

set_option maxRecDepth 100000 in
set_option maxHeartbeats 2000000 in
theorem refeq_null1 (k : Int) (x : Bool) (n : Int) (s : ByteArray) (ka : Option Addr) (kl kc : Nat) (la : Option Addr) (ll lc : Nat) (k' : Int) (x' : Bool) (n' : Int) (s' : ByteArray) (ka' : Option Addr) (kl' kc' : Nat) (la' : Option Addr) (ll' lc' : Nat) (w : World) (h : k = 0) :
    Calls Tryz.prog 35 #[.agg #[.int .i64 k, .bool x, .int .i64 n, .string s, .slice ka kl kc, .slice la ll lc], .agg #[.int .i64 k', .bool x', .int .i64 n', .string s', .slice ka' kl' kc', .slice la' ll' lc']] w fun e w' => e = .returned (.int .i64 (1)) ∧ Below w.heap.size w w' := by
  have HX : Hid (∀ w1, Below ((w.alloc (.cells #[.int .i64 k, .bool x, .int .i64 n, .string s, .slice ka kl kc, .slice la ll lc] 26)).alloc (.cells #[.int .i64 k', .bool x', .int .i64 n', .string s', .slice ka' kl' kc', .slice la' ll' lc'] 26)).heap.size ((w.alloc (.cells #[.int .i64 k, .bool x, .int .i64 n, .string s, .slice ka kl kc, .slice la ll lc] 26)).alloc (.cells #[.int .i64 k', .bool x', .int .i64 n', .string s', .slice ka' kl' kc', .slice la' ll' lc'] 26)) w1 → _) := fun w1 hb => two_boxes (w := w) (w1 := w1) (A := #[.int .i64 k, .bool x, .int .i64 n, .string s, .slice ka kl kc, .slice la ll lc]) (A' := #[.int .i64 k', .bool x', .int .i64 n', .string s', .slice ka' kl' kc', .slice la' ll' lc']) hb
  have HB := hidE (HX.out _ (Below.refl _ _)).1
  have e0 : (k == 0) = true := eq_bool h
  clear h
  go_enter Tryz.func35, Tryz.ntmps35
  go_wp2_with fail
  go_ret
  exact ⟨rfl, HB.out⟩

set_option maxRecDepth 100000 in
set_option maxHeartbeats 2000000 in
theorem refeq_null2 (k : Int) (x : Bool) (n : Int) (s : ByteArray) (ka : Option Addr) (kl kc : Nat) (la : Option Addr) (ll lc : Nat) (k' : Int) (x' : Bool) (n' : Int) (s' : ByteArray) (ka' : Option Addr) (kl' kc' : Nat) (la' : Option Addr) (ll' lc' : Nat) (w : World) (h : k ≠ 0) (h' : k' = 0) :
    Calls Tryz.prog 35 #[.agg #[.int .i64 k, .bool x, .int .i64 n, .string s, .slice ka kl kc, .slice la ll lc], .agg #[.int .i64 k', .bool x', .int .i64 n', .string s', .slice ka' kl' kc', .slice la' ll' lc']] w fun e w' => e = .returned (.int .i64 (1)) ∧ Below w.heap.size w w' := by
  have HX : Hid (∀ w1, Below ((w.alloc (.cells #[.int .i64 k, .bool x, .int .i64 n, .string s, .slice ka kl kc, .slice la ll lc] 26)).alloc (.cells #[.int .i64 k', .bool x', .int .i64 n', .string s', .slice ka' kl' kc', .slice la' ll' lc'] 26)).heap.size ((w.alloc (.cells #[.int .i64 k, .bool x, .int .i64 n, .string s, .slice ka kl kc, .slice la ll lc] 26)).alloc (.cells #[.int .i64 k', .bool x', .int .i64 n', .string s', .slice ka' kl' kc', .slice la' ll' lc'] 26)) w1 → _) := fun w1 hb => two_boxes (w := w) (w1 := w1) (A := #[.int .i64 k, .bool x, .int .i64 n, .string s, .slice ka kl kc, .slice la ll lc]) (A' := #[.int .i64 k', .bool x', .int .i64 n', .string s', .slice ka' kl' kc', .slice la' ll' lc']) hb
  have HB := hidE (HX.out _ (Below.refl _ _)).1
  have e0 : (k == 0) = false := ne_bool h
  have f0 : (k' == 0) = true := eq_bool h'
  clear h h'
  go_enter Tryz.func35, Tryz.ntmps35
  go_wp2_with fail
  go_ret
  exact ⟨rfl, HB.out⟩

set_option maxRecDepth 100000 in
set_option maxHeartbeats 2000000 in
theorem refeq_ne (k : Int) (x : Bool) (n : Int) (s : ByteArray) (ka : Option Addr) (kl kc : Nat) (la : Option Addr) (ll lc : Nat) (k' : Int) (x' : Bool) (n' : Int) (s' : ByteArray) (ka' : Option Addr) (kl' kc' : Nat) (la' : Option Addr) (ll' lc' : Nat) (w : World) (h : k ≠ 0) (h' : k' ≠ 0) (hne : k ≠ k') :
    Calls Tryz.prog 35 #[.agg #[.int .i64 k, .bool x, .int .i64 n, .string s, .slice ka kl kc, .slice la ll lc], .agg #[.int .i64 k', .bool x', .int .i64 n', .string s', .slice ka' kl' kc', .slice la' ll' lc']] w fun e w' => e = .returned (.int .i64 (0)) ∧ Below w.heap.size w w' := by
  have HX : Hid (∀ w1, Below ((w.alloc (.cells #[.int .i64 k, .bool x, .int .i64 n, .string s, .slice ka kl kc, .slice la ll lc] 26)).alloc (.cells #[.int .i64 k', .bool x', .int .i64 n', .string s', .slice ka' kl' kc', .slice la' ll' lc'] 26)).heap.size ((w.alloc (.cells #[.int .i64 k, .bool x, .int .i64 n, .string s, .slice ka kl kc, .slice la ll lc] 26)).alloc (.cells #[.int .i64 k', .bool x', .int .i64 n', .string s', .slice ka' kl' kc', .slice la' ll' lc'] 26)) w1 → _) := fun w1 hb => two_boxes (w := w) (w1 := w1) (A := #[.int .i64 k, .bool x, .int .i64 n, .string s, .slice ka kl kc, .slice la ll lc]) (A' := #[.int .i64 k', .bool x', .int .i64 n', .string s', .slice ka' kl' kc', .slice la' ll' lc']) hb
  have HB := hidE (HX.out _ (Below.refl _ _)).1
  have e0 : (k == 0) = false := ne_bool h
  have f0 : (k' == 0) = false := ne_bool h'
  have e1 : (k == k') = false := ne_bool hne
  clear h h' hne
  go_enter Tryz.func35, Tryz.ntmps35
  go_wp2_with fail
  go_ret
  exact ⟨rfl, HB.out⟩

set_option maxRecDepth 100000 in
set_option maxHeartbeats 2000000 in
theorem refeq_plain (k : Int) (x : Bool) (n : Int) (s : ByteArray) (ka : Option Addr) (kl kc : Nat) (la : Option Addr) (ll lc : Nat) (k' : Int) (x' : Bool) (n' : Int) (s' : ByteArray) (ka' : Option Addr) (kl' kc' : Nat) (la' : Option Addr) (ll' lc' : Nat) (w : World) (h : k ≠ 0) (h' : k' ≠ 0) (he : k = k') (h4 : k ≠ 4) (h5 : k ≠ 5) (res : Int) (HR : Hid (∀ W, Below w.heap.size w W → Calls Tryz.prog 30 #[.agg #[.int .i64 k, .bool x, .int .i64 n, .string s, .slice ka kl kc, .slice la ll lc], .agg #[.int .i64 k', .bool x', .int .i64 n', .string s', .slice ka' kl' kc', .slice la' ll' lc']] W fun e w' => e = .returned (.int .i64 res) ∧ Below W.heap.size W w')) :
    Calls Tryz.prog 35 #[.agg #[.int .i64 k, .bool x, .int .i64 n, .string s, .slice ka kl kc, .slice la ll lc], .agg #[.int .i64 k', .bool x', .int .i64 n', .string s', .slice ka' kl' kc', .slice la' ll' lc']] w fun e w' => e = .returned (.int .i64 (truthI (res == 0))) ∧ Below w.heap.size w w' := by
  have HX : Hid (∀ w1, Below ((w.alloc (.cells #[.int .i64 k, .bool x, .int .i64 n, .string s, .slice ka kl kc, .slice la ll lc] 26)).alloc (.cells #[.int .i64 k', .bool x', .int .i64 n', .string s', .slice ka' kl' kc', .slice la' ll' lc'] 26)).heap.size ((w.alloc (.cells #[.int .i64 k, .bool x, .int .i64 n, .string s, .slice ka kl kc, .slice la ll lc] 26)).alloc (.cells #[.int .i64 k', .bool x', .int .i64 n', .string s', .slice ka' kl' kc', .slice la' ll' lc'] 26)) w1 → _) := fun w1 hb => two_boxes (w := w) (w1 := w1) (A := #[.int .i64 k, .bool x, .int .i64 n, .string s, .slice ka kl kc, .slice la ll lc]) (A' := #[.int .i64 k', .bool x', .int .i64 n', .string s', .slice ka' kl' kc', .slice la' ll' lc']) hb
  have HB := hidE (HX.out _ (Below.refl _ _)).1
  have HC := hidE (HR.out _ HB.out)
  have e0 : (k == 0) = false := ne_bool h
  have f0 : (k' == 0) = false := ne_bool h'
  have e1 : (k == k') = true := eq_bool he
  have e4 : (k != 4) = true := bne_iff_ne.2 h4
  have e5 : (k != 5) = true := bne_iff_ne.2 h5
  clear h h' he h4 h5
  generalize hr : (res == 0) = b0
  go_enter Tryz.func35, Tryz.ntmps35
  go_wp2_with fail
  refine HC.out.mono ?_
  rintro e w2 ⟨rfl, hb2⟩
  have HF := hidE (below_on HB.out hb2)
  clear hb2
  go_wp2_with fail
  refine (reftruth_any _ _).mono ?_
  rintro e w3 ⟨rfl, rfl⟩
  go_wp2_with fail
  go_ret
  exact ⟨rfl, HF.out⟩

end Go.Proofs.YtbpmhgcjefpigaaGreatDoor

