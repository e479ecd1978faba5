/- The document's order of values in rows. The document's order of two values, kind by kind. -/
import Derived.Test.YtbpmhgcjefpigaaGreatDoorJoin3
import Derived.Test.YtbpmhgcjefpigaaGreatDoorTotal
namespace Go.Proofs.YtbpmhgcjefpigaaGreatDoor
open Go.RowKit Go.Shelf
set_option linter.unusedVariables false

theorem KnownL.mem : ∀ {ts : List Tree}, KnownL ts → ∀ {t}, t ∈ ts → Known t
  | [], _, _, h => by cases h
  | a :: r, h, t, hm => by
    simp only [KnownL] at h
    rcases List.mem_cons.mp hm with rfl | hm
    · exact h.1
    · exact KnownL.mem h.2 hm

set_option maxHeartbeats 2000000 in
theorem refrows_any (a : List Tree) (ih : ∀ t ∈ a, ∀ (B : Nat) (v v' : Value) (T' : Tree) (w : World), B ≤ w.heap.size → Lies B w v t → Lies B w v' T' → Known t → Known T' → Calls Tryz.prog 30 #[v, v'] w fun e w' => e = .returned (.int .i64 (ordT t T')) ∧ Below w.heap.size w w')
    (B : Nat) (la lb : Option Addr) (ca cb : Nat) (b : List Tree) (w : World) (hB : B ≤ w.heap.size) (ha : ListLies B w la a) (hb : ListLies B w lb b) (h1 : a.length ≤ ca) (h2 : ca ≤ maxLen) (h3 : b.length ≤ cb) (h4 : cb ≤ maxLen) (hka : KnownL a) (hkb : KnownL b) :
    Calls Tryz.prog 33 #[.slice la a.length ca, .slice lb b.length cb] w fun e w' => e = .returned (.int .i64 (ordL a b)) ∧ Below w.heap.size w w' := by
  unfold maxLen at h2 h4
  have HKA := hidE hka
  have HKB := hidE hkb
  clear hka hkb
  go_enter Tryz.func33, Tryz.ntmps33
  go_wp2_with fail
  go_loopw [5] (fun i wr => ∃ j : Nat, j ≤ a.length ∧ j ≤ b.length ∧ i = .int .i64 j ∧ Below w.heap.size w wr ∧ ordL (a.drop j) (b.drop j) = ordL a b) (fun i _ => a.length - (intOf i).toNat)
  case atStart => exact ⟨0, Nat.zero_le _, Nat.zero_le _, rfl, Below.refl _ _, rfl⟩
  case round =>
    obtain ⟨j, hj, hj2, rfl, hbr, hag⟩ := hrel
    have HAG : Hid (ordL (a.drop j) (b.drop j) = ordL a b) := hag
    clear hag
    by_cases hja : j < a.length
    · by_cases hjb : j < b.length
      · obtain ⟨bl, off, rfl, hbl, hk⟩ := ha.resolve_left (by intro e; subst e; simp at hja)
        obtain ⟨bl', off', rfl, hbl', hk'⟩ := hb.resolve_left (by intro e; subst e; simp at hjb)
        obtain ⟨⟨k, x, n, s, ks, ts⟩, hx⟩ : ∃ t, a[j]? = some t := ⟨_, List.getElem?_eq_getElem hja⟩
        obtain ⟨⟨k', x', n', s', ks', ts'⟩, hy⟩ : ∃ t, b[j]? = some t := ⟨_, List.getElem?_eq_getElem hjb⟩
        have HST := hidE (ordL_drop hx hy)
        have hkr := hk.below (hbr.mono hB) hbl
        have hkr' := hk'.below (hbr.mono hB) hbl'
        obtain ⟨ka, kc, la, lc, ⟨c0, c1, c2, c3, c4, c5⟩, hl⟩ := hkr.cells hx
        obtain ⟨ka', kc', la', lc', ⟨d0, d1, d2, d3, d4, d5⟩, hl'⟩ := hkr'.cells hy
        have HIH := hidE (ih _ (List.mem_of_getElem? hx))
        have HK1 := hidE (HKA.out.mem (List.mem_of_getElem? hx))
        have HK2 := hidE (HKB.out.mem (List.mem_of_getElem? hy))
        clear hx hy hk hk' hkr hkr'
        have hL := hidE hl
        have hL' := hidE hl'
        clear hl hl'
        have hBr : B ≤ wr.heap.size := Nat.le_trans hB hbr.size
        go_wp2_with fail
        have HC := hidE (HIH.out B _ _ _ wr.drew (show B ≤ wr.drew.heap.size from hBr) (hL.out.below (Below.refl B wr).drew) (hL'.out.below (Below.refl B wr).drew) HK1.out HK2.out)
        go_region_with (go_at_call 30; refine HC.out.mono ?_; rintro e w' ⟨rfl, hk2⟩)
        all_goals
          have HB2 : Hid (Below w.heap.size w w') := hbr.drew.trans (hk2.mono hbr.size)
          generalize hcm : ordT (.mk k x n s ks ts) (.mk k' x' n' s' ks' ts') = cm at *
          have HCM := hidE hcm
          clear hcm hk2 c0 c1 c2 c3 c4 c5 d0 d1 d2 d3 d4 d5
          by_cases h0 : cm = 0
          · have h0' : (cm != 0) = false := by simp [h0]
            have h0'' : (cm == 0) = true := by simp [h0]
            go_wp2_with fail
            go_roundw
            case rel => exact ⟨j + 1, by omega, by omega, by go_num, HB2.out, by have := HST.out; rw [if_pos h0] at this; rw [← this]; exact HAG.out⟩
            case measure => simp [intOf]; omega
          · have h0' : (cm != 0) = true := by simp [h0]
            have h0'' : (cm == 0) = false := by simp [h0]
            go_wp2_with fail
            go_ret
            refine ⟨?_, HB2.out⟩
            have := HST.out; rw [if_neg h0] at this; rw [← HAG.out, this]; rfl
      · have HN : Hid (cmpI a.length b.length = ordL a b) := by show _ = _; rw [← HAG.out, ordL_end (by omega)]
        clear HAG
        go_wp2_with fail
        refine (ints_any _ _ _).mono ?_
        rintro e w' ⟨rfl, rfl⟩
        go_wp2_with fail
        go_ret
        exact ⟨by rw [← HN.out]; rfl, hbr⟩
    · have HN : Hid (cmpI a.length b.length = ordL a b) := by show _ = _; rw [← HAG.out, ordL_end (by omega)]
      clear HAG
      go_wp2_with fail
      refine (ints_any _ _ _).mono ?_
      rintro e w' ⟨rfl, rfl⟩
      go_wp2_with fail
      go_ret
      exact ⟨by rw [← HN.out]; rfl, hbr⟩
end Go.Proofs.YtbpmhgcjefpigaaGreatDoor

namespace Go.Proofs.YtbpmhgcjefpigaaGreatDoor
open Go.RowKit Go.Shelf
set_option linter.unusedVariables false

theorem rank_ne (k k' : Int) (h : k ≠ k') (h0 : 0 ≤ k) (h7 : k ≤ 7) (g0 : 0 ≤ k') (g7 : k' ≤ 7) : cmpI (rankN k) (rankN k') ≠ 0 := by
  have a : k = 0 ∨ k = 1 ∨ k = 2 ∨ k = 3 ∨ k = 4 ∨ k = 5 ∨ k = 6 ∨ k = 7 := by omega
  have b : k' = 0 ∨ k' = 1 ∨ k' = 2 ∨ k' = 3 ∨ k' = 4 ∨ k' = 5 ∨ k' = 6 ∨ k' = 7 := by omega
  rcases a with rfl | rfl | rfl | rfl | rfl | rfl | rfl | rfl <;> rcases b with rfl | rfl | rfl | rfl | rfl | rfl | rfl | rfl <;> first | exact absurd rfl h | decide

set_option maxRecDepth 100000 in
set_option maxHeartbeats 2000000 in
theorem refcmp_ne (k : Int) (x : Bool) (n : Int) (s : ByteArray) (ka : Option Addr) (kl kc : Nat) (la : Option Addr) (ll lc : Nat) (k' : Int) (x' : Bool) (n' : Int) (s' : ByteArray) (ka' : Option Addr) (kl' kc' : Nat) (la' : Option Addr) (ll' lc' : Nat) (w : World) (hne : k ≠ k') (h0 : 0 ≤ k) (h7 : k ≤ 7) (g0 : 0 ≤ k') (g7 : k' ≤ 7) :
    Calls Tryz.prog 30 #[.agg #[.int .i64 k, .bool x, .int .i64 n, .string s, .slice ka kl kc, .slice la ll lc], .agg #[.int .i64 k', .bool x', .int .i64 n', .string s', .slice ka' kl' kc', .slice la' ll' lc']] w fun e w' => e = .returned (.int .i64 (cmpI (rankN k) (rankN k'))) ∧ Below w.heap.size w w' := by
  have HX : Hid (∀ w1, Below ((w.alloc (.cells #[.int .i64 k, .bool x, .int .i64 n, .string s, .slice ka kl kc, .slice la ll lc] 26)).alloc (.cells #[.int .i64 k', .bool x', .int .i64 n', .string s', .slice ka' kl' kc', .slice la' ll' lc'] 26)).heap.size ((w.alloc (.cells #[.int .i64 k, .bool x, .int .i64 n, .string s, .slice ka kl kc, .slice la ll lc] 26)).alloc (.cells #[.int .i64 k', .bool x', .int .i64 n', .string s', .slice ka' kl' kc', .slice la' ll' lc'] 26)) w1 → _) := fun w1 hb => two_boxes (w := w) (w1 := w1) (A := #[.int .i64 k, .bool x, .int .i64 n, .string s, .slice ka kl kc, .slice la ll lc]) (A' := #[.int .i64 k', .bool x', .int .i64 n', .string s', .slice ka' kl' kc', .slice la' ll' lc']) hb
  have e1 : (k == k') = false := ne_bool hne
  have HH := hidE (And.intro (And.intro h0 h7) (And.intro g0 g7))
  clear hne h0 h7 g0 g7
  have HS : Hid (∀ w1, Below ((w.alloc (.cells #[.int .i64 k, .bool x, .int .i64 n, .string s, .slice ka kl kc, .slice la ll lc] 26)).alloc (.cells #[.int .i64 k', .bool x', .int .i64 n', .string s', .slice ka' kl' kc', .slice la' ll' lc'] 26)).heap.size ((w.alloc (.cells #[.int .i64 k, .bool x, .int .i64 n, .string s, .slice ka kl kc, .slice la ll lc] 26)).alloc (.cells #[.int .i64 k', .bool x', .int .i64 n', .string s', .slice ka' kl' kc', .slice la' ll' lc'] 26)) w1 → ∀ r, Calls Tryz.prog 68 #[.int .i64 r] w1 (fun e w2 => e = .returned (.int .i64 (rankN r)) ∧ Below w1.heap.size w1 w2) → Calls Tryz.prog 68 #[.int .i64 r] w1 fun e w2 => e = .returned (.int .i64 (rankN r)) ∧ w2.cell? ⟨w.heap.size, 0, none⟩ = some (.int .i64 k) ∧ w2.cell? ⟨w.heap.size + 1, 0, none⟩ = some (.int .i64 k') ∧ Hid (Below ((w.alloc (.cells #[.int .i64 k, .bool x, .int .i64 n, .string s, .slice ka kl kc, .slice la ll lc] 26)).alloc (.cells #[.int .i64 k', .bool x', .int .i64 n', .string s', .slice ka' kl' kc', .slice la' ll' lc'] 26)).heap.size ((w.alloc (.cells #[.int .i64 k, .bool x, .int .i64 n, .string s, .slice ka kl kc, .slice la ll lc] 26)).alloc (.cells #[.int .i64 k', .bool x', .int .i64 n', .string s', .slice ka' kl' kc', .slice la' ll' lc'] 26)) w2)) := by
    intro w1 hb r hc
    refine hc.mono ?_
    rintro e w2 ⟨he, hb2⟩
    have hb3 := below_on hb hb2
    obtain ⟨_, f, g⟩ := HX.out w2 hb3
    exact ⟨he, f 0 _ rfl, g 0 _ rfl, hb3⟩
  have HC1 : Hid (Calls Tryz.prog 68 #[.int .i64 k] ((w.alloc (.cells #[.int .i64 k, .bool x, .int .i64 n, .string s, .slice ka kl kc, .slice la ll lc] 26)).alloc (.cells #[.int .i64 k', .bool x', .int .i64 n', .string s', .slice ka' kl' kc', .slice la' ll' lc'] 26)).drew fun e w2 => e = .returned (.int .i64 (rankN k)) ∧ w2.cell? ⟨w.heap.size, 0, none⟩ = some (.int .i64 k) ∧ w2.cell? ⟨w.heap.size + 1, 0, none⟩ = some (.int .i64 k') ∧ Hid (Below ((w.alloc (.cells #[.int .i64 k, .bool x, .int .i64 n, .string s, .slice ka kl kc, .slice la ll lc] 26)).alloc (.cells #[.int .i64 k', .bool x', .int .i64 n', .string s', .slice ka' kl' kc', .slice la' ll' lc'] 26)).heap.size ((w.alloc (.cells #[.int .i64 k, .bool x, .int .i64 n, .string s, .slice ka kl kc, .slice la ll lc] 26)).alloc (.cells #[.int .i64 k', .bool x', .int .i64 n', .string s', .slice ka' kl' kc', .slice la' ll' lc'] 26)) w2)) := HS.out _ (Below.refl _ _).drew _ (refrank_any k _ HH.out.1.1 HH.out.1.2)
  have HC2 : Hid (Calls Tryz.prog 68 #[.int .i64 k'] ((w.alloc (.cells #[.int .i64 k, .bool x, .int .i64 n, .string s, .slice ka kl kc, .slice la ll lc] 26)).alloc (.cells #[.int .i64 k', .bool x', .int .i64 n', .string s', .slice ka' kl' kc', .slice la' ll' lc'] 26)).drew fun e w2 => e = .returned (.int .i64 (rankN k')) ∧ w2.cell? ⟨w.heap.size, 0, none⟩ = some (.int .i64 k) ∧ w2.cell? ⟨w.heap.size + 1, 0, none⟩ = some (.int .i64 k') ∧ Hid (Below ((w.alloc (.cells #[.int .i64 k, .bool x, .int .i64 n, .string s, .slice ka kl kc, .slice la ll lc] 26)).alloc (.cells #[.int .i64 k', .bool x', .int .i64 n', .string s', .slice ka' kl' kc', .slice la' ll' lc'] 26)).heap.size ((w.alloc (.cells #[.int .i64 k, .bool x, .int .i64 n, .string s, .slice ka kl kc, .slice la ll lc] 26)).alloc (.cells #[.int .i64 k', .bool x', .int .i64 n', .string s', .slice ka' kl' kc', .slice la' ll' lc'] 26)) w2)) := HS.out _ (Below.refl _ _).drew _ (refrank_any k' _ HH.out.2.1 HH.out.2.2)
  have HC3 : Hid (∀ w1, Hid (Below ((w.alloc (.cells #[.int .i64 k, .bool x, .int .i64 n, .string s, .slice ka kl kc, .slice la ll lc] 26)).alloc (.cells #[.int .i64 k', .bool x', .int .i64 n', .string s', .slice ka' kl' kc', .slice la' ll' lc'] 26)).heap.size ((w.alloc (.cells #[.int .i64 k, .bool x, .int .i64 n, .string s, .slice ka kl kc, .slice la ll lc] 26)).alloc (.cells #[.int .i64 k', .bool x', .int .i64 n', .string s', .slice ka' kl' kc', .slice la' ll' lc'] 26)) w1) → Calls Tryz.prog 68 #[.int .i64 k'] w1 fun e w2 => e = .returned (.int .i64 (rankN k')) ∧ w2.cell? ⟨w.heap.size, 0, none⟩ = some (.int .i64 k) ∧ w2.cell? ⟨w.heap.size + 1, 0, none⟩ = some (.int .i64 k') ∧ Hid (Below ((w.alloc (.cells #[.int .i64 k, .bool x, .int .i64 n, .string s, .slice ka kl kc, .slice la ll lc] 26)).alloc (.cells #[.int .i64 k', .bool x', .int .i64 n', .string s', .slice ka' kl' kc', .slice la' ll' lc'] 26)).heap.size ((w.alloc (.cells #[.int .i64 k, .bool x, .int .i64 n, .string s, .slice ka kl kc, .slice la ll lc] 26)).alloc (.cells #[.int .i64 k', .bool x', .int .i64 n', .string s', .slice ka' kl' kc', .slice la' ll' lc'] 26)) w2)) := fun w1 hb => HS.out _ hb.out _ (refrank_any k' _ HH.out.2.1 HH.out.2.2)
  have HC4 : Hid (∀ w1, Hid (Below ((w.alloc (.cells #[.int .i64 k, .bool x, .int .i64 n, .string s, .slice ka kl kc, .slice la ll lc] 26)).alloc (.cells #[.int .i64 k', .bool x', .int .i64 n', .string s', .slice ka' kl' kc', .slice la' ll' lc'] 26)).heap.size ((w.alloc (.cells #[.int .i64 k, .bool x, .int .i64 n, .string s, .slice ka kl kc, .slice la ll lc] 26)).alloc (.cells #[.int .i64 k', .bool x', .int .i64 n', .string s', .slice ka' kl' kc', .slice la' ll' lc'] 26)) w1) → Calls Tryz.prog 68 #[.int .i64 k] w1 fun e w2 => e = .returned (.int .i64 (rankN k)) ∧ w2.cell? ⟨w.heap.size, 0, none⟩ = some (.int .i64 k) ∧ w2.cell? ⟨w.heap.size + 1, 0, none⟩ = some (.int .i64 k') ∧ Hid (Below ((w.alloc (.cells #[.int .i64 k, .bool x, .int .i64 n, .string s, .slice ka kl kc, .slice la ll lc] 26)).alloc (.cells #[.int .i64 k', .bool x', .int .i64 n', .string s', .slice ka' kl' kc', .slice la' ll' lc'] 26)).heap.size ((w.alloc (.cells #[.int .i64 k, .bool x, .int .i64 n, .string s, .slice ka kl kc, .slice la ll lc] 26)).alloc (.cells #[.int .i64 k', .bool x', .int .i64 n', .string s', .slice ka' kl' kc', .slice la' ll' lc'] 26)) w2)) := fun w1 hb => HS.out _ hb.out _ (refrank_any k _ HH.out.1.1 HH.out.1.2)
  have HF : Hid (∀ w1, Hid (Below ((w.alloc (.cells #[.int .i64 k, .bool x, .int .i64 n, .string s, .slice ka kl kc, .slice la ll lc] 26)).alloc (.cells #[.int .i64 k', .bool x', .int .i64 n', .string s', .slice ka' kl' kc', .slice la' ll' lc'] 26)).heap.size ((w.alloc (.cells #[.int .i64 k, .bool x, .int .i64 n, .string s, .slice ka kl kc, .slice la ll lc] 26)).alloc (.cells #[.int .i64 k', .bool x', .int .i64 n', .string s', .slice ka' kl' kc', .slice la' ll' lc'] 26)) w1) → Below w.heap.size w w1) := fun w1 hb => (HX.out w1 hb.out).1
  clear HS HX HH
  generalize rankN k = rk at *
  generalize rankN k' = rk' at *
  go_enter Tryz.func30, Tryz.ntmps30
  go_wp2_with fail
  go_region_with (first
    | (go_at_call 67; refine (ints_any _ _ _).mono ?_; rintro e w9 ⟨rfl, rfl⟩)
    | (go_at_call 68; refine (HC3.out _ HB1).mono ?_; rintro e w2 ⟨rfl, x2, y2, HB2⟩)
    | (go_at_call 68; refine (HC4.out _ HB1).mono ?_; rintro e w2 ⟨rfl, x2, y2, HB2⟩)
    | (go_at_call 68; refine HC1.out.mono ?_; rintro e w1 ⟨rfl, x1, y1, HB1⟩)
    | (go_at_call 68; refine HC2.out.mono ?_; rintro e w1 ⟨rfl, x1, y1, HB1⟩))
  all_goals
    go_wp2_with fail
    go_ret
    exact ⟨rfl, HF.out _ HB2⟩

end Go.Proofs.YtbpmhgcjefpigaaGreatDoor

