/- The document's order of values in rows. -/
import Derived.Test.YtbpmhgcjefpigaaDoorRrank
namespace Go.Proofs.YtbpmhgcjefpigaaDoor
open Go.RowKit Go.Shelf
set_option linter.unusedVariables false

mutual
/-- Every kind in it is one of the eight. -/
def Known : Tree → Prop
  | .mk k _ _ _ _ ts => (0 ≤ k ∧ k ≤ 7) ∧ KnownL ts
def KnownL : List Tree → Prop
  | [] => True
  | t :: r => Known t ∧ KnownL r
end
theorem KnownL.mem : ∀ {ts : List Tree}, KnownL ts → ∀ {t}, t ∈ ts → Known t
  | [], _, _, h => by cases h
  | a :: r, h, t, hm => by
    simp only [KnownL] at h
    rcases List.mem_cons.mp hm with rfl | hm
    · exact h.1
    · exact KnownL.mem h.2 hm

set_option maxHeartbeats 2000000 in
theorem refrows_any (a : List Tree) (ih : ∀ t ∈ a, ∀ (B : Nat) (v v' : Value) (T' : Tree) (w : World), B ≤ w.heap.size → Lies B w v t → Lies B w v' T' → Known t → Known T' → Calls Tryd.prog 41 #[v, v'] w fun e w' => e = .returned (.int .i64 (ordT t T')) ∧ Below w.heap.size w w')
    (B : Nat) (la lb : Option Addr) (ca cb : Nat) (b : List Tree) (w : World) (hB : B ≤ w.heap.size) (ha : ListLies B w la a) (hb : ListLies B w lb b) (h1 : a.length ≤ ca) (h2 : ca ≤ maxLen) (h3 : b.length ≤ cb) (h4 : cb ≤ maxLen) (hka : KnownL a) (hkb : KnownL b) :
    Calls Tryd.prog 56 #[.slice la a.length ca, .slice lb b.length cb] w fun e w' => e = .returned (.int .i64 (ordL a b)) ∧ Below w.heap.size w w' := by
  unfold maxLen at h2 h4
  have HKA := hidE hka
  have HKB := hidE hkb
  clear hka hkb
  go_enter Tryd.func56, Tryd.ntmps56
  go_wp2_with fail
  go_loopw [5] (fun i wr => ∃ j : Nat, j ≤ a.length ∧ j ≤ b.length ∧ i = .int .i64 j ∧ Below w.heap.size w wr ∧ ordL (a.drop j) (b.drop j) = ordL a b) (fun i _ => a.length - (intOf i).toNat)
  case atStart => exact ⟨0, Nat.zero_le _, Nat.zero_le _, rfl, Below.refl _ _, rfl⟩
  case round =>
    obtain ⟨j, hj, hj2, rfl, hbr, hag⟩ := hrel
    have HAG : Hid (ordL (a.drop j) (b.drop j) = ordL a b) := hag
    clear hag
    by_cases hja : j < a.length
    · by_cases hjb : j < b.length
      · obtain ⟨bl, off, rfl, hbl, hk⟩ := ha.resolve_left (by intro e; subst e; simp at hja)
        obtain ⟨bl', off', rfl, hbl', hk'⟩ := hb.resolve_left (by intro e; subst e; simp at hjb)
        obtain ⟨⟨k, x, n, s, ks, ts⟩, hx⟩ : ∃ t, a[j]? = some t := ⟨_, List.getElem?_eq_getElem hja⟩
        obtain ⟨⟨k', x', n', s', ks', ts'⟩, hy⟩ : ∃ t, b[j]? = some t := ⟨_, List.getElem?_eq_getElem hjb⟩
        have HST := hidE (ordL_drop hx hy)
        have hkr := hk.below (hbr.mono hB) hbl
        have hkr' := hk'.below (hbr.mono hB) hbl'
        obtain ⟨ka, kc, la, lc, ⟨c0, c1, c2, c3, c4, c5⟩, hl⟩ := hkr.cells hx
        obtain ⟨ka', kc', la', lc', ⟨d0, d1, d2, d3, d4, d5⟩, hl'⟩ := hkr'.cells hy
        have HIH := hidE (ih _ (List.mem_of_getElem? hx))
        have HK1 := hidE (HKA.out.mem (List.mem_of_getElem? hx))
        have HK2 := hidE (HKB.out.mem (List.mem_of_getElem? hy))
        clear hx hy hk hk' hkr hkr'
        have hL := hidE hl
        have hL' := hidE hl'
        clear hl hl'
        have hBr : B ≤ wr.heap.size := Nat.le_trans hB hbr.size
        go_wp2_with fail
        have HC := hidE (HIH.out B _ _ _ wr.drew (show B ≤ wr.drew.heap.size from hBr) (hL.out.below (Below.refl B wr).drew) (hL'.out.below (Below.refl B wr).drew) HK1.out HK2.out)
        go_region_with (go_at_call 41; refine HC.out.mono ?_; rintro e w' ⟨rfl, hk2⟩)
        all_goals
          have HB2 : Hid (Below w.heap.size w w') := hbr.drew.trans (hk2.mono hbr.size)
          generalize hcm : ordT (.mk k x n s ks ts) (.mk k' x' n' s' ks' ts') = cm at *
          have HCM := hidE hcm
          clear hcm hk2 c0 c1 c2 c3 c4 c5 d0 d1 d2 d3 d4 d5
          by_cases h0 : cm = 0
          · have h0' : (cm != 0) = false := by simp [h0]
            have h0'' : (cm == 0) = true := by simp [h0]
            go_wp2_with fail
            go_roundw
            case rel => exact ⟨j + 1, by omega, by omega, by go_num, HB2.out, by have := HST.out; rw [if_pos h0] at this; rw [← this]; exact HAG.out⟩
            case measure => simp [intOf]; omega
          · have h0' : (cm != 0) = true := by simp [h0]
            have h0'' : (cm == 0) = false := by simp [h0]
            go_wp2_with fail
            go_ret
            refine ⟨?_, HB2.out⟩
            have := HST.out; rw [if_neg h0] at this; rw [← HAG.out, this]; rfl
      · have HN : Hid (cmpI a.length b.length = ordL a b) := by show _ = _; rw [← HAG.out, ordL_end (by omega)]
        clear HAG
        go_wp2_with fail
        refine (ints_any _ _ _).mono ?_
        rintro e w' ⟨rfl, rfl⟩
        go_wp2_with fail
        go_ret
        exact ⟨by rw [← HN.out]; rfl, hbr⟩
    · have HN : Hid (cmpI a.length b.length = ordL a b) := by show _ = _; rw [← HAG.out, ordL_end (by omega)]
      clear HAG
      go_wp2_with fail
      refine (ints_any _ _ _).mono ?_
      rintro e w' ⟨rfl, rfl⟩
      go_wp2_with fail
      go_ret
      exact ⟨by rw [← HN.out]; rfl, hbr⟩
end Go.Proofs.YtbpmhgcjefpigaaDoor
