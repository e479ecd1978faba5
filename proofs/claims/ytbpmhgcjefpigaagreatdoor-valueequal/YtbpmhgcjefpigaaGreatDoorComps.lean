/- Compare, Same and Less at every two values. -/
import Derived.Test.YtbpmhgcjefpigaaGreatDoorEquals
namespace Go.Proofs.YtbpmhgcjefpigaaGreatDoor
open Go.RowKit Go.Shelf
set_option linter.unusedVariables false

/-- What Compare answers. -/
def compN (T T' : Tree) : Int := if checkN T = 0 ∧ checkN T' = 0 then ordT T T' else 0
/-- What Same answers. -/
def sameB (T T' : Tree) : Bool := decide (checkN T = 0 ∧ checkN T' = 0) && (ordT T T' == 0)

set_option maxHeartbeats 1000000 in
theorem Compare_any (T T' : Tree) (B : Nat) (v v' : Value) (w : World) (hB : B ≤ w.heap.size) (hv : Lies B w v T) (hv' : Lies B w v' T') (hT : Tabs w) (hm : Modest T) (hm' : Modest T') :
    Calls Tryz.prog 31 #[v, v'] w fun e w' => e = .returned (.int .i64 (compN T T')) ∧ Below w.heap.size w w' := by
  obtain ⟨k, x, n, s, ks, ts⟩ := T
  obtain ⟨k', x', n', s', ks', ts'⟩ := T'
  have HV := hidE hv
  have HV' := hidE hv'
  simp only [Lies] at hv hv'
  obtain ⟨ka, kc, la, lc, rfl, _, _, _⟩ := hv
  obtain ⟨ka', kc', la', lc', rfl, _, _, _⟩ := hv'
  obtain ⟨W3, hW3⟩ : ∃ W3, ((w.alloc (.cells #[.int .i64 k, .bool x, .int .i64 n, .string s, .slice ka ks.length kc, .slice la ts.length lc] 26)).alloc (.cells #[.int .i64 k', .bool x', .int .i64 n', .string s', .slice ka' ks'.length kc', .slice la' ts'.length lc'] 26)).alloc (.cells #[.int .i64 k, .bool x, .int .i64 n, .string s, .slice ka ks.length kc, .slice la ts.length lc, .int .i64 k', .bool x', .int .i64 n', .string s', .slice ka' ks'.length kc', .slice la' ts'.length lc'] 26) = W3 := ⟨_, rfl⟩
  have hbx : ∀ W, Below W3.heap.size W3 W → Below w.heap.size w W ∧ (∀ i v, (#[Value.int .i64 k, .bool x, .int .i64 n, .string s, .slice ka ks.length kc, .slice la ts.length lc] : Array Value)[i]? = some v → W.cell? ⟨w.heap.size, i, none⟩ = some v) ∧
      (∀ i v, (#[Value.int .i64 k', .bool x', .int .i64 n', .string s', .slice ka' ks'.length kc', .slice la' ts'.length lc'] : Array Value)[i]? = some v → W.cell? ⟨w.heap.size + 1, i, none⟩ = some v) := fun W hb => by
    rw [← hW3] at hb
    exact two_boxes (((Below.refl _ _).alloc (Nat.le_refl _) _).trans (hb.mono (by simp)))
  have hc3 : W3.heap[w.heap.size + 1 + 1]? = some (.cells #[.int .i64 k, .bool x, .int .i64 n, .string s, .slice ka ks.length kc, .slice la ts.length lc, .int .i64 k', .bool x', .int .i64 n', .string s', .slice ka' ks'.length kc', .slice la' ts'.length lc'] 26 (0, 0)) := by
    rw [← hW3]
    have := World.alloc_heap_new ((w.alloc (.cells #[.int .i64 k, .bool x, .int .i64 n, .string s, .slice ka ks.length kc, .slice la ts.length lc] 26)).alloc (.cells #[.int .i64 k', .bool x', .int .i64 n', .string s', .slice ka' ks'.length kc', .slice la' ts'.length lc'] 26)) (.cells #[.int .i64 k, .bool x, .int .i64 n, .string s, .slice ka ks.length kc, .slice la ts.length lc, .int .i64 k', .bool x', .int .i64 n', .string s', .slice ka' ks'.length kc', .slice la' ts'.length lc'] 26)
    simpa only [World.size_alloc] using this
  have hlt3 : w.heap.size + 1 + 1 < W3.heap.size := by rw [← hW3]; simp
  have hb3 : Below w.heap.size w W3 := (hbx W3 (Below.refl _ _)).1
  have HV3 := hidE ((HV.out.below (hb3.mono hB)).mono (Nat.le_trans hB hb3.size))
  have HV3' := hidE ((HV'.out.below (hb3.mono hB)).mono (Nat.le_trans hB hb3.size))
  have HC := hidE (refused_any [.mk k x n s ks ts, .mk k' x' n' s' ks' ts'] W3.heap.size (some ⟨w.heap.size + 1 + 1, 0, none⟩) 2 W3 (Nat.le_refl _) (.inr ⟨_, _, rfl, hlt3, two_kids hc3 HV3.out HV3'.out⟩) (Nat.le_refl _) (by unfold maxLen; omega) (hT.below hb3)
    (by intro t ht; simp only [List.mem_cons, List.not_mem_nil, or_false] at ht; rcases ht with rfl | rfl; exact hm; exact hm'))
  have HBX := hidE hbx
  have HW3 := hidE hW3
  clear hbx hW3 hc3 hm hm'
  go_enter Tryz.func31, Tryz.ntmps31
  go_wp2_with fail
  rw [HW3.out]
  refine HC.out.mono ?_
  rintro e w4 ⟨rfl, hb4⟩
  obtain ⟨hbw, hq, hr⟩ := HBX.out w4 hb4
  have q0 := hq 0 _ rfl
  have q1 := hq 1 _ rfl
  have q2 := hq 2 _ rfl
  have q3 := hq 3 _ rfl
  have q4 := hq 4 _ rfl
  have q5 := hq 5 _ rfl
  have r0 := hr 0 _ rfl
  have r1 := hr 1 _ rfl
  have r2 := hr 2 _ rfl
  have r3 := hr 3 _ rfl
  have r4 := hr 4 _ rfl
  have r5 := hr 5 _ rfl
  have HQ := hidE (order_any _ W3.heap.size _ _ _ w4 hb4.size (HV3.out.below hb4) (HV3'.out.below hb4))
  have hsz := hb4.size
  clear hq hr HBX HC HW3 hb4
  cases hany : [Tree.mk k x n s ks ts, .mk k' x' n' s' ks' ts'].any (fun t => checkN t != 0) with
  | true =>
    have HN : Hid (compN (.mk k x n s ks ts) (.mk k' x' n' s' ks' ts') = 0) := by
      show _ = _
      unfold compN
      rw [if_neg]
      rintro ⟨h1, h2⟩
      simp [h1, h2] at hany
    clear hany
    go_wp2_with fail
    go_ret
    exact ⟨by rw [HN.out]; rfl, hbw⟩
  | false =>
    have HN : Hid (compN (.mk k x n s ks ts) (.mk k' x' n' s' ks' ts') = ordT (.mk k x n s ks ts) (.mk k' x' n' s' ks' ts')) := by
      show _ = _
      unfold compN
      simp at hany
      rw [if_pos hany]
    clear hany
    go_wp2_with fail
    refine HQ.out.mono ?_
    rintro e w5 ⟨rfl, hb5⟩
    have hfin := below_on hbw hb5
    clear hb5 q0 q1 q2 q3 q4 q5 r0 r1 r2 r3 r4 r5
    go_wp2_with fail
    go_ret
    exact ⟨by rw [HN.out]; rfl, hfin⟩

set_option maxHeartbeats 1000000 in
theorem Same_any (T T' : Tree) (B : Nat) (v v' : Value) (w : World) (hB : B ≤ w.heap.size) (hv : Lies B w v T) (hv' : Lies B w v' T') (hT : Tabs w) (hm : Modest T) (hm' : Modest T') :
    Calls Tryz.prog 32 #[v, v'] w fun e w' => e = .returned (.bool (sameB T T')) ∧ Below w.heap.size w w' := by
  obtain ⟨k, x, n, s, ks, ts⟩ := T
  obtain ⟨k', x', n', s', ks', ts'⟩ := T'
  have HV := hidE hv
  have HV' := hidE hv'
  simp only [Lies] at hv hv'
  obtain ⟨ka, kc, la, lc, rfl, _, _, _⟩ := hv
  obtain ⟨ka', kc', la', lc', rfl, _, _, _⟩ := hv'
  obtain ⟨W3, hW3⟩ : ∃ W3, ((w.alloc (.cells #[.int .i64 k, .bool x, .int .i64 n, .string s, .slice ka ks.length kc, .slice la ts.length lc] 26)).alloc (.cells #[.int .i64 k', .bool x', .int .i64 n', .string s', .slice ka' ks'.length kc', .slice la' ts'.length lc'] 26)).alloc (.cells #[.int .i64 k, .bool x, .int .i64 n, .string s, .slice ka ks.length kc, .slice la ts.length lc, .int .i64 k', .bool x', .int .i64 n', .string s', .slice ka' ks'.length kc', .slice la' ts'.length lc'] 26) = W3 := ⟨_, rfl⟩
  have hbx : ∀ W, Below W3.heap.size W3 W → Below w.heap.size w W ∧ (∀ i v, (#[Value.int .i64 k, .bool x, .int .i64 n, .string s, .slice ka ks.length kc, .slice la ts.length lc] : Array Value)[i]? = some v → W.cell? ⟨w.heap.size, i, none⟩ = some v) ∧
      (∀ i v, (#[Value.int .i64 k', .bool x', .int .i64 n', .string s', .slice ka' ks'.length kc', .slice la' ts'.length lc'] : Array Value)[i]? = some v → W.cell? ⟨w.heap.size + 1, i, none⟩ = some v) := fun W hb => by
    rw [← hW3] at hb
    exact two_boxes (((Below.refl _ _).alloc (Nat.le_refl _) _).trans (hb.mono (by simp)))
  have hc3 : W3.heap[w.heap.size + 1 + 1]? = some (.cells #[.int .i64 k, .bool x, .int .i64 n, .string s, .slice ka ks.length kc, .slice la ts.length lc, .int .i64 k', .bool x', .int .i64 n', .string s', .slice ka' ks'.length kc', .slice la' ts'.length lc'] 26 (0, 0)) := by
    rw [← hW3]
    have := World.alloc_heap_new ((w.alloc (.cells #[.int .i64 k, .bool x, .int .i64 n, .string s, .slice ka ks.length kc, .slice la ts.length lc] 26)).alloc (.cells #[.int .i64 k', .bool x', .int .i64 n', .string s', .slice ka' ks'.length kc', .slice la' ts'.length lc'] 26)) (.cells #[.int .i64 k, .bool x, .int .i64 n, .string s, .slice ka ks.length kc, .slice la ts.length lc, .int .i64 k', .bool x', .int .i64 n', .string s', .slice ka' ks'.length kc', .slice la' ts'.length lc'] 26)
    simpa only [World.size_alloc] using this
  have hlt3 : w.heap.size + 1 + 1 < W3.heap.size := by rw [← hW3]; simp
  have hb3 : Below w.heap.size w W3 := (hbx W3 (Below.refl _ _)).1
  have HV3 := hidE ((HV.out.below (hb3.mono hB)).mono (Nat.le_trans hB hb3.size))
  have HV3' := hidE ((HV'.out.below (hb3.mono hB)).mono (Nat.le_trans hB hb3.size))
  have HC := hidE (refused_any [.mk k x n s ks ts, .mk k' x' n' s' ks' ts'] W3.heap.size (some ⟨w.heap.size + 1 + 1, 0, none⟩) 2 W3 (Nat.le_refl _) (.inr ⟨_, _, rfl, hlt3, two_kids hc3 HV3.out HV3'.out⟩) (Nat.le_refl _) (by unfold maxLen; omega) (hT.below hb3)
    (by intro t ht; simp only [List.mem_cons, List.not_mem_nil, or_false] at ht; rcases ht with rfl | rfl; exact hm; exact hm'))
  have HBX := hidE hbx
  have HW3 := hidE hW3
  clear hbx hW3 hc3 hm hm'
  go_enter Tryz.func32, Tryz.ntmps32
  go_wp2_with fail
  rw [HW3.out]
  refine HC.out.mono ?_
  rintro e w4 ⟨rfl, hb4⟩
  obtain ⟨hbw, hq, hr⟩ := HBX.out w4 hb4
  have q0 := hq 0 _ rfl
  have q1 := hq 1 _ rfl
  have q2 := hq 2 _ rfl
  have q3 := hq 3 _ rfl
  have q4 := hq 4 _ rfl
  have q5 := hq 5 _ rfl
  have r0 := hr 0 _ rfl
  have r1 := hr 1 _ rfl
  have r2 := hr 2 _ rfl
  have r3 := hr 3 _ rfl
  have r4 := hr 4 _ rfl
  have r5 := hr 5 _ rfl
  have HQ := hidE (order_any _ W3.heap.size _ _ _ w4 hb4.size (HV3.out.below hb4) (HV3'.out.below hb4))
  have hsz := hb4.size
  clear hq hr HBX HC HW3 hb4
  cases hany : [Tree.mk k x n s ks ts, .mk k' x' n' s' ks' ts'].any (fun t => checkN t != 0) with
  | true =>
    have HN : Hid (sameB (.mk k x n s ks ts) (.mk k' x' n' s' ks' ts') = false) := by
      show _ = _
      unfold sameB
      rw [decide_eq_false, Bool.false_and]
      rintro ⟨h1, h2⟩
      simp [h1, h2] at hany
    clear hany
    go_wp2_with fail
    go_ret
    exact ⟨by rw [HN.out]; rfl, hbw⟩
  | false =>
    have HN : Hid (sameB (.mk k x n s ks ts) (.mk k' x' n' s' ks' ts') = (ordT (.mk k x n s ks ts) (.mk k' x' n' s' ks' ts') == 0)) := by
      show _ = _
      unfold sameB
      simp at hany
      rw [decide_eq_true hany, Bool.true_and]
    generalize ordT (.mk k x n s ks ts) (.mk k' x' n' s' ks' ts') = ot at *
    clear hany
    go_wp2_with fail
    refine HQ.out.mono ?_
    rintro e w5 ⟨rfl, hb5⟩
    have hfin := below_on hbw hb5
    clear hb5 q0 q1 q2 q3 q4 q5 r0 r1 r2 r3 r4 r5
    go_wp2_with fail
    go_ret
    exact ⟨by rw [HN.out]; rfl, hfin⟩
end Go.Proofs.YtbpmhgcjefpigaaGreatDoor
