/- List, and Less at every two values. -/
import Derived.Test.YtbpmhgcjefpigaaGreatDoorMapOne
namespace Go.Proofs.YtbpmhgcjefpigaaGreatDoor
open Go.RowKit Go.Shelf
set_option linter.unusedVariables false

theorem new_free (w : World) (A : Array Value) (t : TypeId) (i : Nat) : (w.alloc (.cells A t)).frozen? ⟨w.heap.size, i, none⟩ = false := by
  have h := World.alloc_heap_new w (.cells A t)
  unfold World.frozen?
  rw [show (⟨w.heap.size, i, none⟩ : Addr).block = w.heap.size from rfl, h]
  simp
set_option maxHeartbeats 1000000 in
theorem list_any (ts : List Tree) (B : Nat) (la : Option Addr) (lc : Nat) (w : World) (hB : B ≤ w.heap.size) (hl : ListLies B w la ts) (h1 : ts.length ≤ lc) (h2 : lc ≤ maxLen) (htot : Tree.totalL ts ≤ 1000000) :
    Calls Tryz.prog 52 #[.slice la ts.length lc] w fun e w' => ∃ v', e = .returned v' ∧ Lies w'.heap.size w' v' (.mk 4 false 0 ⟨#[]⟩ [] ts) ∧ Below w.heap.size w w' := by
  obtain ⟨W1, hW1⟩ : ∃ W1, w.alloc (.cells #[.int .i64 0, .bool false, .int .i64 0, .string ⟨#[]⟩, .slice none 0 0, .slice none 0 0] 26) = W1 := ⟨_, rfl⟩
  have hb1 : Below w.heap.size w W1 := hW1 ▸ (Below.refl _ _).alloc (Nat.le_refl _) _
  have hsz1 : W1.heap.size = w.heap.size + 1 := by rw [← hW1]; simp
  have HX : Hid (∀ w2, Below W1.heap.size W1 w2 → (∀ i v, (#[Value.int .i64 0, .bool false, .int .i64 0, .string ⟨#[]⟩, .slice none 0 0, .slice none 0 0] : Array Value)[i]? = some v → w2.cell? ⟨w.heap.size, i, none⟩ = some v) ∧ (∀ i, w2.frozen? ⟨w.heap.size, i, none⟩ = false)) := fun w2 hb => by
    have hlt : w.heap.size < W1.heap.size := by omega
    refine ⟨fun i v h => ?_, fun i => ?_⟩
    · rw [hb.cell (p := ⟨w.heap.size, i, none⟩) hlt, ← hW1]
      exact cell_new _ _ _ i _ h
    · rw [hb.frozen (p := ⟨w.heap.size, i, none⟩) hlt, ← hW1]
      exact new_free _ _ _ _
  have hl1 : ListLies W1.heap.size W1 la ts := hl.imp id fun ⟨bl, off, e, h3, h4⟩ => ⟨bl, off, e, by omega, (h4.below (hb1.mono hB) h3).mono (by omega)⟩
  have HC := hidE (copies_any ts (fun t _ => copy_any t) W1.heap.size la lc W1 (Nat.le_refl _) hl1 h1 h2 htot)
  have HW1 := hidE hW1
  have HB1 := hidE hb1
  clear hW1 hl hl1 hb1
  go_enter Tryz.func52, Tryz.ntmps52
  go_wp2_with fail
  rw [HW1.out]
  refine HC.out.mono ?_
  rintro e w2 ⟨la', lc', rfl, ⟨g1, g2⟩, hlr, hb2⟩
  obtain ⟨hq, hf⟩ := HX.out w2 hb2
  have m0 := hq 0 _ rfl
  have n0 := hf 0
  have m1 := hq 1 _ rfl
  have n1 := hf 1
  have m2 := hq 2 _ rfl
  have n2 := hf 2
  have m3 := hq 3 _ rfl
  have n3 := hf 3
  have m4 := hq 4 _ rfl
  have n4 := hf 4
  have m5 := hq 5 _ rfl
  have n5 := hf 5
  have HLR := hidE hlr
  have HB2 := hidE hb2
  clear hq hf hlr hb2
  go_wp2_with fail
  have HFB : Hid (Below w.heap.size w (six w2 w.heap.size 0 (.int .i64 4) (.bool false) (.int .i64 0) (.string ⟨#[]⟩) (.slice none 0 0) (.slice la' ts.length lc'))) := six_below (HB1.out.trans (HB2.out.mono HB1.out.size)) (Nat.le_refl _) _ _ _ _ _ _
  refine bodyPost_ret (v := .agg #[.int .i64 4, .bool false, .int .i64 0, .string ⟨#[]⟩, .slice none 0 0, .slice la' ts.length lc']) (by simp [results, Tryz.results52, go_sem, m0, m1, m2, m3, m4, m5]) rfl ⟨_, rfl, ?_, HFB.out⟩
  show Lies (six w2 w.heap.size 0 (.int .i64 4) (.bool false) (.int .i64 0) (.string ⟨#[]⟩) (.slice none 0 0) (.slice la' ts.length lc')).heap.size (six w2 w.heap.size 0 (.int .i64 4) (.bool false) (.int .i64 0) (.string ⟨#[]⟩) (.slice none 0 0) (.slice la' ts.length lc')) _ _
  have hfin : Keeps W1.heap.size w2.heap.size w2 (six w2 w.heap.size 0 (.int .i64 4) (.bool false) (.int .i64 0) (.string ⟨#[]⟩) (.slice none 0 0) (.slice la' ts.length lc')) := fun b o h1 _ => six_out (fun e => by omega)
  rw [six_size]
  simp only [Lies]
  exact ⟨none, 0, la', lc', rfl, ⟨by show 0 ≤ _; omega, by simp, by unfold maxLen; omega, g1, g2⟩, .inl rfl, (HLR.out.keep hfin).lie⟩

def plainB (k : Int) : Bool := k == 1 || k == 2 || k == 3
theorem plain_any (k : Int) (w : World) : Calls Tryz.prog 66 #[.int .i64 k] w fun e w' => e = .returned (.bool (plainB k)) ∧ w' = w := by
  go_enter Tryz.func66, Tryz.ntmps66
  by_cases h1 : k = 1
  · subst h1; go_wp2_with fail; go_ret; exact ⟨rfl, rfl⟩
  by_cases h2 : k = 2
  · subst h2; go_wp2_with fail; go_ret; exact ⟨rfl, rfl⟩
  go_wp2_with fail
  go_ret
  have e1 : (k == 1) = false := by simpa using h1
  have e2 : (k == 2) = false := by simpa using h2
  refine ⟨?_, rfl⟩
  unfold plainB
  rw [e1, e2]
  rfl

/-- What Less answers. -/
def lessN (T T' : Tree) : Int := if T.kind = T'.kind ∧ plainB T.kind = true ∧ checkN T = 0 ∧ checkN T' = 0 then truthI (decide (ordT T T' < 0)) else 1

set_option maxHeartbeats 1000000 in
theorem Less_any (T T' : Tree) (B : Nat) (v v' : Value) (w : World) (hB : B ≤ w.heap.size) (hv : Lies B w v T) (hv' : Lies B w v' T') (hT : Tabs w) (hm : Modest T) (hm' : Modest T') :
    Calls Tryz.prog 38 #[v, v'] w fun e w' => e = .returned (.int .i64 (lessN T T')) ∧ Below w.heap.size w w' := by
  obtain ⟨k, x, n, s, ks, ts⟩ := T
  obtain ⟨k', x', n', s', ks', ts'⟩ := T'
  have HV := hidE hv
  have HV' := hidE hv'
  simp only [Lies] at hv hv'
  obtain ⟨ka, kc, la, lc, rfl, _, _, _⟩ := hv
  obtain ⟨ka', kc', la', lc', rfl, _, _, _⟩ := hv'
  obtain ⟨W3, hW3⟩ : ∃ W3, ((w.alloc (.cells #[.int .i64 k, .bool x, .int .i64 n, .string s, .slice ka ks.length kc, .slice la ts.length lc] 26)).alloc (.cells #[.int .i64 k', .bool x', .int .i64 n', .string s', .slice ka' ks'.length kc', .slice la' ts'.length lc'] 26)).alloc (.cells #[.int .i64 k, .bool x, .int .i64 n, .string s, .slice ka ks.length kc, .slice la ts.length lc, .int .i64 k', .bool x', .int .i64 n', .string s', .slice ka' ks'.length kc', .slice la' ts'.length lc'] 26) = W3 := ⟨_, rfl⟩
  have hbx : ∀ W, Below W3.heap.size W3 W → Below w.heap.size w W ∧ (∀ i v, (#[Value.int .i64 k, .bool x, .int .i64 n, .string s, .slice ka ks.length kc, .slice la ts.length lc] : Array Value)[i]? = some v → W.cell? ⟨w.heap.size, i, none⟩ = some v) ∧
      (∀ i v, (#[Value.int .i64 k', .bool x', .int .i64 n', .string s', .slice ka' ks'.length kc', .slice la' ts'.length lc'] : Array Value)[i]? = some v → W.cell? ⟨w.heap.size + 1, i, none⟩ = some v) := fun W hb => by
    rw [← hW3] at hb
    exact two_boxes (((Below.refl _ _).alloc (Nat.le_refl _) _).trans (hb.mono (by simp)))
  have hc3 : W3.heap[w.heap.size + 1 + 1]? = some (.cells #[.int .i64 k, .bool x, .int .i64 n, .string s, .slice ka ks.length kc, .slice la ts.length lc, .int .i64 k', .bool x', .int .i64 n', .string s', .slice ka' ks'.length kc', .slice la' ts'.length lc'] 26 (0, 0)) := by
    rw [← hW3]
    have := World.alloc_heap_new ((w.alloc (.cells #[.int .i64 k, .bool x, .int .i64 n, .string s, .slice ka ks.length kc, .slice la ts.length lc] 26)).alloc (.cells #[.int .i64 k', .bool x', .int .i64 n', .string s', .slice ka' ks'.length kc', .slice la' ts'.length lc'] 26)) (.cells #[.int .i64 k, .bool x, .int .i64 n, .string s, .slice ka ks.length kc, .slice la ts.length lc, .int .i64 k', .bool x', .int .i64 n', .string s', .slice ka' ks'.length kc', .slice la' ts'.length lc'] 26)
    simpa only [World.size_alloc] using this
  have hlt3 : w.heap.size + 1 + 1 < W3.heap.size := by rw [← hW3]; simp
  have hb3 : Below w.heap.size w W3 := (hbx W3 (Below.refl _ _)).1
  have HV3 := hidE ((HV.out.below (hb3.mono hB)).mono (Nat.le_trans hB hb3.size))
  have HV3' := hidE ((HV'.out.below (hb3.mono hB)).mono (Nat.le_trans hB hb3.size))
  have HC := hidE (refused_any [.mk k x n s ks ts, .mk k' x' n' s' ks' ts'] W3.heap.size (some ⟨w.heap.size + 1 + 1, 0, none⟩) 2 W3 (Nat.le_refl _) (.inr ⟨_, _, rfl, hlt3, two_kids hc3 HV3.out HV3'.out⟩) (Nat.le_refl _) (by unfold maxLen; omega) (hT.below hb3)
    (by intro t ht; simp only [List.mem_cons, List.not_mem_nil, or_false] at ht; rcases ht with rfl | rfl; exact hm; exact hm'))
  have HBX := hidE hbx
  have HW3 := hidE hW3
  clear hbx hW3 hc3 hm hm'
  have hb2 : Below w.heap.size w ((w.alloc (.cells #[.int .i64 k, .bool x, .int .i64 n, .string s, .slice ka ks.length kc, .slice la ts.length lc] 26)).alloc (.cells #[.int .i64 k', .bool x', .int .i64 n', .string s', .slice ka' ks'.length kc', .slice la' ts'.length lc'] 26)) := ((Below.refl _ _).alloc (Nat.le_refl _) _).alloc (by simp) _
  go_enter Tryz.func38, Tryz.ntmps38
  by_cases hk : k = k'
  · subst hk
    have HP := hidE (plain_any k)
    go_wp2_with fail
    refine (HP.out _).mono ?_
    rintro e _ ⟨rfl, rfl⟩
    cases hp : plainB k with
    | false =>
      have HN : Hid (lessN (.mk k x n s ks ts) (.mk k x' n' s' ks' ts') = 1) := by
        show _ = _
        unfold lessN
        rw [if_neg]
        rintro ⟨_, h, _⟩
        simp [Tree.kind, hp] at h
      clear hp HP
      go_wp2_with fail
      go_ret
      exact ⟨by rw [HN.out]; rfl, hb2⟩
    | true =>
      have HPT := hidE hp
      clear hp HP hb2
      go_wp2_with fail
      rw [HW3.out]
      refine HC.out.mono ?_
      rintro e w4 ⟨rfl, hb4⟩
      obtain ⟨hbw, hq, hr⟩ := HBX.out w4 hb4
      have q0 := hq 0 _ rfl
      have q1 := hq 1 _ rfl
      have q2 := hq 2 _ rfl
      have q3 := hq 3 _ rfl
      have q4 := hq 4 _ rfl
      have q5 := hq 5 _ rfl
      have r0 := hr 0 _ rfl
      have r1 := hr 1 _ rfl
      have r2 := hr 2 _ rfl
      have r3 := hr 3 _ rfl
      have r4 := hr 4 _ rfl
      have r5 := hr 5 _ rfl
      have HQ := hidE (order_any _ W3.heap.size _ _ _ w4 hb4.size (HV3.out.below hb4) (HV3'.out.below hb4))
      have hsz := hb4.size
      clear hq hr HBX HC HW3 hb4
      cases hany : [Tree.mk k x n s ks ts, .mk k x' n' s' ks' ts'].any (fun t => checkN t != 0) with
      | true =>
        have HN : Hid (lessN (.mk k x n s ks ts) (.mk k x' n' s' ks' ts') = 1) := by
          show _ = _
          unfold lessN
          rw [if_neg]
          rintro ⟨_, _, h1, h2⟩
          simp [h1, h2] at hany
        clear hany
        go_wp2_with fail
        go_ret
        exact ⟨by rw [HN.out]; rfl, hbw⟩
      | false =>
        have HN : Hid (lessN (.mk k x n s ks ts) (.mk k x' n' s' ks' ts') = truthI (decide (ordT (.mk k x n s ks ts) (.mk k x' n' s' ks' ts') < 0))) := by
          show _ = _
          unfold lessN
          simp at hany
          rw [if_pos ⟨rfl, HPT.out, hany⟩]
        clear hany
        go_wp2_with fail
        refine HQ.out.mono ?_
        rintro e w5 ⟨rfl, hb5⟩
        have hfin := below_on hbw hb5
        clear hb5 q0 q1 q2 q3 q4 q5 r0 r1 r2 r3 r4 r5
        obtain ⟨z, hz⟩ : ∃ z, ordT (.mk k x n s ks ts) (.mk k x' n' s' ks' ts') = z := ⟨_, rfl⟩
        rw [hz] at HN ⊢
        have HTR := hidE (truth_any (decide (z < 0)) w5)
        go_wp2_with fail
        refine HTR.out.mono ?_
        rintro e _ ⟨rfl, rfl⟩
        go_wp2_with fail
        go_ret
        exact ⟨by rw [HN.out]; rfl, hfin⟩
  · have HN : Hid (lessN (.mk k x n s ks ts) (.mk k' x' n' s' ks' ts') = 1) := by
      show _ = _
      unfold lessN
      rw [if_neg]
      rintro ⟨h, _⟩
      exact hk h
    go_wp2_with fail
    go_ret
    exact ⟨by rw [HN.out]; rfl, hb2⟩
end Go.Proofs.YtbpmhgcjefpigaaGreatDoor
