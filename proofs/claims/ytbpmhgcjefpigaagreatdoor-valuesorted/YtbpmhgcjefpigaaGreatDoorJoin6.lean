/- Whether values are small enough together. Compare, Same and Less at every two values. The functions that make values. A copy lies in memory of its own: what is said of it, and small things about blocks. -/
import Derived.Test.YtbpmhgcjefpigaaGreatDoorJoin5
import Derived.Test.YtbpmhgcjefpigaaGreatDoorJoin1
import Derived.Below
import Derived.Laws.IdiomCopy
import Derived.Laws.MakeOwn
namespace Go.Proofs.YtbpmhgcjefpigaaGreatDoor
open Go.RowKit Go.Shelf
set_option linter.unusedVariables false

def smalls (ts : List Tree) : Int := (ts.map fun t => smallN t 2000).sum
theorem smalls_take {ts : List Tree} {j : Nat} {t : Tree} (h : ts[j]? = some t) : smalls (ts.take (j + 1)) = smalls (ts.take j) + smallN t 2000 := by
  rw [List.take_add_one, h]
  simp [smalls]
theorem smalls_pos : ∀ {ts : List Tree}, (∀ t ∈ ts, 0 ≤ smallN t 2000) → 0 ≤ smalls ts
  | [], _ => by simp [smalls]
  | t :: ts, h => by
    have h1 := h t (by simp)
    have h2 := smalls_pos (ts := ts) fun u hu => h u (by simp [hu])
    simp only [smalls, List.map_cons, List.sum_cons] at h2 ⊢
    omega
theorem smalls_take_le {ts : List Tree} (j : Nat) (h : ∀ t ∈ ts, 0 ≤ smallN t 2000) : smalls (ts.take j) ≤ smalls ts := by
  have e : smalls ts = smalls (ts.take j) + smalls (ts.drop j) := by
    have h0 : smalls (ts.take j ++ ts.drop j) = smalls (ts.take j) + smalls (ts.drop j) := by unfold smalls; rw [List.map_append, List.sum_append]
    rwa [List.take_append_drop] at h0
  have := smalls_pos (ts := ts.drop j) fun t ht => h t (List.mem_of_mem_drop ht)
  omega

set_option maxHeartbeats 1000000 in
theorem smalls_any (ts : List Tree) (B : Nat) (la : Option Addr) (lc : Nat) (w : World) (hB : B ≤ w.heap.size) (hl : ListLies B w la ts) (h1 : ts.length ≤ lc) (h2 : lc ≤ maxLen) (hs : ∀ t ∈ ts, Sane t) :
    Calls Tryz.prog 15 #[.slice la ts.length lc] w fun e w' => e = .returned (.bool (decide (smalls ts ≤ 2000))) ∧ Below w.heap.size w w' := by
  unfold maxLen at h2
  have HS := hidE hs
  have HPOS : Hid (∀ t ∈ ts, 0 ≤ smallN t 2000) := fun t _ => by have := smallN_pos t 2000; omega
  clear hs
  go_enter Tryz.func15, Tryz.ntmps15
  go_wp2_with fail
  go_loopw [3, 4] (fun n i wr => ∃ j : Nat, j ≤ ts.length ∧ i = .int .i64 j ∧ Below w.heap.size w wr ∧ n = .int .i64 (smalls (ts.take j))) (fun _ i _ => ts.length - (intOf i).toNat)
  case atStart => exact ⟨0, Nat.zero_le _, rfl, Below.refl _ _, by simp [smalls]⟩
  case round =>
    obtain ⟨j, hj, rfl, hbr, rfl⟩ := hrel
    have hp : 0 ≤ smalls (ts.take j) := smalls_pos fun t ht => HPOS.out t (List.mem_of_mem_take ht)
    have hle := smalls_take_le j HPOS.out
    obtain ⟨n, hn⟩ : ∃ n, smalls (ts.take j) = n := ⟨_, rfl⟩
    rw [hn] at hp hle ⊢
    have HN := hidE hn
    clear hn
    by_cases hlt : j < ts.length
    · by_cases hn2 : n ≤ 2000
      · obtain ⟨bl, off, rfl, hbl, hkl⟩ := hl.resolve_left (by intro e; subst e; simp at hlt)
        obtain ⟨⟨p0, p1, p2, p3, p4, p5⟩, hx⟩ : ∃ t, ts[j]? = some t := ⟨_, List.getElem?_eq_getElem hlt⟩
        obtain ⟨ja, jc, jl, jd, ⟨c0, c1, c2, c3, c4, c5⟩, hlx⟩ := (hkl.below (hbr.mono hB) hbl).cells hx
        have hsx := HS.out _ (List.mem_of_getElem? hx)
        have hup := smallN_le _ 2000 hsx (by omega)
        have hlo := smallN_pos (.mk p0 p1 p2 p3 p4 p5) 2000
        have HX := hidE (smalls_take hx)
        have HC := hidE (small_any (.mk p0 p1 p2 p3 p4 p5) B _ 2000 wr (Nat.le_trans hB hbr.size) hlx hsx (by omega) (by omega))
        clear hx hkl hlx hsx
        go_wp2_with fail
        refine HC.out.mono ?_
        rintro e w' ⟨rfl, hk2⟩
        have HB2 : Hid (Below w.heap.size w w') := below_on hbr hk2
        obtain ⟨m, hm⟩ : ∃ m, smallN (.mk p0 p1 p2 p3 p4 p5) 2000 = m := ⟨_, rfl⟩
        rw [hm] at hup hlo HX ⊢
        clear hk2 HC c0 c1 c2 c3 c4 c5 hm
        go_wp2_with fail
        go_roundw
        case rel =>
          refine ⟨j + 1, by omega, by go_num, HB2.out, ?_⟩
          rw [HX.out, HN.out]
        case measure => simp [intOf]; omega
      · have HR : Hid (decide (smalls ts ≤ 2000) = false) := by show _ = _; simp; omega
        go_wp2_with fail
        go_ret
        exact ⟨by rw [HR.out]; simp, hbr⟩
    · have HR : Hid (smalls ts = n) := by have := HN.out; rwa [List.take_of_length_le (by omega)] at this
      go_wp2_with fail
      go_ret
      exact ⟨by rw [HR.out]; rfl, hbr⟩
end Go.Proofs.YtbpmhgcjefpigaaGreatDoor

namespace Go.Proofs.YtbpmhgcjefpigaaGreatDoor
open Go.RowKit Go.Shelf
set_option linter.unusedVariables false

/-- What Compare answers. -/
def compN (T T' : Tree) : Int := if checkN T = 0 ∧ checkN T' = 0 then ordT T T' else 0
/-- What Same answers. -/
def sameB (T T' : Tree) : Bool := decide (checkN T = 0 ∧ checkN T' = 0) && (ordT T T' == 0)

set_option maxHeartbeats 1000000 in
theorem Compare_any (T T' : Tree) (B : Nat) (v v' : Value) (w : World) (hB : B ≤ w.heap.size) (hv : Lies B w v T) (hv' : Lies B w v' T') (hT : Tabs w) (hm : Modest T) (hm' : Modest T') :
    Calls Tryz.prog 31 #[v, v'] w fun e w' => e = .returned (.int .i64 (compN T T')) ∧ Below w.heap.size w w' := by
  obtain ⟨k, x, n, s, ks, ts⟩ := T
  obtain ⟨k', x', n', s', ks', ts'⟩ := T'
  have HV := hidE hv
  have HV' := hidE hv'
  simp only [Lies] at hv hv'
  obtain ⟨ka, kc, la, lc, rfl, _, _, _⟩ := hv
  obtain ⟨ka', kc', la', lc', rfl, _, _, _⟩ := hv'
  obtain ⟨W3, hW3⟩ : ∃ W3, ((w.alloc (.cells #[.int .i64 k, .bool x, .int .i64 n, .string s, .slice ka ks.length kc, .slice la ts.length lc] 26)).alloc (.cells #[.int .i64 k', .bool x', .int .i64 n', .string s', .slice ka' ks'.length kc', .slice la' ts'.length lc'] 26)).alloc (.cells #[.int .i64 k, .bool x, .int .i64 n, .string s, .slice ka ks.length kc, .slice la ts.length lc, .int .i64 k', .bool x', .int .i64 n', .string s', .slice ka' ks'.length kc', .slice la' ts'.length lc'] 26) = W3 := ⟨_, rfl⟩
  have hbx : ∀ W, Below W3.heap.size W3 W → Below w.heap.size w W ∧ (∀ i v, (#[Value.int .i64 k, .bool x, .int .i64 n, .string s, .slice ka ks.length kc, .slice la ts.length lc] : Array Value)[i]? = some v → W.cell? ⟨w.heap.size, i, none⟩ = some v) ∧
      (∀ i v, (#[Value.int .i64 k', .bool x', .int .i64 n', .string s', .slice ka' ks'.length kc', .slice la' ts'.length lc'] : Array Value)[i]? = some v → W.cell? ⟨w.heap.size + 1, i, none⟩ = some v) := fun W hb => by
    rw [← hW3] at hb
    exact two_boxes (((Below.refl _ _).alloc (Nat.le_refl _) _).trans (hb.mono (by simp)))
  have hc3 : W3.heap[w.heap.size + 1 + 1]? = some (.cells #[.int .i64 k, .bool x, .int .i64 n, .string s, .slice ka ks.length kc, .slice la ts.length lc, .int .i64 k', .bool x', .int .i64 n', .string s', .slice ka' ks'.length kc', .slice la' ts'.length lc'] 26 (0, 0)) := by
    rw [← hW3]
    have := World.alloc_heap_new ((w.alloc (.cells #[.int .i64 k, .bool x, .int .i64 n, .string s, .slice ka ks.length kc, .slice la ts.length lc] 26)).alloc (.cells #[.int .i64 k', .bool x', .int .i64 n', .string s', .slice ka' ks'.length kc', .slice la' ts'.length lc'] 26)) (.cells #[.int .i64 k, .bool x, .int .i64 n, .string s, .slice ka ks.length kc, .slice la ts.length lc, .int .i64 k', .bool x', .int .i64 n', .string s', .slice ka' ks'.length kc', .slice la' ts'.length lc'] 26)
    simpa only [World.size_alloc] using this
  have hlt3 : w.heap.size + 1 + 1 < W3.heap.size := by rw [← hW3]; simp
  have hb3 : Below w.heap.size w W3 := (hbx W3 (Below.refl _ _)).1
  have HV3 := hidE ((HV.out.below (hb3.mono hB)).mono (Nat.le_trans hB hb3.size))
  have HV3' := hidE ((HV'.out.below (hb3.mono hB)).mono (Nat.le_trans hB hb3.size))
  have HC := hidE (refused_any [.mk k x n s ks ts, .mk k' x' n' s' ks' ts'] W3.heap.size (some ⟨w.heap.size + 1 + 1, 0, none⟩) 2 W3 (Nat.le_refl _) (.inr ⟨_, _, rfl, hlt3, two_kids hc3 HV3.out HV3'.out⟩) (Nat.le_refl _) (by unfold maxLen; omega) (hT.below hb3)
    (by intro t ht; simp only [List.mem_cons, List.not_mem_nil, or_false] at ht; rcases ht with rfl | rfl; exact hm; exact hm'))
  have HBX := hidE hbx
  have HW3 := hidE hW3
  clear hbx hW3 hc3 hm hm'
  go_enter Tryz.func31, Tryz.ntmps31
  go_wp2_with fail
  rw [HW3.out]
  refine HC.out.mono ?_
  rintro e w4 ⟨rfl, hb4⟩
  obtain ⟨hbw, hq, hr⟩ := HBX.out w4 hb4
  have q0 := hq 0 _ rfl
  have q1 := hq 1 _ rfl
  have q2 := hq 2 _ rfl
  have q3 := hq 3 _ rfl
  have q4 := hq 4 _ rfl
  have q5 := hq 5 _ rfl
  have r0 := hr 0 _ rfl
  have r1 := hr 1 _ rfl
  have r2 := hr 2 _ rfl
  have r3 := hr 3 _ rfl
  have r4 := hr 4 _ rfl
  have r5 := hr 5 _ rfl
  have HQ := hidE (order_any _ W3.heap.size _ _ _ w4 hb4.size (HV3.out.below hb4) (HV3'.out.below hb4))
  have hsz := hb4.size
  clear hq hr HBX HC HW3 hb4
  cases hany : [Tree.mk k x n s ks ts, .mk k' x' n' s' ks' ts'].any (fun t => checkN t != 0) with
  | true =>
    have HN : Hid (compN (.mk k x n s ks ts) (.mk k' x' n' s' ks' ts') = 0) := by
      show _ = _
      unfold compN
      rw [if_neg]
      rintro ⟨h1, h2⟩
      simp [h1, h2] at hany
    clear hany
    go_wp2_with fail
    go_ret
    exact ⟨by rw [HN.out]; rfl, hbw⟩
  | false =>
    have HN : Hid (compN (.mk k x n s ks ts) (.mk k' x' n' s' ks' ts') = ordT (.mk k x n s ks ts) (.mk k' x' n' s' ks' ts')) := by
      show _ = _
      unfold compN
      simp at hany
      rw [if_pos hany]
    clear hany
    go_wp2_with fail
    refine HQ.out.mono ?_
    rintro e w5 ⟨rfl, hb5⟩
    have hfin := below_on hbw hb5
    clear hb5 q0 q1 q2 q3 q4 q5 r0 r1 r2 r3 r4 r5
    go_wp2_with fail
    go_ret
    exact ⟨by rw [HN.out]; rfl, hfin⟩

set_option maxHeartbeats 1000000 in
theorem Same_any (T T' : Tree) (B : Nat) (v v' : Value) (w : World) (hB : B ≤ w.heap.size) (hv : Lies B w v T) (hv' : Lies B w v' T') (hT : Tabs w) (hm : Modest T) (hm' : Modest T') :
    Calls Tryz.prog 32 #[v, v'] w fun e w' => e = .returned (.bool (sameB T T')) ∧ Below w.heap.size w w' := by
  obtain ⟨k, x, n, s, ks, ts⟩ := T
  obtain ⟨k', x', n', s', ks', ts'⟩ := T'
  have HV := hidE hv
  have HV' := hidE hv'
  simp only [Lies] at hv hv'
  obtain ⟨ka, kc, la, lc, rfl, _, _, _⟩ := hv
  obtain ⟨ka', kc', la', lc', rfl, _, _, _⟩ := hv'
  obtain ⟨W3, hW3⟩ : ∃ W3, ((w.alloc (.cells #[.int .i64 k, .bool x, .int .i64 n, .string s, .slice ka ks.length kc, .slice la ts.length lc] 26)).alloc (.cells #[.int .i64 k', .bool x', .int .i64 n', .string s', .slice ka' ks'.length kc', .slice la' ts'.length lc'] 26)).alloc (.cells #[.int .i64 k, .bool x, .int .i64 n, .string s, .slice ka ks.length kc, .slice la ts.length lc, .int .i64 k', .bool x', .int .i64 n', .string s', .slice ka' ks'.length kc', .slice la' ts'.length lc'] 26) = W3 := ⟨_, rfl⟩
  have hbx : ∀ W, Below W3.heap.size W3 W → Below w.heap.size w W ∧ (∀ i v, (#[Value.int .i64 k, .bool x, .int .i64 n, .string s, .slice ka ks.length kc, .slice la ts.length lc] : Array Value)[i]? = some v → W.cell? ⟨w.heap.size, i, none⟩ = some v) ∧
      (∀ i v, (#[Value.int .i64 k', .bool x', .int .i64 n', .string s', .slice ka' ks'.length kc', .slice la' ts'.length lc'] : Array Value)[i]? = some v → W.cell? ⟨w.heap.size + 1, i, none⟩ = some v) := fun W hb => by
    rw [← hW3] at hb
    exact two_boxes (((Below.refl _ _).alloc (Nat.le_refl _) _).trans (hb.mono (by simp)))
  have hc3 : W3.heap[w.heap.size + 1 + 1]? = some (.cells #[.int .i64 k, .bool x, .int .i64 n, .string s, .slice ka ks.length kc, .slice la ts.length lc, .int .i64 k', .bool x', .int .i64 n', .string s', .slice ka' ks'.length kc', .slice la' ts'.length lc'] 26 (0, 0)) := by
    rw [← hW3]
    have := World.alloc_heap_new ((w.alloc (.cells #[.int .i64 k, .bool x, .int .i64 n, .string s, .slice ka ks.length kc, .slice la ts.length lc] 26)).alloc (.cells #[.int .i64 k', .bool x', .int .i64 n', .string s', .slice ka' ks'.length kc', .slice la' ts'.length lc'] 26)) (.cells #[.int .i64 k, .bool x, .int .i64 n, .string s, .slice ka ks.length kc, .slice la ts.length lc, .int .i64 k', .bool x', .int .i64 n', .string s', .slice ka' ks'.length kc', .slice la' ts'.length lc'] 26)
    simpa only [World.size_alloc] using this
  have hlt3 : w.heap.size + 1 + 1 < W3.heap.size := by rw [← hW3]; simp
  have hb3 : Below w.heap.size w W3 := (hbx W3 (Below.refl _ _)).1
  have HV3 := hidE ((HV.out.below (hb3.mono hB)).mono (Nat.le_trans hB hb3.size))
  have HV3' := hidE ((HV'.out.below (hb3.mono hB)).mono (Nat.le_trans hB hb3.size))
  have HC := hidE (refused_any [.mk k x n s ks ts, .mk k' x' n' s' ks' ts'] W3.heap.size (some ⟨w.heap.size + 1 + 1, 0, none⟩) 2 W3 (Nat.le_refl _) (.inr ⟨_, _, rfl, hlt3, two_kids hc3 HV3.out HV3'.out⟩) (Nat.le_refl _) (by unfold maxLen; omega) (hT.below hb3)
    (by intro t ht; simp only [List.mem_cons, List.not_mem_nil, or_false] at ht; rcases ht with rfl | rfl; exact hm; exact hm'))
  have HBX := hidE hbx
  have HW3 := hidE hW3
  clear hbx hW3 hc3 hm hm'
  go_enter Tryz.func32, Tryz.ntmps32
  go_wp2_with fail
  rw [HW3.out]
  refine HC.out.mono ?_
  rintro e w4 ⟨rfl, hb4⟩
  obtain ⟨hbw, hq, hr⟩ := HBX.out w4 hb4
  have q0 := hq 0 _ rfl
  have q1 := hq 1 _ rfl
  have q2 := hq 2 _ rfl
  have q3 := hq 3 _ rfl
  have q4 := hq 4 _ rfl
  have q5 := hq 5 _ rfl
  have r0 := hr 0 _ rfl
  have r1 := hr 1 _ rfl
  have r2 := hr 2 _ rfl
  have r3 := hr 3 _ rfl
  have r4 := hr 4 _ rfl
  have r5 := hr 5 _ rfl
  have HQ := hidE (order_any _ W3.heap.size _ _ _ w4 hb4.size (HV3.out.below hb4) (HV3'.out.below hb4))
  have hsz := hb4.size
  clear hq hr HBX HC HW3 hb4
  cases hany : [Tree.mk k x n s ks ts, .mk k' x' n' s' ks' ts'].any (fun t => checkN t != 0) with
  | true =>
    have HN : Hid (sameB (.mk k x n s ks ts) (.mk k' x' n' s' ks' ts') = false) := by
      show _ = _
      unfold sameB
      rw [decide_eq_false, Bool.false_and]
      rintro ⟨h1, h2⟩
      simp [h1, h2] at hany
    clear hany
    go_wp2_with fail
    go_ret
    exact ⟨by rw [HN.out]; rfl, hbw⟩
  | false =>
    have HN : Hid (sameB (.mk k x n s ks ts) (.mk k' x' n' s' ks' ts') = (ordT (.mk k x n s ks ts) (.mk k' x' n' s' ks' ts') == 0)) := by
      show _ = _
      unfold sameB
      simp at hany
      rw [decide_eq_true hany, Bool.true_and]
    generalize ordT (.mk k x n s ks ts) (.mk k' x' n' s' ks' ts') = ot at *
    clear hany
    go_wp2_with fail
    refine HQ.out.mono ?_
    rintro e w5 ⟨rfl, hb5⟩
    have hfin := below_on hbw hb5
    clear hb5 q0 q1 q2 q3 q4 q5 r0 r1 r2 r3 r4 r5
    go_wp2_with fail
    go_ret
    exact ⟨by rw [HN.out]; rfl, hfin⟩
end Go.Proofs.YtbpmhgcjefpigaaGreatDoor

namespace Go.Proofs.YtbpmhgcjefpigaaGreatDoor
open Go.RowKit
set_option linter.unusedVariables false

/-- A value of which only the kind, the truth, the number and the text are used. -/
abbrev leaf (k : Int) (b : Bool) (n : Int) (s : ByteArray) : Value := .agg #[.int .i64 k, .bool b, .int .i64 n, .string s, .slice none 0 0, .slice none 0 0]
theorem null_any (w : World) : Calls Tryz.prog 53 #[] w fun e w' => e = .returned (leaf 0 false 0 ⟨#[]⟩) ∧ Below w.heap.size w w' := by
  go_enter Tryz.func53, Tryz.ntmps53
  go_wp2
  exact bodyPost_ret (v := leaf 0 false 0 ⟨#[]⟩) (by simp [results, Tryz.results53, go_sem]) rfl ⟨rfl, (Below.refl _ _).alloc (Nat.le_refl _) _⟩
theorem bool_any (b : Bool) (w : World) : Calls Tryz.prog 54 #[.bool b] w fun e w' => e = .returned (leaf 1 b 0 ⟨#[]⟩) ∧ Below w.heap.size w w' := by
  go_enter Tryz.func54, Tryz.ntmps54
  go_wp2
  exact bodyPost_ret (v := leaf 1 b 0 ⟨#[]⟩) (by simp [results, Tryz.results54, go_sem]) rfl ⟨rfl, (Below.refl _ _).alloc (Nat.le_refl _) _⟩
theorem int_any (n : Int) (w : World) : Calls Tryz.prog 55 #[.int .i64 n] w fun e w' => e = .returned (leaf 2 false n ⟨#[]⟩) ∧ Below w.heap.size w w' := by
  go_enter Tryz.func55, Tryz.ntmps55
  go_wp2
  exact bodyPost_ret (v := leaf 2 false n ⟨#[]⟩) (by simp [results, Tryz.results55, go_sem]) rfl ⟨rfl, (Below.refl _ _).alloc (Nat.le_refl _) _⟩
theorem string_any (s : ByteArray) (w : World) : Calls Tryz.prog 56 #[.string s] w fun e w' => e = .returned (leaf 3 false 0 s) ∧ Below w.heap.size w w' := by
  go_enter Tryz.func56, Tryz.ntmps56
  go_wp2
  exact bodyPost_ret (v := leaf 3 false 0 s) (by simp [results, Tryz.results56, go_sem]) rfl ⟨rfl, (Below.refl _ _).alloc (Nat.le_refl _) _⟩
end Go.Proofs.YtbpmhgcjefpigaaGreatDoor

namespace Go.Proofs.YtbpmhgcjefpigaaGreatDoor
open Go.RowKit Go.Shelf
set_option linter.unusedVariables false

/-- Texts in a row, in blocks from lo up to B. -/
def KeysR (lo B : Nat) (w : World) (ad : Option Addr) (ks : List ByteArray) : Prop :=
  ks = [] ∨ ∃ b off, ad = some ⟨b, off, none⟩ ∧ lo ≤ b ∧ b < B ∧ ∀ i, i < ks.length → w.cell? ⟨b, off + i, none⟩ = some (.string (ks.getD i ⟨#[]⟩)) ∧ (ks.getD i ⟨#[]⟩).size ≤ maxLen
mutual
/-- A value, what is in it in blocks from lo up to B. -/
def LiesR (lo B : Nat) (w : World) : Value → Tree → Prop
  | v, .mk k b n s ks ts => ∃ ka kc la lc, v = .agg #[.int .i64 k, .bool b, .int .i64 n, .string s, .slice ka ks.length kc, .slice la ts.length lc] ∧
      (s.size ≤ maxLen ∧ ks.length ≤ kc ∧ kc ≤ maxLen ∧ ts.length ≤ lc ∧ lc ≤ maxLen) ∧ KeysR lo B w ka ks ∧ (ts = [] ∨ ∃ bl off, la = some ⟨bl, off, none⟩ ∧ lo ≤ bl ∧ bl < B ∧ KidsR lo B w bl off ts)
def KidsR (lo B : Nat) (w : World) (bl : Nat) : Nat → List Tree → Prop
  | _, [] => True
  | off, t :: ts => (∃ v0 v1 v2 v3 v4 v5, (w.cell? ⟨bl, off, none⟩ = some v0 ∧ w.cell? ⟨bl, off + 1, none⟩ = some v1 ∧ w.cell? ⟨bl, off + 2, none⟩ = some v2 ∧ w.cell? ⟨bl, off + 3, none⟩ = some v3 ∧
      w.cell? ⟨bl, off + 4, none⟩ = some v4 ∧ w.cell? ⟨bl, off + 5, none⟩ = some v5) ∧ LiesR lo B w (.agg #[v0, v1, v2, v3, v4, v5]) t) ∧ KidsR lo B w bl (off + 6) ts
end
def ListR (lo B : Nat) (w : World) (la : Option Addr) (ts : List Tree) : Prop := ts = [] ∨ ∃ bl off, la = some ⟨bl, off, none⟩ ∧ lo ≤ bl ∧ bl < B ∧ KidsR lo B w bl off ts

theorem KeysR.lie {lo B : Nat} {w : World} {ad : Option Addr} {ks : List ByteArray} (h : KeysR lo B w ad ks) : KeysLie B w ad ks :=
  h.imp id fun ⟨b, off, h1, _, h2, h3⟩ => ⟨b, off, h1, h2, h3⟩
mutual
theorem LiesR.lie {lo B : Nat} {w : World} : ∀ {v : Value} {T : Tree}, LiesR lo B w v T → Lies B w v T
  | v, .mk k b n s ks ts, h => by
    simp only [LiesR] at h
    obtain ⟨ka, kc, la, lc, hv, hs, hk, ht⟩ := h
    simp only [Lies]
    exact ⟨ka, kc, la, lc, hv, hs, hk.lie, ht.imp id fun ⟨bl, off, h1, _, h2, h3⟩ => ⟨bl, off, h1, h2, KidsR.lie h3⟩⟩
theorem KidsR.lie {lo B : Nat} {w : World} {bl : Nat} : ∀ {off : Nat} {ts : List Tree}, KidsR lo B w bl off ts → KidsLie B w bl off ts
  | off, [], _ => by simp only [KidsLie]
  | off, t :: ts, h => by
    simp only [KidsR] at h
    obtain ⟨⟨v0, v1, v2, v3, v4, v5, hc, hv⟩, hr⟩ := h
    simp only [KidsLie]
    exact ⟨⟨v0, v1, v2, v3, v4, v5, hc, LiesR.lie hv⟩, KidsR.lie hr⟩
end
theorem ListR.lie {lo B : Nat} {w : World} {la : Option Addr} {ts : List Tree} (h : ListR lo B w la ts) : ListLies B w la ts :=
  h.imp id fun ⟨bl, off, h1, _, h2, h3⟩ => ⟨bl, off, h1, h2, h3.lie⟩

/-- The cells of the blocks from lo up to B are as they were. -/
def Keeps (lo B : Nat) (w w' : World) : Prop := ∀ b o, lo ≤ b → b < B → w'.cell? ⟨b, o, none⟩ = w.cell? ⟨b, o, none⟩
theorem KeysR.keep {lo B : Nat} {w w' : World} (hk : Keeps lo B w w') {ad : Option Addr} {ks : List ByteArray} (h : KeysR lo B w ad ks) : KeysR lo B w' ad ks :=
  h.imp id fun ⟨b, off, h1, h2, h3, h4⟩ => ⟨b, off, h1, h2, h3, fun i hi => ⟨(hk b _ h2 h3).trans (h4 i hi).1, (h4 i hi).2⟩⟩
mutual
theorem LiesR.keep {lo B : Nat} {w w' : World} (hk : Keeps lo B w w') : ∀ {v : Value} {T : Tree}, LiesR lo B w v T → LiesR lo B w' v T
  | v, .mk k b n s ks ts, h => by
    simp only [LiesR] at h ⊢
    obtain ⟨ka, kc, la, lc, hv, hs, hks, ht⟩ := h
    exact ⟨ka, kc, la, lc, hv, hs, hks.keep hk, ht.imp id fun ⟨bl, off, h1, h2, h3, h4⟩ => ⟨bl, off, h1, h2, h3, KidsR.keep hk h2 h3 h4⟩⟩
theorem KidsR.keep {lo B : Nat} {w w' : World} (hk : Keeps lo B w w') {bl : Nat} (h1 : lo ≤ bl) (h2 : bl < B) : ∀ {off : Nat} {ts : List Tree}, KidsR lo B w bl off ts → KidsR lo B w' bl off ts
  | off, [], _ => by simp only [KidsR]
  | off, t :: ts, h => by
    simp only [KidsR] at h ⊢
    obtain ⟨⟨v0, v1, v2, v3, v4, v5, ⟨c0, c1, c2, c3, c4, c5⟩, hv⟩, hr⟩ := h
    exact ⟨⟨v0, v1, v2, v3, v4, v5, ⟨(hk bl _ h1 h2).trans c0, (hk bl _ h1 h2).trans c1, (hk bl _ h1 h2).trans c2, (hk bl _ h1 h2).trans c3, (hk bl _ h1 h2).trans c4, (hk bl _ h1 h2).trans c5⟩, LiesR.keep hk hv⟩, KidsR.keep hk h1 h2 hr⟩
end
theorem KeysR.mono {lo lo' B B' : Nat} {w : World} (h1 : lo' ≤ lo) (h2 : B ≤ B') {ad : Option Addr} {ks : List ByteArray} (h : KeysR lo B w ad ks) : KeysR lo' B' w ad ks :=
  h.imp id fun ⟨b, off, g1, g2, g3, g4⟩ => ⟨b, off, g1, Nat.le_trans h1 g2, Nat.lt_of_lt_of_le g3 h2, g4⟩
mutual
theorem LiesR.mono {lo lo' B B' : Nat} {w : World} (h1 : lo' ≤ lo) (h2 : B ≤ B') : ∀ {v : Value} {T : Tree}, LiesR lo B w v T → LiesR lo' B' w v T
  | v, .mk k b n s ks ts, h => by
    simp only [LiesR] at h ⊢
    obtain ⟨ka, kc, la, lc, hv, hs, hks, ht⟩ := h
    exact ⟨ka, kc, la, lc, hv, hs, hks.mono h1 h2, ht.imp id fun ⟨bl, off, g1, g2, g3, g4⟩ => ⟨bl, off, g1, Nat.le_trans h1 g2, Nat.lt_of_lt_of_le g3 h2, KidsR.mono h1 h2 g4⟩⟩
theorem KidsR.mono {lo lo' B B' : Nat} {w : World} (h1 : lo' ≤ lo) (h2 : B ≤ B') {bl : Nat} : ∀ {off : Nat} {ts : List Tree}, KidsR lo B w bl off ts → KidsR lo' B' w bl off ts
  | off, [], _ => by simp only [KidsR]
  | off, t :: ts, h => by
    simp only [KidsR] at h ⊢
    obtain ⟨⟨v0, v1, v2, v3, v4, v5, hc, hv⟩, hr⟩ := h
    exact ⟨⟨v0, v1, v2, v3, v4, v5, hc, LiesR.mono h1 h2 hv⟩, KidsR.mono h1 h2 hr⟩
end
theorem ListR.mono {lo lo' B B' : Nat} {w : World} (h1 : lo' ≤ lo) (h2 : B ≤ B') {la : Option Addr} {ts : List Tree} (h : ListR lo B w la ts) : ListR lo' B' w la ts :=
  h.imp id fun ⟨bl, off, g1, g2, g3, g4⟩ => ⟨bl, off, g1, Nat.le_trans h1 g2, Nat.lt_of_lt_of_le g3 h2, g4.mono h1 h2⟩
theorem ListR.keep {lo B : Nat} {w w' : World} (hk : Keeps lo B w w') {la : Option Addr} {ts : List Tree} (h : ListR lo B w la ts) : ListR lo B w' la ts :=
  h.imp id fun ⟨bl, off, h1, h2, h3, h4⟩ => ⟨bl, off, h1, h2, h3, h4.keep hk h2 h3⟩
theorem keeps_below {lo B : Nat} {w w' : World} (hb : Below w.heap.size w w') (h : B ≤ w.heap.size) : Keeps lo B w w' := fun b o _ h2 => hb.cell (p := ⟨b, o, none⟩) (Nat.lt_of_lt_of_le h2 h)

/-- Values one by one: the cells at their places, and each lies. -/
theorem kidsR_of {lo B bl : Nat} {w : World} : ∀ (l : List Tree) (off : Nat), (∀ (i : Nat) (t : Tree), l[i]? = some t → ∃ v0 v1 v2 v3 v4 v5, (w.cell? ⟨bl, off + i * 6, none⟩ = some v0 ∧ w.cell? ⟨bl, off + i * 6 + 1, none⟩ = some v1 ∧ w.cell? ⟨bl, off + i * 6 + 2, none⟩ = some v2 ∧ w.cell? ⟨bl, off + i * 6 + 3, none⟩ = some v3 ∧
      w.cell? ⟨bl, off + i * 6 + 4, none⟩ = some v4 ∧ w.cell? ⟨bl, off + i * 6 + 5, none⟩ = some v5) ∧ LiesR lo B w (.agg #[v0, v1, v2, v3, v4, v5]) t) → KidsR lo B w bl off l
  | [], off, h => by simp only [KidsR]
  | t :: l, off, h => by
    rw [KidsR]
    refine ⟨?_, kidsR_of l (off + 6) fun i u hu => ?_⟩
    · have := h 0 t rfl
      simpa using this
    · have := h (i + 1) u (by simpa using hu)
      have e : off + (i + 1) * 6 = off + 6 + i * 6 := by omega
      rwa [e] at this
theorem KidsR.at {lo B : Nat} {w : World} {bl : Nat} : ∀ {ts : List Tree} {off : Nat}, KidsR lo B w bl off ts → ∀ {i : Nat} {t : Tree}, ts[i]? = some t →
    ∃ v0 v1 v2 v3 v4 v5, (w.cell? ⟨bl, off + i * 6, none⟩ = some v0 ∧ w.cell? ⟨bl, off + i * 6 + 1, none⟩ = some v1 ∧ w.cell? ⟨bl, off + i * 6 + 2, none⟩ = some v2 ∧ w.cell? ⟨bl, off + i * 6 + 3, none⟩ = some v3 ∧
      w.cell? ⟨bl, off + i * 6 + 4, none⟩ = some v4 ∧ w.cell? ⟨bl, off + i * 6 + 5, none⟩ = some v5) ∧ LiesR lo B w (.agg #[v0, v1, v2, v3, v4, v5]) t
  | t :: ts, off, h, 0, u, hu => by
    simp only [KidsR] at h
    simp only [List.getElem?_cons_zero, Option.some.injEq] at hu
    subst hu
    simpa using h.1
  | t :: ts, off, h, i + 1, u, hu => by
    simp only [KidsR] at h
    have := KidsR.at h.2 (i := i) (by simpa using hu)
    have e : off + (i + 1) * 6 = off + 6 + i * 6 := by omega
    rwa [e]

/-- Six cells are written: the others stay. -/
def six (w : World) (b o : Nat) (v0 v1 v2 v3 v4 v5 : Value) : World := w.setCells b o [v0, v1, v2, v3, v4, v5]
theorem six_out {w : World} {b o : Nat} {v0 v1 v2 v3 v4 v5 : Value} {b' o' : Nat} (h : b' = b → o' < o ∨ o + 6 ≤ o') : (six w b o v0 v1 v2 v3 v4 v5).cell? ⟨b', o', none⟩ = w.cell? ⟨b', o', none⟩ :=
  World.cell?_setCells_out b _ o w ⟨b', o', none⟩ (fun h1 _ => by have := h h1; simpa using this)
theorem six_in {w : World} {b o : Nat} {v0 v1 v2 v3 v4 v5 : Value} (h : ∀ j, j < 6 → (w.cell? ⟨b, o + j, none⟩).isSome = true) :
    (six w b o v0 v1 v2 v3 v4 v5).cell? ⟨b, o, none⟩ = some v0 ∧ (six w b o v0 v1 v2 v3 v4 v5).cell? ⟨b, o + 1, none⟩ = some v1 ∧ (six w b o v0 v1 v2 v3 v4 v5).cell? ⟨b, o + 2, none⟩ = some v2 ∧ (six w b o v0 v1 v2 v3 v4 v5).cell? ⟨b, o + 3, none⟩ = some v3 ∧
      (six w b o v0 v1 v2 v3 v4 v5).cell? ⟨b, o + 4, none⟩ = some v4 ∧ (six w b o v0 v1 v2 v3 v4 v5).cell? ⟨b, o + 5, none⟩ = some v5 := by
  have key := World.cell?_setCells_in b [v0, v1, v2, v3, v4, v5] o w (by simpa using h)
  exact ⟨key 0 (by simp), key 1 (by simp), key 2 (by simp), key 3 (by simp), key 4 (by simp), key 5 (by simp)⟩
theorem six_below {B : Nat} {w w1 : World} (h : Below B w w1) {b o : Nat} (hb : B ≤ b) (v0 v1 v2 v3 v4 v5 : Value) : Below B w (six w1 b o v0 v1 v2 v3 v4 v5) :=
  (((((h.setCell (p := ⟨b, o, none⟩) hb v0).setCell (p := ⟨b, o + 1, none⟩) hb v1).setCell (p := ⟨b, o + 1 + 1, none⟩) hb v2).setCell (p := ⟨b, o + 1 + 1 + 1, none⟩) hb v3).setCell (p := ⟨b, o + 1 + 1 + 1 + 1, none⟩) hb v4).setCell (p := ⟨b, o + 1 + 1 + 1 + 1 + 1, none⟩) hb v5
theorem six_size {w : World} {b o : Nat} {v0 v1 v2 v3 v4 v5 : Value} : (six w b o v0 v1 v2 v3 v4 v5).heap.size = w.heap.size := by simp [six, World.setCells]
end Go.Proofs.YtbpmhgcjefpigaaGreatDoor

