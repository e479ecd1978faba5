/- Compare, Same and Less at every two values. List, and Less at every two values. Storable, the program's and the document's. -/
import Derived.Test.YteddjlbfbpecjaaGreatDoorJoin5
namespace Go.Proofs.YteddjlbfbpecjaaGreatDoor
open Go.RowKit Go.Shelf
set_option linter.unusedVariables false

/-- What Compare answers. -/
def compN (T T' : Tree) : Int := if checkN T = 0 ∧ checkN T' = 0 then ordT T T' else 0
/-- What Same answers. -/
def sameB (T T' : Tree) : Bool := decide (checkN T = 0 ∧ checkN T' = 0) && (ordT T T' == 0)

set_option maxHeartbeats 1000000 in
theorem Same_any (T T' : Tree) (B : Nat) (v v' : Value) (w : World) (hB : B ≤ w.heap.size) (hv : Lies B w v T) (hv' : Lies B w v' T') (hT : Tabs w) (hm : Modest T) (hm' : Modest T') :
    Calls Tryz.prog 152 #[v, v'] w fun e w' => e = .returned (.bool (sameB T T')) ∧ Below w.heap.size w w' := by
  obtain ⟨k, x, n, s, ks, ts⟩ := T
  obtain ⟨k', x', n', s', ks', ts'⟩ := T'
  have HV := hidE hv
  have HV' := hidE hv'
  simp only [Lies] at hv hv'
  obtain ⟨ka, kc, la, lc, rfl, _, _, _⟩ := hv
  obtain ⟨ka', kc', la', lc', rfl, _, _, _⟩ := hv'
  obtain ⟨W3, hW3⟩ : ∃ W3, ((w.alloc (.cells #[.int .i64 k, .bool x, .int .i64 n, .string s, .slice ka ks.length kc, .slice la ts.length lc] 60)).alloc (.cells #[.int .i64 k', .bool x', .int .i64 n', .string s', .slice ka' ks'.length kc', .slice la' ts'.length lc'] 60)).alloc (.cells #[.int .i64 k, .bool x, .int .i64 n, .string s, .slice ka ks.length kc, .slice la ts.length lc, .int .i64 k', .bool x', .int .i64 n', .string s', .slice ka' ks'.length kc', .slice la' ts'.length lc'] 60) = W3 := ⟨_, rfl⟩
  have hbx : ∀ W, Below W3.heap.size W3 W → Below w.heap.size w W ∧ (∀ i v, (#[Value.int .i64 k, .bool x, .int .i64 n, .string s, .slice ka ks.length kc, .slice la ts.length lc] : Array Value)[i]? = some v → W.cell? ⟨w.heap.size, i, none⟩ = some v) ∧
      (∀ i v, (#[Value.int .i64 k', .bool x', .int .i64 n', .string s', .slice ka' ks'.length kc', .slice la' ts'.length lc'] : Array Value)[i]? = some v → W.cell? ⟨w.heap.size + 1, i, none⟩ = some v) := fun W hb => by
    rw [← hW3] at hb
    exact two_boxes (((Below.refl _ _).alloc (Nat.le_refl _) _).trans (hb.mono (by simp)))
  have hc3 : W3.heap[w.heap.size + 1 + 1]? = some (.cells #[.int .i64 k, .bool x, .int .i64 n, .string s, .slice ka ks.length kc, .slice la ts.length lc, .int .i64 k', .bool x', .int .i64 n', .string s', .slice ka' ks'.length kc', .slice la' ts'.length lc'] 60 (0, 0)) := by
    rw [← hW3]
    have := World.alloc_heap_new ((w.alloc (.cells #[.int .i64 k, .bool x, .int .i64 n, .string s, .slice ka ks.length kc, .slice la ts.length lc] 60)).alloc (.cells #[.int .i64 k', .bool x', .int .i64 n', .string s', .slice ka' ks'.length kc', .slice la' ts'.length lc'] 60)) (.cells #[.int .i64 k, .bool x, .int .i64 n, .string s, .slice ka ks.length kc, .slice la ts.length lc, .int .i64 k', .bool x', .int .i64 n', .string s', .slice ka' ks'.length kc', .slice la' ts'.length lc'] 60)
    simpa only [World.size_alloc] using this
  have hlt3 : w.heap.size + 1 + 1 < W3.heap.size := by rw [← hW3]; simp
  have hb3 : Below w.heap.size w W3 := (hbx W3 (Below.refl _ _)).1
  have HV3 := hidE ((HV.out.below (hb3.mono hB)).mono (Nat.le_trans hB hb3.size))
  have HV3' := hidE ((HV'.out.below (hb3.mono hB)).mono (Nat.le_trans hB hb3.size))
  have HC := hidE (refused_any [.mk k x n s ks ts, .mk k' x' n' s' ks' ts'] W3.heap.size (some ⟨w.heap.size + 1 + 1, 0, none⟩) 2 W3 (Nat.le_refl _) (.inr ⟨_, _, rfl, hlt3, two_kids hc3 HV3.out HV3'.out⟩) (Nat.le_refl _) (by unfold maxLen; omega) (hT.below hb3)
    (by intro t ht; simp only [List.mem_cons, List.not_mem_nil, or_false] at ht; rcases ht with rfl | rfl; exact hm; exact hm'))
  have HBX := hidE hbx
  have HW3 := hidE hW3
  clear hbx hW3 hc3 hm hm'
  go_enter Tryz.func152, Tryz.ntmps152
  go_wp2_with fail
  rw [HW3.out]
  refine HC.out.mono ?_
  rintro e w4 ⟨rfl, hb4⟩
  obtain ⟨hbw, hq, hr⟩ := HBX.out w4 hb4
  have q0 := hq 0 _ rfl
  have q1 := hq 1 _ rfl
  have q2 := hq 2 _ rfl
  have q3 := hq 3 _ rfl
  have q4 := hq 4 _ rfl
  have q5 := hq 5 _ rfl
  have r0 := hr 0 _ rfl
  have r1 := hr 1 _ rfl
  have r2 := hr 2 _ rfl
  have r3 := hr 3 _ rfl
  have r4 := hr 4 _ rfl
  have r5 := hr 5 _ rfl
  have HQ := hidE (order_any _ W3.heap.size _ _ _ w4 hb4.size (HV3.out.below hb4) (HV3'.out.below hb4))
  have hsz := hb4.size
  clear hq hr HBX HC HW3 hb4
  cases hany : [Tree.mk k x n s ks ts, .mk k' x' n' s' ks' ts'].any (fun t => checkN t != 0) with
  | true =>
    have HN : Hid (sameB (.mk k x n s ks ts) (.mk k' x' n' s' ks' ts') = false) := by
      show _ = _
      unfold sameB
      rw [decide_eq_false, Bool.false_and]
      rintro ⟨h1, h2⟩
      simp [h1, h2] at hany
    clear hany
    go_wp2_with fail
    go_ret
    exact ⟨by rw [HN.out]; rfl, hbw⟩
  | false =>
    have HN : Hid (sameB (.mk k x n s ks ts) (.mk k' x' n' s' ks' ts') = (ordT (.mk k x n s ks ts) (.mk k' x' n' s' ks' ts') == 0)) := by
      show _ = _
      unfold sameB
      simp at hany
      rw [decide_eq_true hany, Bool.true_and]
    generalize ordT (.mk k x n s ks ts) (.mk k' x' n' s' ks' ts') = ot at *
    clear hany
    go_wp2_with fail
    refine HQ.out.mono ?_
    rintro e w5 ⟨rfl, hb5⟩
    have hfin := below_on hbw hb5
    clear hb5 q0 q1 q2 q3 q4 q5 r0 r1 r2 r3 r4 r5
    go_wp2_with fail
    go_ret
    exact ⟨by rw [HN.out]; rfl, hfin⟩
end Go.Proofs.YteddjlbfbpecjaaGreatDoor

namespace Go.Proofs.YteddjlbfbpecjaaGreatDoor
open Go.RowKit Go.Shelf
set_option linter.unusedVariables false

theorem new_free (w : World) (A : Array Value) (t : TypeId) (i : Nat) : (w.alloc (.cells A t)).frozen? ⟨w.heap.size, i, none⟩ = false := by
  have h := World.alloc_heap_new w (.cells A t)
  unfold World.frozen?
  rw [show (⟨w.heap.size, i, none⟩ : Addr).block = w.heap.size from rfl, h]
  simp
def plainB (k : Int) : Bool := k == 1 || k == 2 || k == 3
theorem plain_any (k : Int) (w : World) : Calls Tryz.prog 169 #[.int .i64 k] w fun e w' => e = .returned (.bool (plainB k)) ∧ w' = w := by
  go_enter Tryz.func169, Tryz.ntmps169
  by_cases h1 : k = 1
  · subst h1; go_wp2_with fail; go_ret; exact ⟨rfl, rfl⟩
  by_cases h2 : k = 2
  · subst h2; go_wp2_with fail; go_ret; exact ⟨rfl, rfl⟩
  go_wp2_with fail
  go_ret
  have e1 : (k == 1) = false := by simpa using h1
  have e2 : (k == 2) = false := by simpa using h2
  refine ⟨?_, rfl⟩
  unfold plainB
  rw [e1, e2]
  rfl
end Go.Proofs.YteddjlbfbpecjaaGreatDoor

namespace Go.Proofs.YteddjlbfbpecjaaGreatDoor
open Go.RowKit Go.Shelf
set_option linter.unusedVariables false

/-- The kind of the first value of a list. -/
def firstK (ts : List Tree) : Int := match ts with | [] => 0 | t :: _ => t.kind
/-- Are all values of the first one's kind? -/
def sameK (ts : List Tree) : Bool := ts.all fun t => t.kind == firstK ts
/-- What the document's Storable answers. -/
def rstorB (T : Tree) : Bool := sameK T.kids && (if T.kind = 4 then (if T.kids = [] then true else plainB (firstK T.kids)) else plainB T.kind)
/-- What Storable answers of a value that may be. -/
def storB (T : Tree) : Bool := if T.kind = 4 then T.kids.all fun t => plainB t.kind && (t.kind == firstK T.kids) else plainB T.kind

theorem take_all_snoc {p : Tree → Bool} {ts : List Tree} {j : Nat} {t : Tree} (h : (ts.take j).all p = true) (hx : ts[j]? = some t) (ht : p t = true) : (ts.take (j + 1)).all p = true := by
  rw [List.take_add_one, hx, List.all_append, h]; simp [ht]
theorem all_false {p : Tree → Bool} {ts : List Tree} {j : Nat} {t : Tree} (hx : ts[j]? = some t) (ht : p t = false) : ts.all p = false := by
  rw [List.all_eq_false]; exact ⟨t, List.mem_of_getElem? hx, by simp [ht]⟩
/-- The first value of a list that lies. -/
theorem KidsLie.first {B bl off : Nat} {w : World} {ts : List Tree} (h : KidsLie B w bl off ts) (h0 : 0 < ts.length) : w.cell? ⟨bl, off, none⟩ = some (.int .i64 (firstK ts)) := by
  obtain ⟨⟨p0, p1, p2, p3, p4, p5⟩, hx⟩ : ∃ t, ts[0]? = some t := ⟨_, List.getElem?_eq_getElem h0⟩
  obtain ⟨_, _, _, _, ⟨c0, _⟩, _⟩ := h.cells hx
  cases ts with
  | nil => simp at h0
  | cons t r =>
    simp at hx; subst hx
    simpa [firstK, Tree.kind] using c0
end Go.Proofs.YteddjlbfbpecjaaGreatDoor

