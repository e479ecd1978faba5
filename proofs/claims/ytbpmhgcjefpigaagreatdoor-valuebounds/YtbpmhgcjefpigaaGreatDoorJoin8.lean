/- Storable, the program's and the document's. The program's Size is the document's; its Storable is the document's of values that may be. Whether values are small enough together. -/
import Derived.Test.YtbpmhgcjefpigaaGreatDoorLess
import Derived.Test.YtbpmhgcjefpigaaGreatDoorVsize
import Derived.Test.YtbpmhgcjefpigaaGreatDoorRchk
import Derived.Test.YtbpmhgcjefpigaaGreatDoorSmall
namespace Go.Proofs.YtbpmhgcjefpigaaGreatDoor
open Go.RowKit Go.Shelf
set_option linter.unusedVariables false

/-- The kind of the first value of a list. -/
def firstK (ts : List Tree) : Int := match ts with | [] => 0 | t :: _ => t.kind
/-- Are all values of the first one's kind? -/
def sameK (ts : List Tree) : Bool := ts.all fun t => t.kind == firstK ts
/-- What the document's Storable answers. -/
def rstorB (T : Tree) : Bool := sameK T.kids && (if T.kind = 4 then (if T.kids = [] then true else plainB (firstK T.kids)) else plainB T.kind)
/-- What Storable answers of a value that may be. -/
def storB (T : Tree) : Bool := if T.kind = 4 then T.kids.all fun t => plainB t.kind && (t.kind == firstK T.kids) else plainB T.kind

theorem take_all_snoc {p : Tree → Bool} {ts : List Tree} {j : Nat} {t : Tree} (h : (ts.take j).all p = true) (hx : ts[j]? = some t) (ht : p t = true) : (ts.take (j + 1)).all p = true := by
  rw [List.take_add_one, hx, List.all_append, h]; simp [ht]
theorem all_false {p : Tree → Bool} {ts : List Tree} {j : Nat} {t : Tree} (hx : ts[j]? = some t) (ht : p t = false) : ts.all p = false := by
  rw [List.all_eq_false]; exact ⟨t, List.mem_of_getElem? hx, by simp [ht]⟩
/-- The first value of a list that lies. -/
theorem KidsLie.first {B bl off : Nat} {w : World} {ts : List Tree} (h : KidsLie B w bl off ts) (h0 : 0 < ts.length) : w.cell? ⟨bl, off, none⟩ = some (.int .i64 (firstK ts)) := by
  obtain ⟨⟨p0, p1, p2, p3, p4, p5⟩, hx⟩ : ∃ t, ts[0]? = some t := ⟨_, List.getElem?_eq_getElem h0⟩
  obtain ⟨_, _, _, _, ⟨c0, _⟩, _⟩ := h.cells hx
  cases ts with
  | nil => simp at h0
  | cons t r =>
    simp at hx; subst hx
    simpa [firstK, Tree.kind] using c0

set_option maxRecDepth 100000 in
set_option maxHeartbeats 2000000 in
theorem refstor_any (T : Tree) (B : Nat) (v : Value) (w : World) (hB : B ≤ w.heap.size) (hv : Lies B w v T) : Calls Tryz.prog 26 #[v] w fun e w' => e = .returned (.bool (rstorB T)) ∧ Below w.heap.size w w' := by
  obtain ⟨k, x, n, s, ks, ts⟩ := T
  simp only [Lies] at hv
  obtain ⟨ka, kc, la, lc, rfl, ⟨hs1, hs2, hs3, hs4, hs5⟩, hk, ht⟩ := hv
  unfold maxLen at hs5
  obtain ⟨W1, hW1⟩ : ∃ W1, w.alloc (.cells #[.int .i64 k, .bool x, .int .i64 n, .string s, .slice ka ks.length kc, .slice la ts.length lc] 26) = W1 := ⟨_, rfl⟩
  have hb1 : Below w.heap.size w W1 := hW1 ▸ (Below.refl _ _).alloc (Nat.le_refl _) _
  have hq1 : W1.heap[w.heap.size]? = some (.cells #[.int .i64 k, .bool x, .int .i64 n, .string s, .slice ka ks.length kc, .slice la ts.length lc] 26 (0, 0)) := hW1 ▸ World.alloc_heap_new _ _
  have hlt1 : w.heap.size < W1.heap.size := (Array.getElem?_eq_some_iff.1 hq1).1
  have HX : Hid (∀ W, Below W1.heap.size W1 W → Below w.heap.size w W ∧ W.cell? ⟨w.heap.size, 0, none⟩ = some (.int .i64 k) ∧ W.cell? ⟨w.heap.size, 5, none⟩ = some (.slice la ts.length lc)) := fun W hb => by
    have e := (hb.block _ hlt1).trans hq1
    exact ⟨hb1.trans (hb.mono (by omega)), by unfold World.cell?; simp only [e]; rfl, by unfold World.cell?; simp only [e]; rfl⟩
  have HT : Hid (ts = [] ∨ ∃ bl off, la = some ⟨bl, off, none⟩ ∧ bl < B ∧ KidsLie B w bl off ts) := ht
  have HR : Hid (rstorB (.mk k x n s ks ts) = (sameK ts && (if k = 4 then (if ts = [] then true else plainB (firstK ts)) else plainB k))) := rfl
  have HW1 := hidE hW1
  clear hW1 hq1 ht hk
  go_enter Tryz.func26, Tryz.ntmps26
  go_wp2_with fail
  rw [HW1.out]
  clear HW1
  go_loopw [3] (fun i wr => ∃ j : Nat, j ≤ ts.length ∧ i = .int .i64 j ∧ Below W1.heap.size W1 wr ∧ (ts.take j).all (fun t => t.kind == firstK ts) = true) (fun i _ => ts.length - (intOf i).toNat)
  case atStart => exact ⟨0, Nat.zero_le _, rfl, Below.refl _ _, rfl⟩
  case round =>
    obtain ⟨j, hj, rfl, hbr, hal⟩ := hrel
    have HBR := hidE hbr
    have HAL := hidE hal
    obtain ⟨hbw, q0, q5⟩ := HX.out wr hbr
    have HBW := hidE hbw
    clear hbr hbw hal
    by_cases hlt : j < ts.length
    · obtain ⟨bl, off, rfl, hbl, hkk⟩ := HT.out.resolve_left (by intro e; subst e; simp at hlt)
      obtain ⟨⟨p0, p1, p2, p3, p4, p5⟩, hx⟩ : ∃ t, ts[j]? = some t := ⟨_, List.getElem?_eq_getElem hlt⟩
      have hkw := hkk.below (HBW.out.mono hB) hbl
      obtain ⟨_, _, _, _, ⟨c0, _⟩, _⟩ := hkw.cells hx
      have d0 := hkw.first (by omega)
      have HX2 := hidE hx
      obtain ⟨fk, hfk⟩ : ∃ f, firstK ts = f := ⟨_, rfl⟩
      rw [hfk] at d0
      have HFK := hidE hfk
      have hl0 : (0 : Int) < ts.length := by omega
      clear hkk hkw hx hfk
      go_wp2_with fail
      go_quiet (fail)
      by_cases e : p0 = fk
      · have e' : (p0 != fk) = false := by simp [e]
        go_wp2_with fail
        go_roundw
        case rel => exact ⟨j + 1, by omega, by go_num, below_drewN HBR.out _, take_all_snoc HAL.out HX2.out (by rw [HFK.out]; simp [Tree.kind, e])⟩
        case measure => simp [intOf]; omega
      · have e' : (p0 != fk) = true := by simp [e]
        have HRF : Hid (rstorB (.mk k x n s ks ts) = false) := by
          show _ = _
          rw [HR.out]
          have : sameK ts = false := all_false HX2.out (by rw [HFK.out]; simp [Tree.kind, e])
          rw [this]; rfl
        go_wp2_with fail
        go_ret
        exact ⟨by rw [HRF.out]; rfl, below_drewN HBW.out _⟩
    · have HSM : Hid (sameK ts = true) := by
        have := HAL.out
        rw [List.take_of_length_le (by omega)] at this
        exact this
      have HR2 : Hid (rstorB (.mk k x n s ks ts) = (if k = 4 then (if ts = [] then true else plainB (firstK ts)) else plainB k)) := by
        show _ = _; rw [HR.out, HSM.out, Bool.true_and]
      clear HAL HR HSM
      by_cases k4 : k = 4
      · have k4' : (k == 4) = true := by simp [k4]
        by_cases hl0 : 0 < ts.length
        · have hl0' : (0 : Int) < ts.length := by omega
          obtain ⟨bl, off, rfl, hbl, hkk⟩ := HT.out.resolve_left (by intro e; subst e; simp at hl0)
          have d0 := (hkk.below (HBW.out.mono hB) hbl).first hl0
          have HR3 : Hid (rstorB (.mk k x n s ks ts) = plainB (firstK ts)) := by
            show _ = _; rw [HR2.out, if_pos k4, if_neg (by intro e; subst e; simp at hl0)]
          obtain ⟨fk, hfk⟩ : ∃ f, firstK ts = f := ⟨_, rfl⟩
          rw [hfk] at d0
          have HFK := hidE hfk
          clear hkk hfk
          go_wp2_with fail
          all_goals
            go_ret
            refine ⟨?_, HBW.out⟩
            rw [HR3.out, HFK.out]
            simp_all [plainB]
        · have hl0' : ¬ (0 : Int) < ts.length := by omega
          have HR3 : Hid (rstorB (.mk k x n s ks ts) = true) := by
            show _ = _; rw [HR2.out, if_pos k4, if_pos (List.eq_nil_of_length_eq_zero (by omega))]
          clear k4
          go_wp2_with fail
          go_ret
          exact ⟨by rw [HR3.out]; rfl, HBW.out⟩
      · have k4' : (k == 4) = false := by simp [k4]
        have HR3 : Hid (rstorB (.mk k x n s ks ts) = plainB k) := by
          show _ = _; rw [HR2.out, if_neg k4]
        go_wp2_with fail
        all_goals
          go_ret
          refine ⟨?_, HBW.out⟩
          rw [HR3.out]
          simp_all [plainB]
end Go.Proofs.YtbpmhgcjefpigaaGreatDoor

namespace Go.Proofs.YtbpmhgcjefpigaaGreatDoor
open Go.RowKit Go.Shelf
set_option linter.unusedVariables false

mutual
theorem pre_count : ∀ (T : Tree) (d : Int), ((T.pre d).length : Int) = cntT T
  | .mk k b n s ks ts, d => by
    simp only [Tree.pre, List.length_cons, cntT]
    have := preL_count ts (d + 1)
    omega
theorem preL_count : ∀ (l : List Tree) (d : Int), ((Tree.preL d l).length : Int) = cntL l
  | [], d => by simp [Tree.preL, cntL]
  | t :: l, d => by
    simp only [Tree.preL, List.length_append, cntL]
    have := pre_count t d
    have := preL_count l d
    omega
end
def deepF (m : Int) (l : List (Int × Tree)) : Int := (l.map fun x => x.1).foldl max m
theorem hgtL_nonneg : ∀ (l : List Tree), 0 ≤ hgtL l
  | [] => by simp [hgtL]
  | t :: l => by have := hgtL_nonneg l; simp only [hgtL]; omega
mutual
theorem pre_deepest : ∀ (T : Tree) (d m : Int), d - 1 ≤ m → deepF m (T.pre d) = max m (d - 1 + hgtT T)
  | .mk k b n s ks ts, d, m, h => by
    have e : deepF m (Tree.pre d (.mk k b n s ks ts)) = deepF (max m d) (Tree.preL (d + 1) ts) := by simp [deepF, Tree.pre]
    rw [e, preL_deepest ts (d + 1) (max m d) (by omega)]
    have := hgtL_nonneg ts
    simp only [hgtT]
    omega
theorem preL_deepest : ∀ (l : List Tree) (d m : Int), d - 1 ≤ m → deepF m (Tree.preL d l) = max m (d - 1 + hgtL l)
  | [], d, m, h => by simp only [Tree.preL, hgtL, deepF, List.map_nil, List.foldl_nil]; omega
  | t :: l, d, m, h => by
    have e : deepF m (Tree.preL d (t :: l)) = deepF (deepF m (t.pre d)) (Tree.preL d l) := by simp [deepF, Tree.preL]
    rw [e, pre_deepest t d m h, preL_deepest l d _ (by omega)]
    simp only [hgtL]
    omega
end
theorem pre_one (T : Tree) : ((T.pre 1).length : Int) = cntT T ∧ deepL (T.pre 1) = hgtT T := by
  refine ⟨pre_count T 1, ?_⟩
  have h := pre_deepest T 1 0 (by omega)
  have h2 := (size_le T).2.2.2.1
  show deepF 0 (T.pre 1) = _
  rw [h]; omega
theorem sizes_fine {T : Tree} (h : checkN T = 0) : sizeN T = cntT T ∧ sizeD T = hgtT T := by
  unfold sizeN sizeD; rw [if_pos h, if_pos h]; exact pre_one T
theorem sizes_not {T : Tree} (h : checkN T ≠ 0) : sizeN T = 0 ∧ sizeD T = 0 := by
  unfold sizeN sizeD; rw [if_neg h, if_neg h]; exact ⟨rfl, rfl⟩

theorem shaped_root {T : Tree} (h : checkN T = 0) : shapedB T = true := by
  obtain ⟨k, b, n, s, ks, ts⟩ := T
  unfold checkN at h
  by_cases ha : ((Tree.mk k b n s ks ts).pre 1).all (fun x => shapedB x.2) = true
  · simp only [Tree.pre, List.all_cons, Bool.and_eq_true] at ha
    exact ha.1
  · rw [if_neg ha] at h; omega
theorem plain_bare {T : Tree} (h : checkN T = 0) (hp : plainB T.kind = true) : T.kids = [] := by
  have hs := shaped_root h
  obtain ⟨k, b, n, s, ks, ts⟩ := T
  simp only [Tree.kind, Tree.kids] at hp ⊢
  have hk : k = 1 ∨ k = 2 ∨ k = 3 := by simpa [plainB, or_assoc] using hp
  apply List.eq_nil_of_length_eq_zero
  rcases hk with rfl | rfl | rfl <;> simp [shapedB, blankB] at hs <;> simp [hs]
theorem stor_eq {T : Tree} (h : checkN T = 0) : rstorB T = storB T := by
  unfold rstorB storB
  by_cases k4 : T.kind = 4
  · rw [if_pos k4, if_pos k4]
    by_cases hn : T.kids = []
    · rw [if_pos hn, hn]; rfl
    · rw [if_neg hn, Bool.eq_iff_iff]
      obtain ⟨t0, r, e⟩ : ∃ t r, T.kids = t :: r := by cases hh : T.kids with | nil => exact absurd hh hn | cons t r => exact ⟨t, r, rfl⟩
      have hf : firstK T.kids = t0.kind := by rw [e]; rfl
      simp only [Bool.and_eq_true, sameK, List.all_eq_true, beq_iff_eq]
      constructor
      · rintro ⟨h1, h2⟩ t ht
        exact ⟨by rw [h1 t ht]; exact h2, h1 t ht⟩
      · intro h1
        refine ⟨fun t ht => (h1 t ht).2, ?_⟩
        have := (h1 t0 (by rw [e]; simp)).1
        rw [hf]; exact this
  · rw [if_neg k4, if_neg k4]
    by_cases hp : plainB T.kind = true
    · rw [plain_bare h hp, hp]; rfl
    · have hp' : plainB T.kind = false := by simpa using hp
      rw [hp', Bool.and_false]
end Go.Proofs.YtbpmhgcjefpigaaGreatDoor

namespace Go.Proofs.YtbpmhgcjefpigaaGreatDoor
open Go.RowKit Go.Shelf
set_option linter.unusedVariables false

def smalls (ts : List Tree) : Int := (ts.map fun t => smallN t 2000).sum
theorem smalls_take {ts : List Tree} {j : Nat} {t : Tree} (h : ts[j]? = some t) : smalls (ts.take (j + 1)) = smalls (ts.take j) + smallN t 2000 := by
  rw [List.take_add_one, h]
  simp [smalls]
theorem smalls_pos : ∀ {ts : List Tree}, (∀ t ∈ ts, 0 ≤ smallN t 2000) → 0 ≤ smalls ts
  | [], _ => by simp [smalls]
  | t :: ts, h => by
    have h1 := h t (by simp)
    have h2 := smalls_pos (ts := ts) fun u hu => h u (by simp [hu])
    simp only [smalls, List.map_cons, List.sum_cons] at h2 ⊢
    omega
theorem smalls_take_le {ts : List Tree} (j : Nat) (h : ∀ t ∈ ts, 0 ≤ smallN t 2000) : smalls (ts.take j) ≤ smalls ts := by
  have e : smalls ts = smalls (ts.take j) + smalls (ts.drop j) := by
    have h0 : smalls (ts.take j ++ ts.drop j) = smalls (ts.take j) + smalls (ts.drop j) := by unfold smalls; rw [List.map_append, List.sum_append]
    rwa [List.take_append_drop] at h0
  have := smalls_pos (ts := ts.drop j) fun t ht => h t (List.mem_of_mem_drop ht)
  omega

set_option maxHeartbeats 1000000 in
theorem smalls_any (ts : List Tree) (B : Nat) (la : Option Addr) (lc : Nat) (w : World) (hB : B ≤ w.heap.size) (hl : ListLies B w la ts) (h1 : ts.length ≤ lc) (h2 : lc ≤ maxLen) (hs : ∀ t ∈ ts, Sane t) :
    Calls Tryz.prog 15 #[.slice la ts.length lc] w fun e w' => e = .returned (.bool (decide (smalls ts ≤ 2000))) ∧ Below w.heap.size w w' := by
  unfold maxLen at h2
  have HS := hidE hs
  have HPOS : Hid (∀ t ∈ ts, 0 ≤ smallN t 2000) := fun t _ => by have := smallN_pos t 2000; omega
  clear hs
  go_enter Tryz.func15, Tryz.ntmps15
  go_wp2_with fail
  go_loopw [3, 4] (fun n i wr => ∃ j : Nat, j ≤ ts.length ∧ i = .int .i64 j ∧ Below w.heap.size w wr ∧ n = .int .i64 (smalls (ts.take j))) (fun _ i _ => ts.length - (intOf i).toNat)
  case atStart => exact ⟨0, Nat.zero_le _, rfl, Below.refl _ _, by simp [smalls]⟩
  case round =>
    obtain ⟨j, hj, rfl, hbr, rfl⟩ := hrel
    have hp : 0 ≤ smalls (ts.take j) := smalls_pos fun t ht => HPOS.out t (List.mem_of_mem_take ht)
    have hle := smalls_take_le j HPOS.out
    obtain ⟨n, hn⟩ : ∃ n, smalls (ts.take j) = n := ⟨_, rfl⟩
    rw [hn] at hp hle ⊢
    have HN := hidE hn
    clear hn
    by_cases hlt : j < ts.length
    · by_cases hn2 : n ≤ 2000
      · obtain ⟨bl, off, rfl, hbl, hkl⟩ := hl.resolve_left (by intro e; subst e; simp at hlt)
        obtain ⟨⟨p0, p1, p2, p3, p4, p5⟩, hx⟩ : ∃ t, ts[j]? = some t := ⟨_, List.getElem?_eq_getElem hlt⟩
        obtain ⟨ja, jc, jl, jd, ⟨c0, c1, c2, c3, c4, c5⟩, hlx⟩ := (hkl.below (hbr.mono hB) hbl).cells hx
        have hsx := HS.out _ (List.mem_of_getElem? hx)
        have hup := smallN_le _ 2000 hsx (by omega)
        have hlo := smallN_pos (.mk p0 p1 p2 p3 p4 p5) 2000
        have HX := hidE (smalls_take hx)
        have HC := hidE (small_any (.mk p0 p1 p2 p3 p4 p5) B _ 2000 wr (Nat.le_trans hB hbr.size) hlx hsx (by omega) (by omega))
        clear hx hkl hlx hsx
        go_wp2_with fail
        refine HC.out.mono ?_
        rintro e w' ⟨rfl, hk2⟩
        have HB2 : Hid (Below w.heap.size w w') := below_on hbr hk2
        obtain ⟨m, hm⟩ : ∃ m, smallN (.mk p0 p1 p2 p3 p4 p5) 2000 = m := ⟨_, rfl⟩
        rw [hm] at hup hlo HX ⊢
        clear hk2 HC c0 c1 c2 c3 c4 c5 hm
        go_wp2_with fail
        go_roundw
        case rel =>
          refine ⟨j + 1, by omega, by go_num, HB2.out, ?_⟩
          rw [HX.out, HN.out]
        case measure => simp [intOf]; omega
      · have HR : Hid (decide (smalls ts ≤ 2000) = false) := by show _ = _; simp; omega
        go_wp2_with fail
        go_ret
        exact ⟨by rw [HR.out]; simp, hbr⟩
    · have HR : Hid (smalls ts = n) := by have := HN.out; rwa [List.take_of_length_le (by omega)] at this
      go_wp2_with fail
      go_ret
      exact ⟨by rw [HR.out]; rfl, hbr⟩
end Go.Proofs.YtbpmhgcjefpigaaGreatDoor

