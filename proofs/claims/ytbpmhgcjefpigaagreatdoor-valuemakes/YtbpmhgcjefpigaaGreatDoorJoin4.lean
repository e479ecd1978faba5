/- The order of two values. When two values are equal. What Check does with a panic: the function that it defers. -/
import Derived.Test.YtbpmhgcjefpigaaGreatDoorJoin3
import Derived.RecoverIn
import Derived.LaidEql
import Derived.WideLaws
namespace Go.Proofs.YtbpmhgcjefpigaaGreatDoor
open Go.RowKit Go.Shelf
set_option linter.unusedVariables false
mutual
/-- The order of two values, as the program has it. -/
def ordT : Tree → Tree → Int
  | .mk k b n s ks ts, .mk k' b' n' s' ks' ts' =>
    if cmpI (rankN k) (rankN k') = 0 then
      (if k = 5 then (if agS ks ks' = 0 then ordL ts ts' else agS ks ks')
       else if k = 4 then ordL ts ts'
       else if k = 3 then Lib.compareBytes s.data.toList s'.data.toList
       else if k = 1 then cmpI (truthI b) (truthI b')
       else cmpI n n')
    else cmpI (rankN k) (rankN k')
def ordL : List Tree → List Tree → Int
  | [], [] => 0
  | [], _ :: _ => -1
  | _ :: _, [] => 1
  | a :: r, b :: t => if ordT a b = 0 then ordL r t else ordT a b
end
theorem ordL_drop {a b : List Tree} {i : Nat} {x y : Tree} (h1 : a[i]? = some x) (h2 : b[i]? = some y) : ordL (a.drop i) (b.drop i) = (if ordT x y = 0 then ordL (a.drop (i + 1)) (b.drop (i + 1)) else ordT x y) := by
  obtain ⟨l1, rfl⟩ := List.getElem?_eq_some_iff.1 h1
  obtain ⟨l2, rfl⟩ := List.getElem?_eq_some_iff.1 h2
  rw [List.drop_eq_getElem_cons l1, List.drop_eq_getElem_cons l2, ordL]
theorem ordL_end {a b : List Tree} {i : Nat} (h : i = min a.length b.length) : ordL (a.drop i) (b.drop i) = cmpI a.length b.length := by
  unfold cmpI
  by_cases h1 : a.length < b.length
  · rw [if_pos (by omega), List.drop_of_length_le (by omega), List.drop_eq_getElem_cons (by omega : i < b.length), ordL]
  · rw [if_neg (by omega)]
    by_cases h2 : b.length < a.length
    · rw [if_pos (by omega), List.drop_of_length_le (l := b) (by omega), List.drop_eq_getElem_cons (by omega : i < a.length), ordL]
    · rw [if_neg (by omega), List.drop_of_length_le (by omega), List.drop_of_length_le (by omega), ordL]
/-- Where a list of values lies. -/
def ListLies (B : Nat) (w : World) (la : Option Addr) (ts : List Tree) : Prop := ts = [] ∨ ∃ bl off, la = some ⟨bl, off, none⟩ ∧ bl < B ∧ KidsLie B w bl off ts
theorem ListLies.below {B : Nat} {w w' : World} {la : Option Addr} {ts : List Tree} (h : ListLies B w la ts) (hb : Below B w w') : ListLies B w' la ts := by
  rcases h with h | ⟨bl, off, e, hl, hk⟩
  · exact .inl h
  · exact .inr ⟨bl, off, e, hl, hk.below hb hl⟩
set_option maxHeartbeats 2000000 in
theorem against_valuesD (a : List Tree) (ih : ∀ t ∈ a, ∀ (B : Nat) (v v' : Value) (T' : Tree) (w : World), B ≤ w.heap.size → Lies B w v t → Lies B w v' T' → Calls Tryz.prog 71 #[v, v'] w fun e w' => e = .returned (.int .i64 (ordT t T')) ∧ Below w.heap.size w w' ∧ w.drawn ≤ w'.drawn)
    (B : Nat) (la lb : Option Addr) (ca cb : Nat) (b : List Tree) (w : World) (hB : B ≤ w.heap.size) (ha : ListLies B w la a) (hb : ListLies B w lb b) (h1 : a.length ≤ ca) (h2 : ca ≤ maxLen) (h3 : b.length ≤ cb) (h4 : cb ≤ maxLen) :
    Calls Tryz.prog 72 #[.slice la a.length ca, .slice lb b.length cb, .func (.func 71) #[] #[]] w fun e w' => e = .returned (.int .i64 (ordL a b)) ∧ Below w.heap.size w w' ∧ w.drawn ≤ w'.drawn := by
  unfold maxLen at h2 h4
  have HN : Hid (min (a.length : Int) (b.length : Int) = ((min a.length b.length : Nat) : Int)) := by show _ = _; omega
  go_enter Tryz.func72, Tryz.ntmps72
  go_wp2_with fail
  rw [HN.out]
  generalize hm : min a.length b.length = m at *
  have hma : m ≤ a.length := by omega
  have hmb : m ≤ b.length := by omega
  have HM : Hid (m = min a.length b.length) := hm.symm
  clear hm
  go_loopw [14] (fun i wr => ∃ j : Nat, j ≤ m ∧ i = .int .i64 j ∧ Below w.heap.size w wr ∧ w.drawn ≤ wr.drawn ∧ ordL (a.drop j) (b.drop j) = ordL a b) (fun i _ => m - (intOf i).toNat)
  case atStart => exact ⟨0, Nat.zero_le _, rfl, Below.refl _ _, Nat.le_refl _, rfl⟩
  case round =>
    obtain ⟨j, hj, rfl, hbr, hdr, hag⟩ := hrel
    have HDR := hidE hdr
    clear hdr
    have HAG : Hid (ordL (a.drop j) (b.drop j) = ordL a b) := hag
    clear hag
    by_cases hlt : j < m
    · obtain ⟨bl, off, rfl, hbl, hk⟩ := ha.resolve_left (by intro e; subst e; simp at hma; omega)
      obtain ⟨bl', off', rfl, hbl', hk'⟩ := hb.resolve_left (by intro e; subst e; simp at hmb; omega)
      have hja : j < a.length := by omega
      have hjb : j < b.length := by omega
      obtain ⟨⟨k, x, n, s, ks, ts⟩, hx⟩ : ∃ t, a[j]? = some t := ⟨_, List.getElem?_eq_getElem hja⟩
      obtain ⟨⟨k', x', n', s', ks', ts'⟩, hy⟩ : ∃ t, b[j]? = some t := ⟨_, List.getElem?_eq_getElem hjb⟩
      have HST := hidE (ordL_drop hx hy)
      have hkr := hk.below (hbr.mono hB) hbl
      have hkr' := hk'.below (hbr.mono hB) hbl'
      obtain ⟨ka, kc, la, lc, ⟨c0, c1, c2, c3, c4, c5⟩, hl⟩ := hkr.cells hx
      obtain ⟨ka', kc', la', lc', ⟨d0, d1, d2, d3, d4, d5⟩, hl'⟩ := hkr'.cells hy
      have HIH := hidE (ih _ (List.mem_of_getElem? hx))
      clear hx hy hk hk' hkr hkr'
      have hL := hidE hl
      have hL' := hidE hl'
      clear hl hl'
      have hBr : B ≤ wr.heap.size := Nat.le_trans hB hbr.size
      go_wp2_with fail
      have HC := hidE (HIH.out B _ _ _ wr.drew (show B ≤ wr.drew.heap.size from hBr) (hL.out.below (Below.refl B wr).drew) (hL'.out.below (Below.refl B wr).drew))
      go_region_with (go_at_call 71; refine HC.out.mono ?_; rintro e w' ⟨rfl, hk2, hd2⟩)
      all_goals
        have HB2 : Hid (Below w.heap.size w w') := hbr.drew.trans (hk2.mono hbr.size)
        have HD2 : Hid (w.drawn ≤ w'.drawn) := Nat.le_trans HDR.out (Nat.le_trans (Nat.le_succ _) hd2)
        clear hd2
        generalize hcm : ordT (.mk k x n s ks ts) (.mk k' x' n' s' ks' ts') = cm at *
        have HCM := hidE hcm
        clear hcm hk2 c0 c1 c2 c3 c4 c5 d0 d1 d2 d3 d4 d5
        by_cases h0 : cm = 0
        · have h0' : (cm != 0) = false := by simp [h0]
          go_wp2_with fail
          go_roundw
          case rel => exact ⟨j + 1, by omega, by go_num, HB2.out, HD2.out, by have := HST.out; rw [if_pos h0] at this; rw [← this]; exact HAG.out⟩
          case measure => simp [intOf]; omega
        · have h0' : (cm != 0) = true := by simp [h0]
          go_wp2_with fail
          go_ret
          refine ⟨?_, HB2.out, HD2.out⟩
          have := HST.out; rw [if_neg h0] at this; rw [← HAG.out, this]; rfl
    · go_wp2_with fail
      refine (cmp_int _ _ _).mono ?_
      rintro e w' ⟨rfl, rfl⟩
      go_wp2_with fail
      go_ret
      refine ⟨?_, hbr, HDR.out⟩
      rw [← HAG.out, ordL_end (by have := HM.out; omega)]; rfl
/-- The cells of two values that a call has boxed, wherever it has come since. -/
theorem two_boxes {w w1 : World} {A A' : Array Value} (hb : Below ((w.alloc (.cells A 26)).alloc (.cells A' 26)).heap.size ((w.alloc (.cells A 26)).alloc (.cells A' 26)) w1) :
    Below w.heap.size w w1 ∧ (∀ i v, A[i]? = some v → w1.cell? ⟨w.heap.size, i, none⟩ = some v) ∧ (∀ i v, A'[i]? = some v → w1.cell? ⟨w.heap.size + 1, i, none⟩ = some v) := by
  simp only [World.size_alloc] at hb
  refine ⟨(((Below.refl _ w).alloc (Nat.le_refl _) _).alloc (by simp) _).trans (hb.mono (by omega)), fun i v hi => ?_, fun i v hi => ?_⟩
  · rw [hb.cell (p := ⟨w.heap.size, i, none⟩) (by show w.heap.size < _; omega), World.cell?_of_block (Below.heap_alloc _ _ _ (by simp))]
    exact cell_new _ _ _ _ _ hi
  · rw [hb.cell (p := ⟨w.heap.size + 1, i, none⟩) (by show w.heap.size + 1 < _; omega)]
    have := cell_new (w.alloc (.cells A 26)) A' 26 i v hi
    rwa [World.size_alloc] at this
set_option maxHeartbeats 4000000 in
theorem order_anyD : ∀ (T : Tree) (B : Nat) (v v' : Value) (T' : Tree) (w : World), B ≤ w.heap.size → Lies B w v T → Lies B w v' T' →
    Calls Tryz.prog 71 #[v, v'] w fun e w' => e = .returned (.int .i64 (ordT T T')) ∧ Below w.heap.size w w' ∧ w.drawn ≤ w'.drawn := by
  refine Tree.ind ?_
  intro k x n s ks ts ih B v v' T' w hB hv hv'
  obtain ⟨k', x', n', s', ks', ts'⟩ := T'
  simp only [Lies] at hv hv'
  obtain ⟨ka, kc, la, lc, rfl, ⟨hs1, hs2, hs3, hs4, hs5⟩, hk, ht⟩ := hv
  obtain ⟨ka', kc', la', lc', rfl, ⟨gs1, gs2, gs3, gs4, gs5⟩, hk', ht'⟩ := hv'
  have ht0 : ListLies B w la ts := ht
  have ht0' : ListLies B w la' ts' := ht'
  have HAV := hidE (against_valuesD ts ih)
  clear ih ht ht'
  have hord : ordT (.mk k x n s ks ts) (.mk k' x' n' s' ks' ts') = (if cmpI (rankN k) (rankN k') = 0 then
      (if k = 5 then (if agS ks ks' = 0 then ordL ts ts' else agS ks ks') else if k = 4 then ordL ts ts' else if k = 3 then Lib.compareBytes s.data.toList s'.data.toList else if k = 1 then cmpI (truthI x) (truthI x') else cmpI n n')
    else cmpI (rankN k) (rankN k')) := by rw [ordT]
  have HO := hidE hord
  clear hord
  generalize ordT (.mk k x n s ks ts) (.mk k' x' n' s' ks' ts') = res at *
  have hW2 : Below w.heap.size w ((w.alloc (.cells #[.int .i64 k, .bool x, .int .i64 n, .string s, .slice ka ks.length kc, .slice la ts.length lc] 26)).alloc (.cells #[.int .i64 k', .bool x', .int .i64 n', .string s', .slice ka' ks'.length kc', .slice la' ts'.length lc'] 26)) := ((Below.refl _ w).alloc (Nat.le_refl _) _).alloc (by simp) _
  have HW2 := hidE hW2
  clear hW2
  go_enter Tryz.func71, Tryz.ntmps71
  go_wp2_with fail
  go_quiet (first | (go_at_call 93; exact Calls.quiet_of_same (rank_any _ _)) | (go_at_call 92; exact Calls.quiet_of_same (cmp_int _ _ _)))
  generalize hcr : cmpI (rankN k) (rankN k') = cr at *
  have HCR := hidE hcr
  clear hcr
  generalize hW3 : World.drewN _ nq = W3
  have hb3 := two_boxes (w := w) (w1 := W3) (A := #[.int .i64 k, .bool x, .int .i64 n, .string s, .slice ka ks.length kc, .slice la ts.length lc]) (A' := #[.int .i64 k', .bool x', .int .i64 n', .string s', .slice ka' ks'.length kc', .slice la' ts'.length lc']) (by rw [← hW3]; exact below_drewN (Below.refl _ _) _)
  have HD3 : Hid (w.drawn ≤ W3.drawn) := by rw [← hW3]; exact Nat.le_add_right _ _
  clear hW3 HW2
  obtain ⟨hB3, hA3, hA3'⟩ := hb3
  have q0 := hA3 0 _ rfl
  have q1 := hA3 1 _ rfl
  have q2 := hA3 2 _ rfl
  have q3 := hA3 3 _ rfl
  have q4 := hA3 4 _ rfl
  have q5 := hA3 5 _ rfl
  have r1 := hA3' 1 _ rfl
  have r2 := hA3' 2 _ rfl
  have r3 := hA3' 3 _ rfl
  have r4 := hA3' 4 _ rfl
  have r5 := hA3' 5 _ rfl
  clear hA3 hA3'
  have hBs := hB3.size
  by_cases c0 : cr = 0
  · have c0' : (cr != 0) = false := by simp [c0]
    have HO1 := hidE (HO.out.trans (if_pos c0))
    clear HO c0
    by_cases k5 : k = 5
    · have e5 := eq_bool k5
      have HO2 := hidE (HO1.out.trans (if_pos k5))
      clear HO1 k5
      go_wp2_with fail
      refine (against_texts B ka ka' kc kc' ks ks' W3 (hk.below (hB3.mono hB)) (hk'.below (hB3.mono hB)) hs2 hs3 gs2 gs3).mono ?_
      rintro e w4 ⟨rfl, q, rfl⟩
      generalize hag : agS ks ks' = ag at *
      have HAG := hidE hag
      clear hag
      by_cases a0 : ag = 0
      · have a0' : (ag != 0) = false := by simp [a0]
        have HO3 := hidE (HO2.out.trans (if_pos a0))
        clear HO2 a0
        have hb4 : Below w.heap.size w (W3.drewN q) := below_drewN hB3 _
        go_wp2_with fail
        refine (HAV.out B la la' lc lc' ts' (W3.drewN q) (Nat.le_trans hB hBs) (ht0.below (hb4.mono hB)) (ht0'.below (hb4.mono hB)) hs4 hs5 gs4 gs5).mono ?_
        rintro e w5 ⟨rfl, hb5, hd5⟩
        have hfin := below_on hb4 hb5
        have HF : Hid (w.drawn ≤ w5.drawn) := Nat.le_trans HD3.out (Nat.le_trans (Nat.le_add_right _ _) hd5)
        clear hd5
        clear hb5 hb4 q0 q1 q2 q3 q4 q5 r1 r2 r3 r4 r5
        go_wp2_with fail
        go_ret
        exact ⟨by rw [HO3.out]; rfl, hfin, HF.out⟩
      · have a0' : (ag != 0) = true := by simp [a0]
        have HO3 := hidE (HO2.out.trans (if_neg a0))
        clear HO2 a0
        go_wp2_with fail
        go_ret
        exact ⟨by rw [HO3.out]; rfl, below_drewN hB3 _, Nat.le_trans HD3.out (Nat.le_add_right _ _)⟩
    · have e5 := ne_bool k5
      have HO2 := hidE (HO1.out.trans (if_neg k5))
      clear HO1 k5
      by_cases k4 : k = 4
      · have e4 := eq_bool k4
        have HO3 := hidE (HO2.out.trans (if_pos k4))
        clear HO2 k4
        go_wp2_with fail
        refine (HAV.out B la la' lc lc' ts' W3 (Nat.le_trans hB hBs) (ht0.below (hB3.mono hB)) (ht0'.below (hB3.mono hB)) hs4 hs5 gs4 gs5).mono ?_
        rintro e w5 ⟨rfl, hb5, hd5⟩
        have hfin := below_on hB3 hb5
        have HF : Hid (w.drawn ≤ w5.drawn) := Nat.le_trans HD3.out hd5
        clear hd5
        clear hb5 hB3 q0 q1 q2 q3 q4 q5 r1 r2 r3 r4 r5
        go_wp2_with fail
        go_ret
        exact ⟨by rw [HO3.out]; rfl, hfin, HF.out⟩
      · have e4 := ne_bool k4
        have HO3 := hidE (HO2.out.trans (if_neg k4))
        clear HO2 k4
        by_cases k3 : k = 3
        · have e3 := eq_bool k3
          have HO4 := hidE (HO3.out.trans (if_pos k3))
          clear HO3 k3
          go_wp2_with fail
          refine (Tryz.strings_Compare _ _ _).mono ?_
          rintro e w5 ⟨rfl, rfl⟩
          go_wp2_with fail
          go_ret
          exact ⟨by rw [HO4.out]; rfl, hB3, HD3.out⟩
        · have e3 := ne_bool k3
          have HO4 := hidE (HO3.out.trans (if_neg k3))
          clear HO3 k3
          by_cases k1 : k = 1
          · have e1 := eq_bool k1
            have HO5 := hidE (HO4.out.trans (if_pos k1))
            clear HO4 k1
            go_wp2_with fail
            go_quiet (first | (go_at_call 75; exact Calls.quiet_of_same (truth_any _ _)) | (go_at_call 96; exact Calls.quiet_of_same (cmp_truth _ _ _)))
            go_wp2_with fail
            go_ret
            exact ⟨by rw [HO5.out]; rfl, below_drewN hB3 _, Nat.le_trans HD3.out (Nat.le_add_right _ _)⟩
          · have e1 := ne_bool k1
            have HO5 := hidE (HO4.out.trans (if_neg k1))
            clear HO4 k1
            go_wp2_with fail
            refine (cmp_int64 _ _ _).mono ?_
            rintro e w5 ⟨rfl, rfl⟩
            go_wp2_with fail
            go_ret
            exact ⟨by rw [HO5.out]; rfl, hB3, HD3.out⟩
  · have c0' : (cr != 0) = true := by simp [c0]
    have HO1 := hidE (HO.out.trans (if_neg c0))
    clear HO c0
    go_wp2_with fail
    go_ret
    exact ⟨by rw [HO1.out]; rfl, hB3, HD3.out⟩
theorem order_any (T : Tree) (B : Nat) (v v' : Value) (T' : Tree) (w : World) (hB : B ≤ w.heap.size) (h : Lies B w v T) (h' : Lies B w v' T') :
    Calls Tryz.prog 71 #[v, v'] w fun e w' => e = .returned (.int .i64 (ordT T T')) ∧ Below w.heap.size w w' := (order_anyD T B v v' T' w hB h h').mono fun _ _ ⟨h1, h2, _⟩ => ⟨h1, h2⟩
end Go.Proofs.YtbpmhgcjefpigaaGreatDoor

namespace Go.Proofs.YtbpmhgcjefpigaaGreatDoor
open Go.RowKit Go.Shelf
set_option linter.unusedVariables false
mutual
/-- Whether two values are equal, as the program has it. -/
def eqT : Tree → Tree → Int
  | .mk k b n s ks ts, .mk k' b' n' s' ks' ts' =>
    if k = 0 ∨ k' = 0 then 1
    else if k ≠ k' then 0
    else if k ≠ 4 ∧ k ≠ 5 then truthI (ordT (.mk k b n s ks ts) (.mk k' b' n' s' ks' ts') == 0)
    else if ts.length ≠ ts'.length ∨ agS ks ks' ≠ 0 then 0
    else eqL 2 ts ts'
def eqL : Int → List Tree → List Tree → Int
  | m, a :: r, b :: t => eqL (min m (eqT a b)) r t
  | m, _, _ => m
end
theorem eqL_snoc : ∀ (a b : List Tree) (m : Int) (x y : Tree), a.length = b.length → eqL m (a ++ [x]) (b ++ [y]) = min (eqL m a b) (eqT x y)
  | [], [], m, x, y, _ => by simp [eqL]
  | u :: a, v :: b, m, x, y, h => by
    simp only [List.cons_append, eqL]
    exact eqL_snoc a b _ x y (by simpa using h)
  | [], _ :: _, _, _, _, h => by simp at h
  | _ :: _, [], _, _, _, h => by simp at h
theorem eqL_take {a b : List Tree} {m : Int} {i : Nat} {x y : Tree} (h1 : a[i]? = some x) (h2 : b[i]? = some y) : eqL m (a.take (i + 1)) (b.take (i + 1)) = min (eqL m (a.take i) (b.take i)) (eqT x y) := by
  obtain ⟨l1, _⟩ := List.getElem?_eq_some_iff.1 h1
  obtain ⟨l2, _⟩ := List.getElem?_eq_some_iff.1 h2
  rw [List.take_add_one, List.take_add_one, h1, h2]
  exact eqL_snoc _ _ _ _ _ (by simp; omega)
set_option maxHeartbeats 4000000 in
theorem equal_lists (k : Int) (x : Bool) (n : Int) (s : ByteArray) (ks : List ByteArray) (ts : List Tree)
    (ih : ∀ t ∈ ts, ∀ (B : Nat) (v v' : Value) (T' : Tree) (w : World), B ≤ w.heap.size → Lies B w v t → Lies B w v' T' → Calls Tryz.prog 74 #[v, v'] w fun e w' => e = .returned (.int .i64 (eqT t T')) ∧ Below w.heap.size w w')
    (B : Nat) (x' : Bool) (n' : Int) (s' : ByteArray) (ks' : List ByteArray) (ts' : List Tree) (ka : Option Addr) (kc : Nat) (la : Option Addr) (lc : Nat) (ka' : Option Addr) (kc' : Nat) (la' : Option Addr) (lc' : Nat) (w : World) (hB : B ≤ w.heap.size)
    (hk : KeysLie B w ka ks) (ht : ListLies B w la ts) (hk' : KeysLie B w ka' ks') (ht' : ListLies B w la' ts') (hs2 : ks.length ≤ kc) (hs3 : kc ≤ maxLen) (hs4 : ts.length ≤ lc) (hs5 : lc ≤ maxLen)
    (gs2 : ks'.length ≤ kc') (gs3 : kc' ≤ maxLen) (gs4 : ts'.length ≤ lc') (gs5 : lc' ≤ maxLen) (e0 : (k == 0) = false) (z45 : (k != 4) = false ∨ ((k != 4) = true ∧ (k != 5) = false)) (res : Int)
    (hres : res = if ts.length ≠ ts'.length ∨ agS ks ks' ≠ 0 then 0 else eqL 2 ts ts') :
    Calls Tryz.prog 74 #[.agg #[.int .i64 k, .bool x, .int .i64 n, .string s, .slice ka ks.length kc, .slice la ts.length lc], .agg #[.int .i64 k, .bool x', .int .i64 n', .string s', .slice ka' ks'.length kc', .slice la' ts'.length lc']] w fun e w' => e = .returned (.int .i64 res) ∧ Below w.heap.size w w' := by
  obtain ⟨W2, hW2⟩ : ∃ W2, (w.alloc (.cells #[.int .i64 k, .bool x, .int .i64 n, .string s, .slice ka ks.length kc, .slice la ts.length lc] 26)).alloc (.cells #[.int .i64 k, .bool x', .int .i64 n', .string s', .slice ka' ks'.length kc', .slice la' ts'.length lc'] 26) = W2 := ⟨_, rfl⟩
  have HX : Hid (∀ W, Below W2.heap.size W2 W → Below w.heap.size w W ∧ W.cell? ⟨w.heap.size, 5, none⟩ = some (.slice la ts.length lc) ∧ W.cell? ⟨w.heap.size + 1, 5, none⟩ = some (.slice la' ts'.length lc')) := fun W hb => by
    rw [← hW2] at hb
    obtain ⟨h1, h2, h3⟩ := two_boxes hb
    exact ⟨h1, h2 5 _ rfl, h3 5 _ rfl⟩
  have hBW : Below w.heap.size w W2 := (HX.out W2 (Below.refl _ _)).1
  have HW2 := hidE hW2
  have HIH := hidE ih
  have HR := hidE hres
  clear ih hres hW2
  unfold maxLen at hs5 gs5
  by_cases hl : ts.length = ts'.length
  · have hl' : ((ts.length : Int) != (ts'.length : Int)) = false := by rw [hl]; simp
    have HL := hidE hl
    have hcall := against_texts B ka ka' kc kc' ks ks' W2 (hk.below (hBW.mono hB)) (hk'.below (hBW.mono hB)) hs2 hs3 gs2 gs3
    have HCL := hidE hcall
    clear hcall hl
    rcases z45 with e4 | ⟨e4, e5⟩
    all_goals
      go_enter Tryz.func74, Tryz.ntmps74
      go_wp2_with fail
      rw [HW2.out]
      refine HCL.out.mono ?_
      rintro e w4 ⟨rfl, q, rfl⟩
      generalize hag : agS ks ks' = ag at *
      by_cases a0 : ag = 0
      · have a0' : (ag != 0) = false := by simp [a0]
        have HR1 := hidE (HR.out.trans (if_neg (by intro h; rcases h with h | h; exact h HL.out; exact h a0)))
        have hb4 : Below W2.heap.size W2 (W2.drewN q) := below_drewN (Below.refl _ _) _
        have f5 := (HX.out _ hb4).2.1
        clear HR a0 hag HCL HW2
        go_wp2_with fail
        go_loopw [51, 5] (fun i u wr => ∃ j : Nat, j ≤ ts.length ∧ i = .int .i64 j ∧ u = .int .i64 (eqL 2 (ts.take j) (ts'.take j)) ∧ Below W2.heap.size W2 wr) (fun i _ _ => ts.length - (intOf i).toNat)
        case atStart => exact ⟨0, Nat.zero_le _, rfl, by simp [eqL], hb4⟩
        case round =>
          obtain ⟨j, hj, rfl, rfl, hbr⟩ := hrel
          obtain ⟨hbw, f5r, g5r⟩ := HX.out _ hbr
          by_cases hlt : j < ts.length
          · have hlt' : j < ts'.length := by have := HL.out; omega
            obtain ⟨bl, off, rfl, hbl, hkl⟩ := ht.resolve_left (by intro e; subst e; simp at hlt)
            obtain ⟨bl', off', rfl, hbl', hkl'⟩ := ht'.resolve_left (by intro e; subst e; simp at hlt')
            obtain ⟨⟨p0, p1, p2, p3, p4, p5⟩, hx⟩ : ∃ t, ts[j]? = some t := ⟨_, List.getElem?_eq_getElem hlt⟩
            obtain ⟨⟨r0, r1, r2, r3, r4, r5⟩, hy⟩ : ∃ t, ts'[j]? = some t := ⟨_, List.getElem?_eq_getElem hlt'⟩
            have HST := hidE (eqL_take (m := 2) hx hy)
            obtain ⟨ja, jc, jl, jd, ⟨c0, c1, c2, c3, c4, c5⟩, hlx⟩ := (hkl.below (hbw.mono hB) hbl).cells hx
            obtain ⟨ja', jc', jl', jd', ⟨d0, d1, d2, d3, d4, d5⟩, hly⟩ := (hkl'.below (hbw.mono hB) hbl').cells hy
            have HC := hidE (HIH.out _ (List.mem_of_getElem? hx) B _ _ _ wr.drew (show B ≤ wr.drew.heap.size from Nat.le_trans hB hbw.size) (hlx.below (Below.refl B wr).drew) (hly.below (Below.refl B wr).drew))
            clear hx hy hkl hkl' hlx hly f5
            generalize eqL 2 (ts.take j) (ts'.take j) = acc at *
            generalize eqT (.mk p0 p1 p2 p3 p4 p5) (.mk r0 r1 r2 r3 r4 r5) = et at *
            go_wp2_with fail
            go_region_with (go_at_call 74; refine HC.out.mono ?_; rintro e w' ⟨rfl, hk2⟩)
            all_goals
              have HB2 : Hid (Below W2.heap.size W2 w') := hbr.drew.trans (hk2.mono hbr.size)
              clear hk2 c0 c1 c2 c3 c4 c5 d0 d1 d2 d3 d4 d5
              go_wp2_with fail
              go_roundw
              case rel => exact ⟨j + 1, by omega, by go_num, by rw [HST.out], HB2.out⟩
              case measure => simp [intOf]; omega
          · have hje : ts.take j = ts := List.take_of_length_le (by omega)
            have hje' : ts'.take j = ts' := List.take_of_length_le (by have := HL.out; omega)
            have HR2 : Hid (res = eqL 2 (ts.take j) (ts'.take j)) := by show _ = _; rw [hje, hje']; exact HR1.out
            clear hje hje'
            go_wp2_with fail
            go_ret
            exact ⟨by rw [HR2.out]; rfl, hbw⟩
      · have a0' : (ag != 0) = true := by simp [a0]
        have HR1 := hidE (HR.out.trans (if_pos (.inr a0)))
        clear HR a0 hag HCL HW2
        go_wp2_with fail
        go_ret
        exact ⟨by rw [HR1.out]; rfl, below_drewN hBW _⟩
  · have hl' : ((ts.length : Int) != (ts'.length : Int)) = true := by rw [bne_iff_ne]; omega
    have HR1 := hidE (HR.out.trans (if_pos (.inl hl)))
    clear HR hl
    rcases z45 with e4 | ⟨e4, e5⟩
    all_goals
      go_enter Tryz.func74, Tryz.ntmps74
      go_wp2_with fail
      go_ret
      exact ⟨by rw [HR1.out]; rfl, ((Below.refl _ w).alloc (Nat.le_refl _) _).alloc (by simp) _⟩
set_option maxHeartbeats 4000000 in
theorem equal_any : ∀ (T : Tree) (B : Nat) (v v' : Value) (T' : Tree) (w : World), B ≤ w.heap.size → Lies B w v T → Lies B w v' T' →
    Calls Tryz.prog 74 #[v, v'] w fun e w' => e = .returned (.int .i64 (eqT T T')) ∧ Below w.heap.size w w' := by
  refine Tree.ind ?_
  intro k x n s ks ts ih B v v' T' w hB hv hv'
  obtain ⟨k', x', n', s', ks', ts'⟩ := T'
  have HV := hidE hv
  have HV' := hidE hv'
  simp only [Lies] at hv hv'
  obtain ⟨ka, kc, la, lc, rfl, ⟨hs1, hs2, hs3, hs4, hs5⟩, hk, ht⟩ := hv
  obtain ⟨ka', kc', la', lc', rfl, ⟨gs1, gs2, gs3, gs4, gs5⟩, hk', ht'⟩ := hv'
  have HIH := hidE ih
  clear ih
  have heq : eqT (.mk k x n s ks ts) (.mk k' x' n' s' ks' ts') = (if k = 0 ∨ k' = 0 then 1 else if k ≠ k' then 0 else if k ≠ 4 ∧ k ≠ 5 then truthI (ordT (.mk k x n s ks ts) (.mk k' x' n' s' ks' ts') == 0)
    else if ts.length ≠ ts'.length ∨ agS ks ks' ≠ 0 then 0 else eqL 2 ts ts') := by rw [eqT]
  have HE := hidE heq
  clear heq
  generalize eqT (.mk k x n s ks ts) (.mk k' x' n' s' ks' ts') = res at *
  have HW2 := hidE (((Below.refl _ w).alloc (Nat.le_refl _) (.cells #[.int .i64 k, .bool x, .int .i64 n, .string s, .slice ka ks.length kc, .slice la ts.length lc] 26)).alloc (by simp) (.cells #[.int .i64 k', .bool x', .int .i64 n', .string s', .slice ka' ks'.length kc', .slice la' ts'.length lc'] 26))
  by_cases z0 : k = 0
  · have e0 := eq_bool z0
    have HE1 := hidE (HE.out.trans (if_pos (.inl z0)))
    clear HE z0
    go_enter Tryz.func74, Tryz.ntmps74
    go_wp2_with fail
    go_ret
    exact ⟨by rw [HE1.out]; rfl, HW2.out⟩
  have e0 := ne_bool z0
  by_cases z1 : k' = 0
  · have e1 := eq_bool z1
    have HE1 := hidE (HE.out.trans (if_pos (.inr z1)))
    clear HE z0 z1
    go_enter Tryz.func74, Tryz.ntmps74
    go_wp2_with fail
    go_ret
    exact ⟨by rw [HE1.out]; rfl, HW2.out⟩
  have e1 := ne_bool z1
  have HE1 := hidE (HE.out.trans (if_neg (by intro h; rcases h with h | h; exact z0 h; exact z1 h)))
  clear HE z0 z1
  by_cases z2 : k = k'
  · subst z2
    have e2 : (k != k) = false := by simp
    have HE2 := hidE (HE1.out.trans (if_neg (by simp)))
    clear HE1
    by_cases z3 : k ≠ 4 ∧ k ≠ 5
    · have e4 : (k != 4) = true := by simp [z3.1]
      have e5 : (k != 5) = true := by simp [z3.2]
      have HE3 := hidE (HE2.out.trans (if_pos z3))
      clear HE2 z3
      go_enter Tryz.func74, Tryz.ntmps74
      go_wp2_with fail
      refine (order_any _ B _ _ _ _ (Nat.le_trans hB HW2.out.size) (HV.out.below (HW2.out.mono hB)) (HV'.out.below (HW2.out.mono hB))).mono ?_
      rintro e w5 ⟨rfl, hb5⟩
      generalize ordT (.mk k x n s ks ts) (.mk k x' n' s' ks' ts') = o at *
      have hfin := below_on HW2.out hb5
      clear hb5
      go_wp2_with fail
      refine (truth_any _ _).mono ?_
      rintro e w6 ⟨rfl, rfl⟩
      go_wp2_with fail
      go_ret
      exact ⟨by rw [HE3.out]; rfl, hfin⟩
    · have HE3 := hidE (HE2.out.trans (if_neg z3))
      have z45 : (k != 4) = false ∨ ((k != 4) = true ∧ (k != 5) = false) := by
        by_cases h4 : k = 4
        · exact .inl (by simp [h4])
        · exact .inr ⟨by simp [h4], by simp; omega⟩
      clear HE2 z3
      exact equal_lists k x n s ks ts HIH.out B x' n' s' ks' ts' ka kc la lc ka' kc' la' lc' w hB hk ht hk' ht' hs2 hs3 hs4 hs5 gs2 gs3 gs4 gs5 e0 z45 res HE3.out
  · have e2 : (k != k') = true := by simp [z2]
    have HE2 := hidE (HE1.out.trans (if_pos z2))
    clear HE1 z2
    go_enter Tryz.func74, Tryz.ntmps74
    go_wp2_with fail
    go_ret
    exact ⟨by rw [HE2.out]; rfl, HW2.out⟩
end Go.Proofs.YtbpmhgcjefpigaaGreatDoor

namespace Go.Proofs.YtbpmhgcjefpigaaGreatDoor
open Go.RowKit Go.Shelf
set_option linter.unusedVariables false
set_option maxRecDepth 100000 in
theorem under20 : ∃ ms, Tryz.prog.underlying 20 = some (.interface ms) := ⟨_, Tryz.underlying20⟩
set_option maxRecDepth 100000 in
theorem comp41 : (Tryz.prog.info? 35).map (·.comparable) = some true := by kernel_rfl
set_option maxRecDepth 100000 in
theorem eq_long (w : World) : (binOp .eql 20 (.iface 35 (.int .i64 3)) (.iface 35 (.int .i64 3))).run Tryz.prog w = .ok (.bool true) w := by
  obtain ⟨ms, h20⟩ := under20
  have h41 : ∃ i, Tryz.prog.info? 35 = some i ∧ i.comparable = true := by
    have := comp41
    cases h : Tryz.prog.info? 35 with
    | none => rw [h] at this; cases this
    | some i => rw [h] at this; exact ⟨i, rfl, by simpa using this⟩
  obtain ⟨i, hi, hc⟩ := h41
  have h : ∀ d : Nat, (Op.equalIn (d + 2) 20 (.iface 35 (.int .i64 3)) (.iface 35 (.int .i64 3))).run Tryz.prog w = .ok true w := fun d => by
    simp [Op.equalIn, run_underlying h20, run_underlying Tryz.underlying35, typeInfo, hi, hc]
  simp only [binOp]
  simp [Op.equal, Op.maxDepth, h 9998]
set_option maxRecDepth 100000 in
set_option maxHeartbeats 1000000 in
theorem catch_long (n : Nat) (p : Addr) (z : Int) (w : World) (hc : w.cell? p = some (.int .i64 z)) (hz : w.frozen? p = false) :
    CallsDIn Fence.wide n Tryz.prog 63 #[.pointer (some p)] (.panicking [{ v := .iface 35 (.int .i64 3), recovered := false }]) w fun e u' w' =>
      e = .returned (.tuple #[]) ∧ u' = .panicking [{ v := .iface 35 (.int .i64 3), recovered := true }] ∧ w' = w.setCell p (.int .i64 3) := by
  have he := eq_long w
  refine callsDIn_of_wpSIn Tryz.func63 rfl trivial fun c₀ cs hu => ?_
  apply wpSIn_seq
  apply wpSIn_region
  simp [wpOpsSIn, go_sem, recoverD, hu, Tryz.ntmps63, Exit.thenS, Oper.about, Fence.wide, Array.replicate_succ]
  refine wpSIn_of_wpIn rfl ?_
  gi_wp2
  exact ⟨rfl, _, rfl, _, (by simp [results, Tryz.results63]), rfl, rfl, rfl⟩
set_option maxRecDepth 100000 in
set_option maxHeartbeats 1000000 in
theorem catch_idle (n : Nat) (p : Addr) (w : World) :
    CallsDIn Fence.wide n Tryz.prog 63 #[.pointer (some p)] .returning w fun e u' w' => e = .returned (.tuple #[]) ∧ u' = .returning ∧ w' = w := by
  have he := run_eql_iface_nil_left (P := Tryz.prog) w 35 (.int .i64 3) Tryz.underlying20
  have hne := run_neq_nil_nil (P := Tryz.prog) w 20 (by kernel_rfl)
  refine callsDIn_of_wpSIn Tryz.func63 rfl trivial fun c₀ cs hu => ?_
  apply wpSIn_seq
  apply wpSIn_region
  simp [wpOpsSIn, go_sem, recoverD, hu, Tryz.ntmps63, Exit.thenS, Oper.about, Fence.wide, Array.replicate_succ]
  refine wpSIn_of_wpIn rfl ?_
  gi_wp2
  cases c₀
  simp only at hu
  subst hu
  exact ⟨rfl, _, rfl, _, (by simp [results, Tryz.results63]), rfl, rfl, rfl⟩
end Go.Proofs.YtbpmhgcjefpigaaGreatDoor

