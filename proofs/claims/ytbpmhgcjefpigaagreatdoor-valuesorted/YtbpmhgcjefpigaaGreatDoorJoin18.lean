/- The document's order of two maps. The document's order of values is the program's. CompareRows at every two rows. -/
import Derived.Test.YtbpmhgcjefpigaaGreatDoorJoin17
import Derived.Test.YtbpmhgcjefpigaaGreatDoorJoin6
namespace Go.Proofs.YtbpmhgcjefpigaaGreatDoor
open Go.RowKit Go.Shelf
set_option linter.unusedVariables false

theorem cmpB_self : ∀ a : List UInt8, Lib.compareBytes a a = 0
  | [] => rfl
  | a :: r => by rw [Lib.compareBytes, if_neg (by simp), if_neg (by simp)]; exact cmpB_self r
theorem cmpB_zero : ∀ {a b : List UInt8}, Lib.compareBytes a b = 0 → a = b
  | [], [], _ => rfl
  | [], _ :: _, h => by simp [Lib.compareBytes] at h
  | _ :: _, [], h => by simp [Lib.compareBytes] at h
  | a :: r, b :: t, h => by
    rw [Lib.compareBytes] at h
    by_cases h1 : a < b
    · rw [if_pos h1] at h; simp at h
    · rw [if_neg h1] at h
      by_cases h2 : b < a
      · rw [if_pos h2] at h; simp at h
      · rw [if_neg h2] at h
        have e : a = b := by
          apply UInt8.toNat_inj.mp
          have h3 : ¬ a.toNat < b.toNat := fun c => h1 (UInt8.lt_iff_toNat_lt.mpr c)
          have h4 : ¬ b.toNat < a.toNat := fun c => h2 (UInt8.lt_iff_toNat_lt.mpr c)
          omega
        rw [e, cmpB_zero h]
theorem cmpB_ne {x y : ByteArray} (h : x ≠ y) : Lib.compareBytes x.data.toList y.data.toList ≠ 0 := by
  intro c
  apply h
  have := cmpB_zero c
  cases x; cases y
  simp at this
  rw [this]

set_option maxRecDepth 100000 in
set_option maxHeartbeats 4000000 in
theorem refcmp_map (k : Int) (x : Bool) (n : Int) (s : ByteArray) (ka : Option Addr) (ks : List ByteArray) (kc : Nat) (la : Option Addr) (ll lc : Nat) (k' : Int) (x' : Bool) (n' : Int) (s' : ByteArray) (ka' : Option Addr) (ks' : List ByteArray) (kc' : Nat) (la' : Option Addr) (ll' lc' : Nat) (w : World) (B : Nat) (hB : B ≤ w.heap.size) (hK : KeysLie B w ka ks) (hK' : KeysLie B w ka' ks') (h1 : ks.length ≤ kc) (h2 : kc ≤ maxLen) (h3 : ks'.length ≤ kc') (h4 : kc' ≤ maxLen) (he : k = k') (hk : k = 5) (res r : Int) (HRES : Hid (r = if agS ks ks' = 0 then res else agS ks ks')) (HR : Hid (∀ W, Below w.heap.size w W → Calls Tryz.prog 33 #[.slice la ll lc, .slice la' ll' lc'] W fun e w' => e = .returned (.int .i64 res) ∧ Below W.heap.size W w')) :
    Calls Tryz.prog 30 #[.agg #[.int .i64 k, .bool x, .int .i64 n, .string s, .slice ka ks.length kc, .slice la ll lc], .agg #[.int .i64 k', .bool x', .int .i64 n', .string s', .slice ka' ks'.length kc', .slice la' ll' lc']] w fun e w' => e = .returned (.int .i64 r) ∧ Below w.heap.size w w' := by
  unfold maxLen at h2 h4
  have HX : Hid (∀ w1, Below ((w.alloc (.cells #[.int .i64 k, .bool x, .int .i64 n, .string s, .slice ka ks.length kc, .slice la ll lc] 26)).alloc (.cells #[.int .i64 k', .bool x', .int .i64 n', .string s', .slice ka' ks'.length kc', .slice la' ll' lc'] 26)).heap.size ((w.alloc (.cells #[.int .i64 k, .bool x, .int .i64 n, .string s, .slice ka ks.length kc, .slice la ll lc] 26)).alloc (.cells #[.int .i64 k', .bool x', .int .i64 n', .string s', .slice ka' ks'.length kc', .slice la' ll' lc'] 26)) w1 → _) := fun w1 hb => two_boxes (w := w) (w1 := w1) (A := #[.int .i64 k, .bool x, .int .i64 n, .string s, .slice ka ks.length kc, .slice la ll lc]) (A' := #[.int .i64 k', .bool x', .int .i64 n', .string s', .slice ka' ks'.length kc', .slice la' ll' lc']) hb
  have e1 : (k == 1) = false := ne_bool (by omega)
  have e3 : (k == 3) = false := ne_bool (by omega)
  have e5 : (k == 5) = true := eq_bool hk
  have e4 : (k == 4) = false := ne_bool (by omega)
  have ek : (k == k') = true := eq_bool he
  clear he hk
  have H0 := hidE (Below.refl ((w.alloc (.cells #[.int .i64 k, .bool x, .int .i64 n, .string s, .slice ka ks.length kc, .slice la ll lc] 26)).alloc (.cells #[.int .i64 k', .bool x', .int .i64 n', .string s', .slice ka' ks'.length kc', .slice la' ll' lc'] 26)).heap.size ((w.alloc (.cells #[.int .i64 k, .bool x, .int .i64 n, .string s, .slice ka ks.length kc, .slice la ll lc] 26)).alloc (.cells #[.int .i64 k', .bool x', .int .i64 n', .string s', .slice ka' ks'.length kc', .slice la' ll' lc'] 26)))
  have HBY : Hid (∀ w1, Below ((w.alloc (.cells #[.int .i64 k, .bool x, .int .i64 n, .string s, .slice ka ks.length kc, .slice la ll lc] 26)).alloc (.cells #[.int .i64 k', .bool x', .int .i64 n', .string s', .slice ka' ks'.length kc', .slice la' ll' lc'] 26)).heap.size ((w.alloc (.cells #[.int .i64 k, .bool x, .int .i64 n, .string s, .slice ka ks.length kc, .slice la ll lc] 26)).alloc (.cells #[.int .i64 k', .bool x', .int .i64 n', .string s', .slice ka' ks'.length kc', .slice la' ll' lc'] 26)) w1 → Below w.heap.size w w1 ∧ w1.cell? ⟨w.heap.size, 4, none⟩ = some (.slice ka ks.length kc) ∧ w1.cell? ⟨w.heap.size + 1, 4, none⟩ = some (.slice ka' ks'.length kc') ∧ w1.cell? ⟨w.heap.size, 5, none⟩ = some (.slice la ll lc) ∧ w1.cell? ⟨w.heap.size + 1, 5, none⟩ = some (.slice la' ll' lc')) := by
    intro w1 hb
    obtain ⟨a, f, g⟩ := HX.out w1 hb
    exact ⟨a, f 4 _ rfl, g 4 _ rfl, f 5 _ rfl, g 5 _ rfl⟩
  clear HX
  have HKK := hidE (And.intro hK hK')
  clear hK hK'
  go_enter Tryz.func30, Tryz.ntmps30
  go_wp2_with fail
  generalize ((w.alloc (.cells #[.int .i64 k, .bool x, .int .i64 n, .string s, .slice ka ks.length kc, .slice la ll lc] 26)).alloc (.cells #[.int .i64 k', .bool x', .int .i64 n', .string s', .slice ka' ks'.length kc', .slice la' ll' lc'] 26)) = W1 at *
  go_loopw [5] (fun i wr => ∃ j : Nat, j ≤ ks.length ∧ j ≤ ks'.length ∧ i = .int .i64 j ∧ Below W1.heap.size W1 wr ∧ agS (ks.drop j) (ks'.drop j) = agS ks ks') (fun i _ => ks.length - (intOf i).toNat)
  case atStart => exact ⟨0, Nat.zero_le _, Nat.zero_le _, rfl, Below.refl _ _, rfl⟩
  case round =>
    obtain ⟨j, hj, hj2, rfl, hbr, hag⟩ := hrel
    have HAG := hidE hag
    have HBR := hidE hbr
    obtain ⟨hbw, q4, r4, q5, r5⟩ := HBY.out wr hbr
    have HBW := hidE hbw
    clear hag hbr hbw
    by_cases hja : j < ks.length
    · by_cases hjb : j < ks'.length
      · obtain ⟨bk, off, rfl, hbk, hkey⟩ := (HKK.out.1.below (HBW.out.mono hB)).resolve_left (by intro e; subst e; simp at hja)
        obtain ⟨bk', off', rfl, hbk', hkey'⟩ := (HKK.out.2.below (HBW.out.mono hB)).resolve_left (by intro e; subst e; simp at hjb)
        obtain ⟨hc, hz⟩ := hkey j hja
        obtain ⟨hc', hz'⟩ := hkey' j hjb
        unfold maxLen at hz hz'
        have HST := hidE (agS_drop (a := ks) (b := ks') (i := j) hja hjb)
        generalize ks.getD j ⟨#[]⟩ = y at *
        generalize ks'.getD j ⟨#[]⟩ = y' at *
        clear hkey hkey' HKK
        by_cases hy : y = y'
        · subst hy
          have HN : Hid (agS (ks.drop (j + 1)) (ks'.drop (j + 1)) = agS ks ks') := by
            show _ = _
            have := HST.out
            rw [if_pos (cmpB_self _), HAG.out] at this
            exact this.symm
          clear HST HAG
          go_wp2_with fail
          go_quiet (fail)
          go_wp2_with fail
          go_roundw
          case rel => exact ⟨j + 1, by omega, by omega, by go_num, below_drewN HBR.out _, HN.out⟩
          case measure => simp [intOf]; omega
        · have HZ := hidE (cmpB_ne hy)
          have HN : Hid (Lib.compareBytes y.data.toList y'.data.toList = agS ks ks') := by
            show _ = _
            have := HST.out
            rw [if_neg HZ.out, HAG.out] at this
            exact this.symm
          have HE : Hid (r = Lib.compareBytes y.data.toList y'.data.toList) := by
            show _ = _
            rw [HRES.out, ← HN.out, if_neg HZ.out]
          have ey : (y.toList == y'.toList) = false := beq_eq_false_iff_ne.2 (fun c => hy (by have := c; simp only [ByteArray.toList_eq] at this; cases y; cases y'; simp at this; rw [this]))
          have HT : Hid (∀ W, Calls Tryz.prog 69 #[.string y, .string y'] W fun e w' => e = .returned (.int .i64 (Lib.compareBytes y.data.toList y'.data.toList)) ∧ ∃ q, w' = W.drewN q) := fun W => texts_any y y' W hz hz'
          clear HST HAG HZ HN
          go_wp2_with fail
          go_quiet (fail)
          go_wp2_with fail
          go_region_with (go_at_call 69; refine (HT.out _).mono ?_; rintro e w' ⟨rfl, q, rfl⟩)
          all_goals
            go_wp2_with fail
            go_ret
            exact ⟨by rw [HE.out]; rfl, below_drewN HBW.out _⟩
      · have HN : Hid (agS ks ks' = cmpI ks.length ks'.length) := by show _ = _; rw [← HAG.out, agS_end (by omega)]
        clear HAG HKK
        by_cases hl : ks.length = ks'.length
        · exfalso; omega
        · have el : ((ks.length : Int) == (ks'.length : Int)) = false := ne_bool (by omega)
          have HE : Hid (r = cmpI ks.length ks'.length) := by
            show _ = _
            rw [HRES.out, HN.out, if_neg]
            unfold cmpI
            by_cases c : (ks.length : Int) < ks'.length
            · rw [if_pos c]; decide
            · rw [if_neg c, if_pos (by omega)]; decide
          clear HN hl
          go_wp2_with fail
          refine (ints_any _ _ _).mono ?_
          rintro e w2 ⟨rfl, rfl⟩
          go_wp2_with fail
          go_ret
          exact ⟨by rw [HE.out]; rfl, HBW.out⟩
    · have HN : Hid (agS ks ks' = cmpI ks.length ks'.length) := by show _ = _; rw [← HAG.out, agS_end (by omega)]
      clear HAG HKK
      by_cases hl : ks.length = ks'.length
      · have el : ((ks.length : Int) == (ks'.length : Int)) = true := eq_bool (by omega)
        have HE : Hid (r = res) := by
          show _ = _
          rw [HRES.out, if_pos (by rw [HN.out, hl]; exact cmpI_self _)]
        have HC := hidE (HR.out wr HBW.out)
        clear HN
        go_wp2_with fail
        refine HC.out.mono ?_
        rintro e w2 ⟨rfl, hb2⟩
        have HF := hidE (below_on HBW.out hb2)
        clear hb2 q4 r4 q5 r5
        go_wp2_with fail
        go_ret
        exact ⟨by rw [HE.out]; rfl, HF.out⟩
      · have el : ((ks.length : Int) == (ks'.length : Int)) = false := ne_bool (by omega)
        have HE : Hid (r = cmpI ks.length ks'.length) := by
          show _ = _
          rw [HRES.out, HN.out, if_neg]
          unfold cmpI
          by_cases c : (ks.length : Int) < ks'.length
          · rw [if_pos c]; decide
          · rw [if_neg c, if_pos (by omega)]; decide
        clear HN hl
        go_wp2_with fail
        refine (ints_any _ _ _).mono ?_
        rintro e w2 ⟨rfl, rfl⟩
        go_wp2_with fail
        go_ret
        exact ⟨by rw [HE.out]; rfl, HBW.out⟩
end Go.Proofs.YtbpmhgcjefpigaaGreatDoor

namespace Go.Proofs.YtbpmhgcjefpigaaGreatDoor
open Go.RowKit Go.Shelf
set_option linter.unusedVariables false

theorem refcmp_any : ∀ (T : Tree) (B : Nat) (v v' : Value) (T' : Tree) (w : World), B ≤ w.heap.size → Lies B w v T → Lies B w v' T' → Known T → Known T' →
    Calls Tryz.prog 30 #[v, v'] w fun e w' => e = .returned (.int .i64 (ordT T T')) ∧ Below w.heap.size w w' := by
  refine Tree.ind ?_
  intro k x n s ks ts ih B v v' T' w hB hv hv' hkn hkn'
  obtain ⟨k', x', n', s', ks', ts'⟩ := T'
  simp only [Lies] at hv hv'
  simp only [Known] at hkn hkn'
  obtain ⟨ka, kc, la, lc, rfl, ⟨hs1, hs2, hs3, hs4, hs5⟩, hk, ht⟩ := hv
  obtain ⟨ka', kc', la', lc', rfl, ⟨gs1, gs2, gs3, gs4, gs5⟩, hk', ht'⟩ := hv'
  have ht0 : ListLies B w la ts := ht
  have ht0' : ListLies B w la' ts' := ht'
  have hord : ordT (.mk k x n s ks ts) (.mk k' x' n' s' ks' ts') = (if cmpI (rankN k) (rankN k') = 0 then
      (if k = 5 then (if agS ks ks' = 0 then ordL ts ts' else agS ks ks') else if k = 4 then ordL ts ts' else if k = 3 then Lib.compareBytes s.data.toList s'.data.toList else if k = 1 then cmpI (truthI x) (truthI x') else cmpI n n')
    else cmpI (rankN k) (rankN k')) := by rw [ordT]
  have hR : Hid (∀ W, Below w.heap.size w W → Calls Tryz.prog 33 #[.slice la ts.length lc, .slice la' ts'.length lc'] W fun e w' => e = .returned (.int .i64 (ordL ts ts')) ∧ Below W.heap.size W w') :=
    fun W hb => refrows_any ts ih B la la' lc lc' ts' W (Nat.le_trans hB hb.size) (ht0.below (hb.mono hB)) (ht0'.below (hb.mono hB)) hs4 hs5 gs4 gs5 hkn.2 hkn'.2
  have hm : maxLen = 9223372036854775807 := rfl
  by_cases hkk : k = k'
  · have h0 : cmpI (rankN k) (rankN k') = 0 := by rw [hkk]; exact cmpI_self _
    rw [hord, if_pos h0]
    by_cases k5 : k = 5
    · rw [if_pos k5]
      exact refcmp_map k x n s ka ks kc la ts.length lc k' x' n' s' ka' ks' kc' la' ts'.length lc' w B hB hk hk' hs2 hs3 gs2 gs3 hkk k5 (ordL ts ts') _ rfl hR
    rw [if_neg k5]
    by_cases k4 : k = 4
    · rw [if_pos k4]
      exact refcmp_list k x n s ka ks.length kc la ts.length lc k' x' n' s' ka' ks'.length kc' la' ts'.length lc' w hkk k4 _ hR
    rw [if_neg k4]
    by_cases k3 : k = 3
    · rw [if_pos k3]
      exact refcmp_text k x n s ka ks.length kc la ts.length lc k' x' n' s' ka' ks'.length kc' la' ts'.length lc' w hkk k3 (by omega) (by omega)
    rw [if_neg k3]
    by_cases k1 : k = 1
    · rw [if_pos k1]
      exact refcmp_bool k x n s ka ks.length kc la ts.length lc k' x' n' s' ka' ks'.length kc' la' ts'.length lc' w hkk k1
    rw [if_neg k1]
    exact refcmp_num k x n s ka ks.length kc la ts.length lc k' x' n' s' ka' ks'.length kc' la' ts'.length lc' w hkk k1 k3 k5 k4
  · have h0 := rank_ne k k' hkk hkn.1.1 hkn.1.2 hkn'.1.1 hkn'.1.2
    rw [hord, if_neg h0]
    exact refcmp_ne k x n s ka ks.length kc la ts.length lc k' x' n' s' ka' ks'.length kc' la' ts'.length lc' w hkk hkn.1.1 hkn.1.2 hkn'.1.1 hkn'.1.2

/-- A list of values held against another, in the document's words. -/
theorem refrows_all (a : List Tree) (B : Nat) (la lb : Option Addr) (ca cb : Nat) (b : List Tree) (w : World) (hB : B ≤ w.heap.size) (ha : ListLies B w la a) (hb : ListLies B w lb b) (h1 : a.length ≤ ca) (h2 : ca ≤ maxLen) (h3 : b.length ≤ cb) (h4 : cb ≤ maxLen) (hka : KnownL a) (hkb : KnownL b) :
    Calls Tryz.prog 33 #[.slice la a.length ca, .slice lb b.length cb] w fun e w' => e = .returned (.int .i64 (ordL a b)) ∧ Below w.heap.size w w' :=
  refrows_any a (fun t _ => refcmp_any t) B la lb ca cb b w hB ha hb h1 h2 h3 h4 hka hkb
end Go.Proofs.YtbpmhgcjefpigaaGreatDoor

namespace Go.Proofs.YtbpmhgcjefpigaaGreatDoor
open Go.RowKit Go.Shelf
set_option linter.unusedVariables false

/-- What CompareRows answers. -/
def rowsN (a b : List Tree) : Int := if (a.any fun t => checkN t != 0) = true then 0 else if (b.any fun t => checkN t != 0) = true then 0 else ordL a b

set_option maxHeartbeats 1000000 in
theorem CompareRows_any (a b : List Tree) (B : Nat) (la lb : Option Addr) (ca cb : Nat) (w : World) (hB : B ≤ w.heap.size) (ha : ListLies B w la a) (hb : ListLies B w lb b) (h1 : a.length ≤ ca) (h2 : ca ≤ maxLen) (h3 : b.length ≤ cb) (h4 : cb ≤ maxLen) (hT : Tabs w) (hma : ∀ t ∈ a, Modest t) (hmb : ∀ t ∈ b, Modest t) :
    Calls Tryz.prog 34 #[.slice la a.length ca, .slice lb b.length cb] w fun e w' => e = .returned (.int .i64 (rowsN a b)) ∧ Below w.heap.size w w' := by
  have HC1 := hidE (refused_any a B la ca w hB ha h1 h2 hT hma)
  have HC2 : Hid (∀ w', Below w.heap.size w w' → Calls Tryz.prog 70 #[.slice lb b.length cb] w' fun e w2 => e = .returned (.bool (b.any fun t => checkN t != 0)) ∧ Below w'.heap.size w' w2) :=
    fun w' h => refused_any b B lb cb w' (Nat.le_trans hB h.size) (hb.below (h.mono hB)) h3 h4 (hT.below h) hmb
  have HC3 : Hid (∀ w', Below w.heap.size w w' → Calls Tryz.prog 72 #[.slice la a.length ca, .slice lb b.length cb, .func (.func 71) #[] #[]] w' fun e w2 => e = .returned (.int .i64 (ordL a b)) ∧ Below w'.heap.size w' w2) :=
    fun w' h => against_values a (fun t _ => order_any t) B la lb ca cb b w' (Nat.le_trans hB h.size) (ha.below (h.mono hB)) (hb.below (h.mono hB)) h1 h2 h3 h4
  obtain ⟨ra, hra⟩ : ∃ x, (a.any fun t => checkN t != 0) = x := ⟨_, rfl⟩
  obtain ⟨rb, hrb⟩ : ∃ x, (b.any fun t => checkN t != 0) = x := ⟨_, rfl⟩
  rw [hra] at HC1
  rw [hrb] at HC2
  have HR : Hid (rowsN a b = if ra = true then 0 else if rb = true then 0 else ordL a b) := by show _ = _; unfold rowsN; rw [hra, hrb]
  clear hra hrb ha hb hT hma hmb
  go_enter Tryz.func34, Tryz.ntmps34
  go_wp2_with fail
  refine HC1.out.mono ?_
  rintro e w1 ⟨rfl, hb1⟩
  have HB1 := hidE hb1
  clear hb1
  cases ra with
  | true =>
    have HN : Hid (rowsN a b = 0) := HR.out
    go_wp2_with fail
    go_ret
    exact ⟨by rw [HN.out]; rfl, HB1.out⟩
  | false =>
    go_wp2_with fail
    refine (HC2.out w1 HB1.out).mono ?_
    rintro e w2 ⟨rfl, hb2⟩
    have HB2 : Hid (Below w.heap.size w w2) := below_on HB1.out hb2
    clear hb2
    cases rb with
    | true =>
      have HN : Hid (rowsN a b = 0) := HR.out
      go_wp2_with fail
      go_ret
      exact ⟨by rw [HN.out]; rfl, HB2.out⟩
    | false =>
      have HN : Hid (rowsN a b = ordL a b) := HR.out
      go_wp2_with fail
      refine (HC3.out w2 HB2.out).mono ?_
      rintro e w3 ⟨rfl, hb3⟩
      have HB3 : Hid (Below w.heap.size w w3) := below_on HB2.out hb3
      clear hb3
      go_wp2_with fail
      go_ret
      exact ⟨by rw [HN.out]; rfl, HB3.out⟩
end Go.Proofs.YtbpmhgcjefpigaaGreatDoor

