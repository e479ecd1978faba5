/- The document's order of two maps. The document's order of values is the program's. Values whose lists have one place more, which is laid; rows of keys are put behind others. -/
import Derived.Test.YtbpmhgcjefpigaaGreatDoorJoin13
import Derived.Test.YtbpmhgcjefpigaaGreatDoorMap11
import Derived.Laws.OwnMore
namespace Go.Proofs.YtbpmhgcjefpigaaGreatDoor
open Go.RowKit Go.Shelf
set_option linter.unusedVariables false

theorem cmpB_self : ∀ a : List UInt8, Lib.compareBytes a a = 0
  | [] => rfl
  | a :: r => by rw [Lib.compareBytes, if_neg (by simp), if_neg (by simp)]; exact cmpB_self r
theorem cmpB_zero : ∀ {a b : List UInt8}, Lib.compareBytes a b = 0 → a = b
  | [], [], _ => rfl
  | [], _ :: _, h => by simp [Lib.compareBytes] at h
  | _ :: _, [], h => by simp [Lib.compareBytes] at h
  | a :: r, b :: t, h => by
    rw [Lib.compareBytes] at h
    by_cases h1 : a < b
    · rw [if_pos h1] at h; simp at h
    · rw [if_neg h1] at h
      by_cases h2 : b < a
      · rw [if_pos h2] at h; simp at h
      · rw [if_neg h2] at h
        have e : a = b := by
          apply UInt8.toNat_inj.mp
          have h3 : ¬ a.toNat < b.toNat := fun c => h1 (UInt8.lt_iff_toNat_lt.mpr c)
          have h4 : ¬ b.toNat < a.toNat := fun c => h2 (UInt8.lt_iff_toNat_lt.mpr c)
          omega
        rw [e, cmpB_zero h]
theorem cmpB_ne {x y : ByteArray} (h : x ≠ y) : Lib.compareBytes x.data.toList y.data.toList ≠ 0 := by
  intro c
  apply h
  have := cmpB_zero c
  cases x; cases y
  simp at this
  rw [this]

set_option maxRecDepth 100000 in
set_option maxHeartbeats 4000000 in
theorem refcmp_map (k : Int) (x : Bool) (n : Int) (s : ByteArray) (ka : Option Addr) (ks : List ByteArray) (kc : Nat) (la : Option Addr) (ll lc : Nat) (k' : Int) (x' : Bool) (n' : Int) (s' : ByteArray) (ka' : Option Addr) (ks' : List ByteArray) (kc' : Nat) (la' : Option Addr) (ll' lc' : Nat) (w : World) (B : Nat) (hB : B ≤ w.heap.size) (hK : KeysLie B w ka ks) (hK' : KeysLie B w ka' ks') (h1 : ks.length ≤ kc) (h2 : kc ≤ maxLen) (h3 : ks'.length ≤ kc') (h4 : kc' ≤ maxLen) (he : k = k') (hk : k = 5) (res r : Int) (HRES : Hid (r = if agS ks ks' = 0 then res else agS ks ks')) (HR : Hid (∀ W, Below w.heap.size w W → Calls Tryz.prog 33 #[.slice la ll lc, .slice la' ll' lc'] W fun e w' => e = .returned (.int .i64 res) ∧ Below W.heap.size W w')) :
    Calls Tryz.prog 30 #[.agg #[.int .i64 k, .bool x, .int .i64 n, .string s, .slice ka ks.length kc, .slice la ll lc], .agg #[.int .i64 k', .bool x', .int .i64 n', .string s', .slice ka' ks'.length kc', .slice la' ll' lc']] w fun e w' => e = .returned (.int .i64 r) ∧ Below w.heap.size w w' := by
  unfold maxLen at h2 h4
  have HX : Hid (∀ w1, Below ((w.alloc (.cells #[.int .i64 k, .bool x, .int .i64 n, .string s, .slice ka ks.length kc, .slice la ll lc] 26)).alloc (.cells #[.int .i64 k', .bool x', .int .i64 n', .string s', .slice ka' ks'.length kc', .slice la' ll' lc'] 26)).heap.size ((w.alloc (.cells #[.int .i64 k, .bool x, .int .i64 n, .string s, .slice ka ks.length kc, .slice la ll lc] 26)).alloc (.cells #[.int .i64 k', .bool x', .int .i64 n', .string s', .slice ka' ks'.length kc', .slice la' ll' lc'] 26)) w1 → _) := fun w1 hb => two_boxes (w := w) (w1 := w1) (A := #[.int .i64 k, .bool x, .int .i64 n, .string s, .slice ka ks.length kc, .slice la ll lc]) (A' := #[.int .i64 k', .bool x', .int .i64 n', .string s', .slice ka' ks'.length kc', .slice la' ll' lc']) hb
  have e1 : (k == 1) = false := ne_bool (by omega)
  have e3 : (k == 3) = false := ne_bool (by omega)
  have e5 : (k == 5) = true := eq_bool hk
  have e4 : (k == 4) = false := ne_bool (by omega)
  have ek : (k == k') = true := eq_bool he
  clear he hk
  have H0 := hidE (Below.refl ((w.alloc (.cells #[.int .i64 k, .bool x, .int .i64 n, .string s, .slice ka ks.length kc, .slice la ll lc] 26)).alloc (.cells #[.int .i64 k', .bool x', .int .i64 n', .string s', .slice ka' ks'.length kc', .slice la' ll' lc'] 26)).heap.size ((w.alloc (.cells #[.int .i64 k, .bool x, .int .i64 n, .string s, .slice ka ks.length kc, .slice la ll lc] 26)).alloc (.cells #[.int .i64 k', .bool x', .int .i64 n', .string s', .slice ka' ks'.length kc', .slice la' ll' lc'] 26)))
  have HBY : Hid (∀ w1, Below ((w.alloc (.cells #[.int .i64 k, .bool x, .int .i64 n, .string s, .slice ka ks.length kc, .slice la ll lc] 26)).alloc (.cells #[.int .i64 k', .bool x', .int .i64 n', .string s', .slice ka' ks'.length kc', .slice la' ll' lc'] 26)).heap.size ((w.alloc (.cells #[.int .i64 k, .bool x, .int .i64 n, .string s, .slice ka ks.length kc, .slice la ll lc] 26)).alloc (.cells #[.int .i64 k', .bool x', .int .i64 n', .string s', .slice ka' ks'.length kc', .slice la' ll' lc'] 26)) w1 → Below w.heap.size w w1 ∧ w1.cell? ⟨w.heap.size, 4, none⟩ = some (.slice ka ks.length kc) ∧ w1.cell? ⟨w.heap.size + 1, 4, none⟩ = some (.slice ka' ks'.length kc') ∧ w1.cell? ⟨w.heap.size, 5, none⟩ = some (.slice la ll lc) ∧ w1.cell? ⟨w.heap.size + 1, 5, none⟩ = some (.slice la' ll' lc')) := by
    intro w1 hb
    obtain ⟨a, f, g⟩ := HX.out w1 hb
    exact ⟨a, f 4 _ rfl, g 4 _ rfl, f 5 _ rfl, g 5 _ rfl⟩
  clear HX
  have HKK := hidE (And.intro hK hK')
  clear hK hK'
  go_enter Tryz.func30, Tryz.ntmps30
  go_wp2_with fail
  generalize ((w.alloc (.cells #[.int .i64 k, .bool x, .int .i64 n, .string s, .slice ka ks.length kc, .slice la ll lc] 26)).alloc (.cells #[.int .i64 k', .bool x', .int .i64 n', .string s', .slice ka' ks'.length kc', .slice la' ll' lc'] 26)) = W1 at *
  go_loopw [5] (fun i wr => ∃ j : Nat, j ≤ ks.length ∧ j ≤ ks'.length ∧ i = .int .i64 j ∧ Below W1.heap.size W1 wr ∧ agS (ks.drop j) (ks'.drop j) = agS ks ks') (fun i _ => ks.length - (intOf i).toNat)
  case atStart => exact ⟨0, Nat.zero_le _, Nat.zero_le _, rfl, Below.refl _ _, rfl⟩
  case round =>
    obtain ⟨j, hj, hj2, rfl, hbr, hag⟩ := hrel
    have HAG := hidE hag
    have HBR := hidE hbr
    obtain ⟨hbw, q4, r4, q5, r5⟩ := HBY.out wr hbr
    have HBW := hidE hbw
    clear hag hbr hbw
    by_cases hja : j < ks.length
    · by_cases hjb : j < ks'.length
      · obtain ⟨bk, off, rfl, hbk, hkey⟩ := (HKK.out.1.below (HBW.out.mono hB)).resolve_left (by intro e; subst e; simp at hja)
        obtain ⟨bk', off', rfl, hbk', hkey'⟩ := (HKK.out.2.below (HBW.out.mono hB)).resolve_left (by intro e; subst e; simp at hjb)
        obtain ⟨hc, hz⟩ := hkey j hja
        obtain ⟨hc', hz'⟩ := hkey' j hjb
        unfold maxLen at hz hz'
        have HST := hidE (agS_drop (a := ks) (b := ks') (i := j) hja hjb)
        generalize ks.getD j ⟨#[]⟩ = y at *
        generalize ks'.getD j ⟨#[]⟩ = y' at *
        clear hkey hkey' HKK
        by_cases hy : y = y'
        · subst hy
          have HN : Hid (agS (ks.drop (j + 1)) (ks'.drop (j + 1)) = agS ks ks') := by
            show _ = _
            have := HST.out
            rw [if_pos (cmpB_self _), HAG.out] at this
            exact this.symm
          clear HST HAG
          go_wp2_with fail
          go_quiet (fail)
          go_wp2_with fail
          go_roundw
          case rel => exact ⟨j + 1, by omega, by omega, by go_num, below_drewN HBR.out _, HN.out⟩
          case measure => simp [intOf]; omega
        · have HZ := hidE (cmpB_ne hy)
          have HN : Hid (Lib.compareBytes y.data.toList y'.data.toList = agS ks ks') := by
            show _ = _
            have := HST.out
            rw [if_neg HZ.out, HAG.out] at this
            exact this.symm
          have HE : Hid (r = Lib.compareBytes y.data.toList y'.data.toList) := by
            show _ = _
            rw [HRES.out, ← HN.out, if_neg HZ.out]
          have ey : (y.toList == y'.toList) = false := beq_eq_false_iff_ne.2 (fun c => hy (by have := c; simp only [ByteArray.toList_eq] at this; cases y; cases y'; simp at this; rw [this]))
          have HT : Hid (∀ W, Calls Tryz.prog 69 #[.string y, .string y'] W fun e w' => e = .returned (.int .i64 (Lib.compareBytes y.data.toList y'.data.toList)) ∧ ∃ q, w' = W.drewN q) := fun W => texts_any y y' W hz hz'
          clear HST HAG HZ HN
          go_wp2_with fail
          go_quiet (fail)
          go_wp2_with fail
          go_region_with (go_at_call 69; refine (HT.out _).mono ?_; rintro e w' ⟨rfl, q, rfl⟩)
          all_goals
            go_wp2_with fail
            go_ret
            exact ⟨by rw [HE.out]; rfl, below_drewN HBW.out _⟩
      · have HN : Hid (agS ks ks' = cmpI ks.length ks'.length) := by show _ = _; rw [← HAG.out, agS_end (by omega)]
        clear HAG HKK
        by_cases hl : ks.length = ks'.length
        · exfalso; omega
        · have el : ((ks.length : Int) == (ks'.length : Int)) = false := ne_bool (by omega)
          have HE : Hid (r = cmpI ks.length ks'.length) := by
            show _ = _
            rw [HRES.out, HN.out, if_neg]
            unfold cmpI
            by_cases c : (ks.length : Int) < ks'.length
            · rw [if_pos c]; decide
            · rw [if_neg c, if_pos (by omega)]; decide
          clear HN hl
          go_wp2_with fail
          refine (ints_any _ _ _).mono ?_
          rintro e w2 ⟨rfl, rfl⟩
          go_wp2_with fail
          go_ret
          exact ⟨by rw [HE.out]; rfl, HBW.out⟩
    · have HN : Hid (agS ks ks' = cmpI ks.length ks'.length) := by show _ = _; rw [← HAG.out, agS_end (by omega)]
      clear HAG HKK
      by_cases hl : ks.length = ks'.length
      · have el : ((ks.length : Int) == (ks'.length : Int)) = true := eq_bool (by omega)
        have HE : Hid (r = res) := by
          show _ = _
          rw [HRES.out, if_pos (by rw [HN.out, hl]; exact cmpI_self _)]
        have HC := hidE (HR.out wr HBW.out)
        clear HN
        go_wp2_with fail
        refine HC.out.mono ?_
        rintro e w2 ⟨rfl, hb2⟩
        have HF := hidE (below_on HBW.out hb2)
        clear hb2 q4 r4 q5 r5
        go_wp2_with fail
        go_ret
        exact ⟨by rw [HE.out]; rfl, HF.out⟩
      · have el : ((ks.length : Int) == (ks'.length : Int)) = false := ne_bool (by omega)
        have HE : Hid (r = cmpI ks.length ks'.length) := by
          show _ = _
          rw [HRES.out, HN.out, if_neg]
          unfold cmpI
          by_cases c : (ks.length : Int) < ks'.length
          · rw [if_pos c]; decide
          · rw [if_neg c, if_pos (by omega)]; decide
        clear HN hl
        go_wp2_with fail
        refine (ints_any _ _ _).mono ?_
        rintro e w2 ⟨rfl, rfl⟩
        go_wp2_with fail
        go_ret
        exact ⟨by rw [HE.out]; rfl, HBW.out⟩
end Go.Proofs.YtbpmhgcjefpigaaGreatDoor

namespace Go.Proofs.YtbpmhgcjefpigaaGreatDoor
open Go.RowKit Go.Shelf
set_option linter.unusedVariables false

theorem refcmp_any : ∀ (T : Tree) (B : Nat) (v v' : Value) (T' : Tree) (w : World), B ≤ w.heap.size → Lies B w v T → Lies B w v' T' → Known T → Known T' →
    Calls Tryz.prog 30 #[v, v'] w fun e w' => e = .returned (.int .i64 (ordT T T')) ∧ Below w.heap.size w w' := by
  refine Tree.ind ?_
  intro k x n s ks ts ih B v v' T' w hB hv hv' hkn hkn'
  obtain ⟨k', x', n', s', ks', ts'⟩ := T'
  simp only [Lies] at hv hv'
  simp only [Known] at hkn hkn'
  obtain ⟨ka, kc, la, lc, rfl, ⟨hs1, hs2, hs3, hs4, hs5⟩, hk, ht⟩ := hv
  obtain ⟨ka', kc', la', lc', rfl, ⟨gs1, gs2, gs3, gs4, gs5⟩, hk', ht'⟩ := hv'
  have ht0 : ListLies B w la ts := ht
  have ht0' : ListLies B w la' ts' := ht'
  have hord : ordT (.mk k x n s ks ts) (.mk k' x' n' s' ks' ts') = (if cmpI (rankN k) (rankN k') = 0 then
      (if k = 5 then (if agS ks ks' = 0 then ordL ts ts' else agS ks ks') else if k = 4 then ordL ts ts' else if k = 3 then Lib.compareBytes s.data.toList s'.data.toList else if k = 1 then cmpI (truthI x) (truthI x') else cmpI n n')
    else cmpI (rankN k) (rankN k')) := by rw [ordT]
  have hR : Hid (∀ W, Below w.heap.size w W → Calls Tryz.prog 33 #[.slice la ts.length lc, .slice la' ts'.length lc'] W fun e w' => e = .returned (.int .i64 (ordL ts ts')) ∧ Below W.heap.size W w') :=
    fun W hb => refrows_any ts ih B la la' lc lc' ts' W (Nat.le_trans hB hb.size) (ht0.below (hb.mono hB)) (ht0'.below (hb.mono hB)) hs4 hs5 gs4 gs5 hkn.2 hkn'.2
  have hm : maxLen = 9223372036854775807 := rfl
  by_cases hkk : k = k'
  · have h0 : cmpI (rankN k) (rankN k') = 0 := by rw [hkk]; exact cmpI_self _
    rw [hord, if_pos h0]
    by_cases k5 : k = 5
    · rw [if_pos k5]
      exact refcmp_map k x n s ka ks kc la ts.length lc k' x' n' s' ka' ks' kc' la' ts'.length lc' w B hB hk hk' hs2 hs3 gs2 gs3 hkk k5 (ordL ts ts') _ rfl hR
    rw [if_neg k5]
    by_cases k4 : k = 4
    · rw [if_pos k4]
      exact refcmp_list k x n s ka ks.length kc la ts.length lc k' x' n' s' ka' ks'.length kc' la' ts'.length lc' w hkk k4 _ hR
    rw [if_neg k4]
    by_cases k3 : k = 3
    · rw [if_pos k3]
      exact refcmp_text k x n s ka ks.length kc la ts.length lc k' x' n' s' ka' ks'.length kc' la' ts'.length lc' w hkk k3 (by omega) (by omega)
    rw [if_neg k3]
    by_cases k1 : k = 1
    · rw [if_pos k1]
      exact refcmp_bool k x n s ka ks.length kc la ts.length lc k' x' n' s' ka' ks'.length kc' la' ts'.length lc' w hkk k1
    rw [if_neg k1]
    exact refcmp_num k x n s ka ks.length kc la ts.length lc k' x' n' s' ka' ks'.length kc' la' ts'.length lc' w hkk k1 k3 k5 k4
  · have h0 := rank_ne k k' hkk hkn.1.1 hkn.1.2 hkn'.1.1 hkn'.1.2
    rw [hord, if_neg h0]
    exact refcmp_ne k x n s ka ks.length kc la ts.length lc k' x' n' s' ka' ks'.length kc' la' ts'.length lc' w hkk hkn.1.1 hkn.1.2 hkn'.1.1 hkn'.1.2

/-- A list of values held against another, in the document's words. -/
theorem refrows_all (a : List Tree) (B : Nat) (la lb : Option Addr) (ca cb : Nat) (b : List Tree) (w : World) (hB : B ≤ w.heap.size) (ha : ListLies B w la a) (hb : ListLies B w lb b) (h1 : a.length ≤ ca) (h2 : ca ≤ maxLen) (h3 : b.length ≤ cb) (h4 : cb ≤ maxLen) (hka : KnownL a) (hkb : KnownL b) :
    Calls Tryz.prog 33 #[.slice la a.length ca, .slice lb b.length cb] w fun e w' => e = .returned (.int .i64 (ordL a b)) ∧ Below w.heap.size w w' :=
  refrows_any a (fun t _ => refcmp_any t) B la lb ca cb b w hB ha hb h1 h2 h3 h4 hka hkb
end Go.Proofs.YtbpmhgcjefpigaaGreatDoor

namespace Go.Proofs.YtbpmhgcjefpigaaGreatDoor
open Go.RowKit Go.Shelf Go.WideShapes
set_option linter.unusedVariables false
set_option linter.unusedSimpArgs false

def spareB : ByteArray := ⟨#[115, 112, 97, 114, 101]⟩
mutual
/-- A value in registers, what is in it in blocks that are so, each list with one place more behind it. -/
def SpareP (p : Nat → Prop) (w : World) : Value → Tree → Prop
  | v, .mk k b n s ks ts => ∃ bk kc bl lc, v = .agg #[.int .i64 k, .bool b, .int .i64 n, .string s, .slice (some ⟨bk, 0, none⟩) ks.length kc, .slice (some ⟨bl, 0, none⟩) ts.length lc] ∧
      (s.size ≤ maxLen ∧ ks.length < kc ∧ kc ≤ maxLen ∧ ts.length < lc ∧ lc ≤ maxLen) ∧ (p bk ∧ p bl) ∧
      (∀ i, i < ks.length → w.cell? ⟨bk, i, none⟩ = some (.string (ks.getD i ⟨#[]⟩)) ∧ (ks.getD i ⟨#[]⟩).size ≤ maxLen) ∧ w.cell? ⟨bk, ks.length, none⟩ = some (.string spareB) ∧
      SpareKids p w bl 0 ts ∧ w.cell? ⟨bl, ts.length * 6, none⟩ = some (.int .i64 77)
def SpareKids (p : Nat → Prop) (w : World) (bl : Nat) : Nat → List Tree → Prop
  | _, [] => True
  | off, t :: ts => (∃ v0 v1 v2 v3 v4 v5, (w.cell? ⟨bl, off, none⟩ = some v0 ∧ w.cell? ⟨bl, off + 1, none⟩ = some v1 ∧ w.cell? ⟨bl, off + 2, none⟩ = some v2 ∧ w.cell? ⟨bl, off + 3, none⟩ = some v3 ∧
      w.cell? ⟨bl, off + 4, none⟩ = some v4 ∧ w.cell? ⟨bl, off + 5, none⟩ = some v5) ∧ SpareP p w (.agg #[v0, v1, v2, v3, v4, v5]) t) ∧ SpareKids p w bl (off + 6) ts
end
/-- The blocks that are so stay. -/
def Stay (p : Nat → Prop) (w w' : World) : Prop := ∀ b i, p b → w'.cell? ⟨b, i, none⟩ = w.cell? ⟨b, i, none⟩
theorem Stay.cell {p : Nat → Prop} {w w' : World} (h : Stay p w w') {b i : Nat} (hb : p b) : w'.cell? ⟨b, i, none⟩ = w.cell? ⟨b, i, none⟩ := h b i hb
mutual
theorem SpareP.keep {p : Nat → Prop} {w w' : World} (h : Stay p w w') : ∀ {v : Value} {T : Tree}, SpareP p w v T → SpareP p w' v T
  | v, .mk k b n s ks ts, hl => by
    simp only [SpareP] at hl ⊢
    obtain ⟨bk, kc, bl, lc, hv, hb, ⟨h1, h2⟩, hk, hs, ht, hx⟩ := hl
    exact ⟨bk, kc, bl, lc, hv, hb, ⟨h1, h2⟩, fun i hi => ⟨(h.cell h1).trans (hk i hi).1, (hk i hi).2⟩, (h.cell h1).trans hs, SpareKids.keep h h2 ht, (h.cell h2).trans hx⟩
theorem SpareKids.keep {p : Nat → Prop} {w w' : World} (h : Stay p w w') {bl : Nat} (hlt : p bl) : ∀ {off : Nat} {ts : List Tree}, SpareKids p w bl off ts → SpareKids p w' bl off ts
  | off, [], hl => by simp only [SpareKids]
  | off, t :: ts, hl => by
    simp only [SpareKids] at hl ⊢
    obtain ⟨⟨v0, v1, v2, v3, v4, v5, ⟨c0, c1, c2, c3, c4, c5⟩, hv⟩, hr⟩ := hl
    exact ⟨⟨v0, v1, v2, v3, v4, v5, ⟨(h.cell hlt).trans c0, (h.cell hlt).trans c1, (h.cell hlt).trans c2, (h.cell hlt).trans c3, (h.cell hlt).trans c4, (h.cell hlt).trans c5⟩, SpareP.keep h hv⟩, SpareKids.keep h hlt hr⟩
end
mutual
theorem SpareP.mono {p q : Nat → Prop} {w : World} (h : ∀ b, p b → q b) : ∀ {v : Value} {T : Tree}, SpareP p w v T → SpareP q w v T
  | v, .mk k b n s ks ts, hl => by
    simp only [SpareP] at hl ⊢
    obtain ⟨bk, kc, bl, lc, hv, hb, ⟨h1, h2⟩, hk, hs, ht, hx⟩ := hl
    exact ⟨bk, kc, bl, lc, hv, hb, ⟨h _ h1, h _ h2⟩, hk, hs, SpareKids.mono h ht, hx⟩
theorem SpareKids.mono {p q : Nat → Prop} {w : World} (h : ∀ b, p b → q b) {bl : Nat} : ∀ {off : Nat} {ts : List Tree}, SpareKids p w bl off ts → SpareKids q w bl off ts
  | off, [], hl => by simp only [SpareKids]
  | off, t :: ts, hl => by
    simp only [SpareKids] at hl ⊢
    obtain ⟨⟨v0, v1, v2, v3, v4, v5, hc, hv⟩, hr⟩ := hl
    exact ⟨⟨v0, v1, v2, v3, v4, v5, hc, SpareP.mono h hv⟩, SpareKids.mono h hr⟩
end
/-- In blocks below B. -/
abbrev Spare (B : Nat) (w : World) (v : Value) (T : Tree) : Prop := SpareP (· < B) w v T
theorem Spare.below {B : Nat} {w w' : World} {v : Value} {T : Tree} (h : Below B w w') (hs : Spare B w v T) : Spare B w' v T := SpareP.keep (fun b i hb => h.cell (p := ⟨b, i, none⟩) hb) hs
theorem Spare.mono {B B' : Nat} {w : World} {v : Value} {T : Tree} (h : B ≤ B') (hs : Spare B w v T) : Spare B' w v T := SpareP.mono (fun b hb => Nat.lt_of_lt_of_le hb h) hs
mutual
theorem Spare.lies {B : Nat} {w : World} : ∀ {v : Value} {T : Tree}, SpareP (· < B) w v T → Lies B w v T
  | v, .mk k b n s ks ts, hl => by
    simp only [SpareP] at hl
    simp only [Lies]
    obtain ⟨bk, kc, bl, lc, hv, ⟨g1, g2, g3, g4, g5⟩, ⟨h1, h2⟩, hk, hs, ht, hx⟩ := hl
    exact ⟨_, kc, _, lc, hv, ⟨g1, by omega, g3, by omega, g5⟩, .inr ⟨bk, 0, rfl, h1, fun i hi => by rw [Nat.zero_add]; exact hk i hi⟩, .inr ⟨bl, 0, rfl, h2, SpareKids.lies ht⟩⟩
theorem SpareKids.lies {B : Nat} {w : World} {bl : Nat} : ∀ {off : Nat} {ts : List Tree}, SpareKids (· < B) w bl off ts → KidsLie B w bl off ts
  | off, [], hl => by simp only [KidsLie]
  | off, t :: ts, hl => by
    simp only [SpareKids] at hl
    simp only [KidsLie]
    obtain ⟨⟨v0, v1, v2, v3, v4, v5, hc, hv⟩, hr⟩ := hl
    exact ⟨⟨v0, v1, v2, v3, v4, v5, hc, Spare.lies hv⟩, SpareKids.lies hr⟩
end
theorem SpareKids.at {p : Nat → Prop} {w : World} {bl : Nat} : ∀ {ts : List Tree} {off : Nat}, SpareKids p w bl off ts → ∀ {i : Nat} {t : Tree}, ts[i]? = some t →
    ∃ v0 v1 v2 v3 v4 v5, (w.cell? ⟨bl, off + i * 6, none⟩ = some v0 ∧ w.cell? ⟨bl, off + i * 6 + 1, none⟩ = some v1 ∧ w.cell? ⟨bl, off + i * 6 + 2, none⟩ = some v2 ∧ w.cell? ⟨bl, off + i * 6 + 3, none⟩ = some v3 ∧
      w.cell? ⟨bl, off + i * 6 + 4, none⟩ = some v4 ∧ w.cell? ⟨bl, off + i * 6 + 5, none⟩ = some v5) ∧ SpareP p w (.agg #[v0, v1, v2, v3, v4, v5]) t
  | [], off, _, i, t, h => by simp at h
  | t :: ts, off, hl, 0, u, h => by
    simp only [SpareKids] at hl
    simp at h; subst h
    simpa using hl.1
  | t :: ts, off, hl, i + 1, u, h => by
    simp only [SpareKids] at hl
    have := SpareKids.at hl.2 (i := i) (t := u) (by simpa using h)
    rw [show off + 6 + i * 6 = off + (i + 1) * 6 from by omega] at this
    exact this
/-- Values in a row of cells, not yet laid. -/
def Row6 (p : Nat → Prop) (w : World) : List Value → List Tree → Prop
  | [], [] => True
  | c0 :: c1 :: c2 :: c3 :: c4 :: c5 :: r, t :: ts => SpareP p w (.agg #[c0, c1, c2, c3, c4, c5]) t ∧ Row6 p w r ts
  | _, _ => False
theorem Row6.snoc {p : Nat → Prop} {w : World} {c0 c1 c2 c3 c4 c5 : Value} {t : Tree} (ht : SpareP p w (.agg #[c0, c1, c2, c3, c4, c5]) t) : ∀ {xs : List Value} {ts : List Tree}, Row6 p w xs ts → Row6 p w (xs ++ [c0, c1, c2, c3, c4, c5]) (ts ++ [t])
  | [], [], _ => by simp only [List.nil_append, Row6]; exact ⟨ht, trivial⟩
  | d0 :: d1 :: d2 :: d3 :: d4 :: d5 :: r, u :: us, h => by
    simp only [Row6] at h
    simp only [List.cons_append, Row6]
    exact ⟨h.1, Row6.snoc ht h.2⟩
  | [], _ :: _, h => by simp [Row6] at h
  | _ :: _, [], h => by simp [Row6] at h
  | [_], _ :: _, h => by simp [Row6] at h
  | [_, _], _ :: _, h => by simp [Row6] at h
  | [_, _, _], _ :: _, h => by simp [Row6] at h
  | [_, _, _, _], _ :: _, h => by simp [Row6] at h
  | [_, _, _, _, _], _ :: _, h => by simp [Row6] at h
theorem Row6.keep {p q : Nat → Prop} {w w' : World} (hs : Stay p w w') (h : ∀ b, p b → q b) : ∀ {xs : List Value} {ts : List Tree}, Row6 p w xs ts → Row6 q w' xs ts
  | [], [], _ => by simp only [Row6]
  | d0 :: d1 :: d2 :: d3 :: d4 :: d5 :: r, u :: us, hr => by
    simp only [Row6] at hr ⊢
    exact ⟨(hr.1.keep hs).mono h, Row6.keep hs h hr.2⟩
  | [], _ :: _, h => by simp [Row6] at h
  | _ :: _, [], h => by simp [Row6] at h
  | [_], _ :: _, h => by simp [Row6] at h
  | [_, _], _ :: _, h => by simp [Row6] at h
  | [_, _, _], _ :: _, h => by simp [Row6] at h
  | [_, _, _, _], _ :: _, h => by simp [Row6] at h
  | [_, _, _, _, _], _ :: _, h => by simp [Row6] at h
theorem Row6.kids {p : Nat → Prop} {w : World} {g : Nat} : ∀ {xs : List Value} {ts : List Tree} {off : Nat}, Row6 p w xs ts → (∀ j u, xs[j]? = some u → w.cell? ⟨g, off + j, none⟩ = some u) → SpareKids p w g off ts
  | [], [], _, _, _ => by simp only [SpareKids]
  | d0 :: d1 :: d2 :: d3 :: d4 :: d5 :: r, u :: us, off, hr, hc => by
    simp only [Row6] at hr
    simp only [SpareKids]
    refine ⟨⟨d0, d1, d2, d3, d4, d5, ⟨hc 0 _ rfl, hc 1 _ rfl, hc 2 _ rfl, hc 3 _ rfl, hc 4 _ rfl, hc 5 _ rfl⟩, hr.1⟩, Row6.kids hr.2 fun j v hv => ?_⟩
    have := hc (j + 6) v (by simpa using hv)
    rwa [show off + (j + 6) = off + 6 + j from by omega] at this
  | [], _ :: _, _, h, _ => by simp [Row6] at h
  | _ :: _, [], _, h, _ => by simp [Row6] at h
  | [_], _ :: _, _, h, _ => by simp [Row6] at h
  | [_, _], _ :: _, _, h, _ => by simp [Row6] at h
  | [_, _, _], _ :: _, _, h, _ => by simp [Row6] at h
  | [_, _, _, _], _ :: _, _, h, _ => by simp [Row6] at h
  | [_, _, _, _, _], _ :: _, _, h, _ => by simp [Row6] at h

theorem strings_get (ks : List ByteArray) {j : Nat} {u : Value} (h : (ks.map Value.string)[j]? = some u) : j < ks.length ∧ u = .string (ks.getD j ⟨#[]⟩) := by
  rw [List.getElem?_map] at h
  obtain ⟨x, h1, rfl⟩ := Option.map_eq_some_iff.1 h
  obtain ⟨h2, h3⟩ := List.getElem?_eq_some_iff.1 h1
  exact ⟨h2, by rw [List.getD_eq_getElem?_getD, h1]; rfl⟩

/-- A row of keys is put behind a row of the call's own. -/
theorem append_keys {ty : TypeId} {base n B kc : Nat} {v : Value} {xs : List Value} {w : World} {ka : Option Addr} {ks : List ByteArray} (hown : w.ownsRow base 9 1 v n xs) (hk : KeysLie B w ka ks) (hn : n + ks.length ≤ 1000000) (hb : base ≤ w.heap.size) :
    ∃ v' w', (Builtin.append_ #[23, 23] ty #[v, .slice ka ks.length kc]).run Tryz.prog w = .ok v' w' ∧ w'.ownsRow base 9 1 v' (n + ks.length) (xs ++ ks.map .string) ∧ w.grownBy w' v.ownBlock ∧ (v'.ownBlock = v.ownBlock ∨ v'.ownBlock = some w.heap.size) := by
  obtain ⟨i0, hi, hz0, hz1, hz2⟩ := info_parts Tryz.info9
  cases ka with
  | none =>
    have hks : ks = [] := by
      rcases hk with h | ⟨_, _, h, _⟩
      · exact h
      · cases h
    subst hks
    refine ⟨v, w, ?_, by simpa using hown, ⟨rfl, rfl, rfl, Nat.le_refl _, fun _ _ _ => rfl⟩, .inl rfl⟩
    rcases hown.2 with ⟨rfl, rfl⟩ | ⟨g, cap, cur, rfl, _, _, hnc, _⟩
    · simp [Builtin.append_, run_underlying Tryz.underlying23, sizeOf, typeInfo, hi, Builtin.lenOf, Builtin.firstCells]
    · simp [Builtin.append_, run_underlying Tryz.underlying23, sizeOf, typeInfo, hi, Builtin.lenOf, Builtin.firstCells, hnc, storeCells]
  | some ad =>
    obtain ⟨v', w', hr, h2, h3, _, h5⟩ := run_append_own_at (P := Tryz.prog) w base 23 ty 9 i0 (.string ⟨#[]⟩) 1 16 Tryz.underlying23 hi hz0 hz1 hz2 rfl (by decide) v n xs hown ad ks.length kc (ks.map .string) (by simp) (fun j u hu => by
        obtain ⟨hj, rfl⟩ := strings_get ks hu
        rcases hk with h | ⟨b, off, h, _, hc⟩
        · subst h; simp at hj
        · obtain rfl : ad = ⟨b, off, none⟩ := Option.some.inj h
          rw [add_plain]; exact (hc j hj).1) (fun u hu => by
        obtain ⟨x, _, rfl⟩ := List.mem_map.1 hu; rfl) (by unfold maxLen; omega) (by omega) hb
    exact ⟨v', w', hr, h2, h3, h5⟩
end Go.Proofs.YtbpmhgcjefpigaaGreatDoor

