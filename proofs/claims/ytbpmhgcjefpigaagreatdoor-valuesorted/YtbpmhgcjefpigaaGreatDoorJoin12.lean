/- The shelf's contracts of slices.SortFunc at values, laid at this dump. The order of two values once more: it draws, and lays blocks of its own; it turns nothing. -/
import Derived.Shelf.SlSortCmp.NoneTotal
import Derived.Ground.SlsfProg
import Derived.Ground.NamesProg
import Derived.Test.YtbpmhgcjefpigaaGreatDoorProg
import Derived.Test.YtbpmhgcjefpigaaGreatDoorOrders
import Derived.Sort.Grow
namespace Go.Proofs
open Go.Shelf
def Tryz.laysSlK6_f85_ren : Go.Shelf.Ren := ⟨fun | 6 => 85 | 15 => 109 | 14 => 108 | 28 => 136 | 29 => 137 | 20 => 128 | 21 => 129 | 22 => 130 | 23 => 131 | 24 => 132 | 25 => 133 | 26 => 134 | 27 => 135 | 46 => 151 | 47 => 152 | 48 => 153 | 49 => 154 | 50 => 155 | 57 => 172 | n => n, fun | 22 => 24 | 24 => 26 | 25 => 41 | 3 => 3 | 39 => 107 | 0 => 0 | 53 => 144 | 55 => 119 | 4 => 4 | 46 => 137 | 45 => 136 | 50 => 141 | 5 => 5 | 9 => 9 | 66 => 154 | 70 => 158 | 76 => 168 | 77 => 30 | n => n, fun | n => n⟩
theorem Tryz.laysSlK6_f85 : Go.Proofs.SlLaysF0.n6 Tryz.prog Tryz.laysSlK6_f85_ren := {
  mixed := by kernel_rfl
  f6 := ⟨Tryz.f85.name, by decide, Tryz.func85.trans (congrArg some (by kernel_rfl))⟩
  f14 := ⟨Tryz.f108.name, by decide, Tryz.func108.trans (congrArg some (by kernel_rfl))⟩
  f15 := Tryz.func109.trans (congrArg some (by kernel_rfl))
  f20 := ⟨Tryz.f128.name, by decide, Tryz.func128.trans (congrArg some (by kernel_rfl))⟩
  f21 := ⟨Tryz.f129.name, by decide, Tryz.func129.trans (congrArg some (by kernel_rfl))⟩
  f22 := ⟨Tryz.f130.name, by decide, Tryz.func130.trans (congrArg some (by kernel_rfl))⟩
  f23 := ⟨Tryz.f131.name, by decide, Tryz.func131.trans (congrArg some (by kernel_rfl))⟩
  f24 := ⟨Tryz.f132.name, by decide, Tryz.func132.trans (congrArg some (by kernel_rfl))⟩
  f25 := ⟨Tryz.f133.name, by decide, Tryz.func133.trans (congrArg some (by kernel_rfl))⟩
  f26 := ⟨Tryz.f134.name, by decide, Tryz.func134.trans (congrArg some (by kernel_rfl))⟩
  f27 := ⟨Tryz.f135.name, by decide, Tryz.func135.trans (congrArg some (by kernel_rfl))⟩
  f28 := Tryz.func136.trans (congrArg some (by kernel_rfl))
  f29 := Tryz.func137.trans (congrArg some (by kernel_rfl))
  f46 := ⟨Tryz.f151.name, by decide, Tryz.func151.trans (congrArg some (by kernel_rfl))⟩
  f47 := Tryz.func152.trans (congrArg some (by kernel_rfl))
  f48 := Tryz.func153.trans (congrArg some (by kernel_rfl))
  f49 := ⟨Tryz.f154.name, by decide, Tryz.func154.trans (congrArg some (by kernel_rfl))⟩
  f50 := ⟨Tryz.f155.name, by decide, Tryz.func155.trans (congrArg some (by kernel_rfl))⟩
  f57 := ⟨Tryz.f172.name, by decide, Tryz.func172.trans (congrArg some (by kernel_rfl))⟩
  t0 := Tryz.underlying0
  a0 := Tryz.isAgg0
  z0 := Tryz.sizeOf0
  v0 := Tryz.zeroValue0
  t3 := Tryz.underlying3
  a3 := Tryz.isAgg3
  z3 := Tryz.sizeOf3
  v3 := Tryz.zeroValue3
  t4 := Tryz.underlying4
  a4 := Tryz.isAgg4
  z4 := Tryz.sizeOf4
  v4 := Tryz.zeroValue4
  t5 := Tryz.underlying5
  a5 := Tryz.isAgg5
  z5 := Tryz.sizeOf5
  v5 := Tryz.zeroValue5
  t9 := Tryz.underlying9
  a9 := Tryz.isAgg9
  z9 := Tryz.sizeOf9
  v9 := Tryz.zeroValue9
  t22 := Tryz.underlying24
  a22 := Tryz.isAgg24
  z22 := Tryz.sizeOf24
  v22 := Tryz.zeroValue24
  t25 := Tryz.underlying41
  a25 := Tryz.isAgg41
  z25 := Tryz.sizeOf41
  v25 := Tryz.zeroValue41
  t39 := Tryz.underlying107
  a39 := Tryz.isAgg107
  z39 := Tryz.sizeOf107
  v39 := Tryz.zeroValue107
  t45 := Tryz.underlying136
  a45 := Tryz.isAgg136
  z45 := Tryz.sizeOf136
  v45 := Tryz.zeroValue136
  t46 := Tryz.underlying137
  a46 := Tryz.isAgg137
  z46 := Tryz.sizeOf137
  v46 := Tryz.zeroValue137
  t50 := Tryz.underlying141
  a50 := Tryz.isAgg141
  z50 := Tryz.sizeOf141
  v50 := Tryz.zeroValue141
  t53 := Tryz.underlying144
  a53 := Tryz.isAgg144
  z53 := Tryz.sizeOf144
  v53 := Tryz.zeroValue144
  t55 := Tryz.underlying119
  a55 := Tryz.isAgg119
  z55 := Tryz.sizeOf119
  v55 := Tryz.zeroValue119
  t66 := Tryz.underlying154
  a66 := Tryz.isAgg154
  z66 := Tryz.sizeOf154
  v66 := Tryz.zeroValue154
  t70 := Tryz.underlying158
  a70 := Tryz.isAgg158
  z70 := Tryz.sizeOf158
  v70 := Tryz.zeroValue158
  t76 := Tryz.underlying168
  a76 := Tryz.isAgg168
  z76 := Tryz.sizeOf168
  v76 := Tryz.zeroValue168
  t77 := Tryz.underlying30
  a77 := Tryz.isAgg30
  z77 := Tryz.sizeOf30
  v77 := Tryz.zeroValue30 }
theorem Tryz.slices_SortFunc_none85 (p : Option Addr) (cap : Nat) (fv : Value) (w : World) : Calls Tryz.prog 85 #[.slice p 0 cap, fv] w fun e w' => e = .returned (.tuple #[]) ∧ w' = w := AnyF.slices_SortFunc_none Tryz.laysSlK6_f85 p cap fv w
end Go.Proofs

namespace Go.Proofs.YtbpmhgcjefpigaaGreatDoor
open Go.RowKit Go.Shelf
set_option linter.unusedVariables false
/-- What lays blocks and draws alone is a world that has grown. -/
theorem grow_of {w w' : World} (hb : Below w.heap.size w w') (hd : w.drawn ≤ w'.drawn) : ∃ q os, w' = Go.Sort.grow (w.drewN q) os := by
  refine ⟨w'.drawn - w.drawn, w'.heap.extract w.heap.size w'.heap.size, ?_⟩
  obtain ⟨heap', tape', drawn', os', out'⟩ := w'
  obtain ⟨heap, tape, drawn, os, out⟩ := w
  have h1 := hb.os
  have h2 := hb.tape
  have h3 := hb.output
  have h4 := hb.size
  have h5 := hb.block
  simp only at h1 h2 h3 h4 h5 hd
  subst h1 h2 h3
  unfold Go.Sort.grow World.drewN
  simp only [World.mk.injEq]
  refine ⟨?_, trivial, by omega, trivial, trivial⟩
  refine Array.ext_getElem? fun i => ?_
  rw [Array.getElem?_append]
  by_cases h : i < heap.size
  · rw [if_pos h]; exact h5 i h
  · rw [if_neg h, Array.getElem?_extract]
    by_cases h' : i < heap'.size
    · rw [if_pos (by omega)]; congr 1; omega
    · rw [if_neg (by omega), Array.getElem?_eq_none (by omega)]
set_option maxHeartbeats 2000000 in
theorem against_valuesD (a : List Tree) (ih : ∀ t ∈ a, ∀ (B : Nat) (v v' : Value) (T' : Tree) (w : World), B ≤ w.heap.size → Lies B w v t → Lies B w v' T' → Calls Tryz.prog 71 #[v, v'] w fun e w' => e = .returned (.int .i64 (ordT t T')) ∧ Below w.heap.size w w' ∧ w.drawn ≤ w'.drawn)
    (B : Nat) (la lb : Option Addr) (ca cb : Nat) (b : List Tree) (w : World) (hB : B ≤ w.heap.size) (ha : ListLies B w la a) (hb : ListLies B w lb b) (h1 : a.length ≤ ca) (h2 : ca ≤ maxLen) (h3 : b.length ≤ cb) (h4 : cb ≤ maxLen) :
    Calls Tryz.prog 72 #[.slice la a.length ca, .slice lb b.length cb, .func (.func 71) #[] #[]] w fun e w' => e = .returned (.int .i64 (ordL a b)) ∧ Below w.heap.size w w' ∧ w.drawn ≤ w'.drawn := by
  unfold maxLen at h2 h4
  have HN : Hid (min (a.length : Int) (b.length : Int) = ((min a.length b.length : Nat) : Int)) := by show _ = _; omega
  go_enter Tryz.func72, Tryz.ntmps72
  go_wp2_with fail
  rw [HN.out]
  generalize hm : min a.length b.length = m at *
  have hma : m ≤ a.length := by omega
  have hmb : m ≤ b.length := by omega
  have HM : Hid (m = min a.length b.length) := hm.symm
  clear hm
  go_loopw [14] (fun i wr => ∃ j : Nat, j ≤ m ∧ i = .int .i64 j ∧ Below w.heap.size w wr ∧ w.drawn ≤ wr.drawn ∧ ordL (a.drop j) (b.drop j) = ordL a b) (fun i _ => m - (intOf i).toNat)
  case atStart => exact ⟨0, Nat.zero_le _, rfl, Below.refl _ _, Nat.le_refl _, rfl⟩
  case round =>
    obtain ⟨j, hj, rfl, hbr, hdr, hag⟩ := hrel
    have HDR := hidE hdr
    clear hdr
    have HAG : Hid (ordL (a.drop j) (b.drop j) = ordL a b) := hag
    clear hag
    by_cases hlt : j < m
    · obtain ⟨bl, off, rfl, hbl, hk⟩ := ha.resolve_left (by intro e; subst e; simp at hma; omega)
      obtain ⟨bl', off', rfl, hbl', hk'⟩ := hb.resolve_left (by intro e; subst e; simp at hmb; omega)
      have hja : j < a.length := by omega
      have hjb : j < b.length := by omega
      obtain ⟨⟨k, x, n, s, ks, ts⟩, hx⟩ : ∃ t, a[j]? = some t := ⟨_, List.getElem?_eq_getElem hja⟩
      obtain ⟨⟨k', x', n', s', ks', ts'⟩, hy⟩ : ∃ t, b[j]? = some t := ⟨_, List.getElem?_eq_getElem hjb⟩
      have HST := hidE (ordL_drop hx hy)
      have hkr := hk.below (hbr.mono hB) hbl
      have hkr' := hk'.below (hbr.mono hB) hbl'
      obtain ⟨ka, kc, la, lc, ⟨c0, c1, c2, c3, c4, c5⟩, hl⟩ := hkr.cells hx
      obtain ⟨ka', kc', la', lc', ⟨d0, d1, d2, d3, d4, d5⟩, hl'⟩ := hkr'.cells hy
      have HIH := hidE (ih _ (List.mem_of_getElem? hx))
      clear hx hy hk hk' hkr hkr'
      have hL := hidE hl
      have hL' := hidE hl'
      clear hl hl'
      have hBr : B ≤ wr.heap.size := Nat.le_trans hB hbr.size
      go_wp2_with fail
      have HC := hidE (HIH.out B _ _ _ wr.drew (show B ≤ wr.drew.heap.size from hBr) (hL.out.below (Below.refl B wr).drew) (hL'.out.below (Below.refl B wr).drew))
      go_region_with (go_at_call 71; refine HC.out.mono ?_; rintro e w' ⟨rfl, hk2, hd2⟩)
      all_goals
        have HB2 : Hid (Below w.heap.size w w') := hbr.drew.trans (hk2.mono hbr.size)
        have HD2 : Hid (w.drawn ≤ w'.drawn) := Nat.le_trans HDR.out (Nat.le_trans (Nat.le_succ _) hd2)
        clear hd2
        generalize hcm : ordT (.mk k x n s ks ts) (.mk k' x' n' s' ks' ts') = cm at *
        have HCM := hidE hcm
        clear hcm hk2 c0 c1 c2 c3 c4 c5 d0 d1 d2 d3 d4 d5
        by_cases h0 : cm = 0
        · have h0' : (cm != 0) = false := by simp [h0]
          go_wp2_with fail
          go_roundw
          case rel => exact ⟨j + 1, by omega, by go_num, HB2.out, HD2.out, by have := HST.out; rw [if_pos h0] at this; rw [← this]; exact HAG.out⟩
          case measure => simp [intOf]; omega
        · have h0' : (cm != 0) = true := by simp [h0]
          go_wp2_with fail
          go_ret
          refine ⟨?_, HB2.out, HD2.out⟩
          have := HST.out; rw [if_neg h0] at this; rw [← HAG.out, this]; rfl
    · go_wp2_with fail
      refine (cmp_int _ _ _).mono ?_
      rintro e w' ⟨rfl, rfl⟩
      go_wp2_with fail
      go_ret
      refine ⟨?_, hbr, HDR.out⟩
      rw [← HAG.out, ordL_end (by have := HM.out; omega)]; rfl
set_option maxHeartbeats 4000000 in
theorem order_anyD : ∀ (T : Tree) (B : Nat) (v v' : Value) (T' : Tree) (w : World), B ≤ w.heap.size → Lies B w v T → Lies B w v' T' →
    Calls Tryz.prog 71 #[v, v'] w fun e w' => e = .returned (.int .i64 (ordT T T')) ∧ Below w.heap.size w w' ∧ w.drawn ≤ w'.drawn := by
  refine Tree.ind ?_
  intro k x n s ks ts ih B v v' T' w hB hv hv'
  obtain ⟨k', x', n', s', ks', ts'⟩ := T'
  simp only [Lies] at hv hv'
  obtain ⟨ka, kc, la, lc, rfl, ⟨hs1, hs2, hs3, hs4, hs5⟩, hk, ht⟩ := hv
  obtain ⟨ka', kc', la', lc', rfl, ⟨gs1, gs2, gs3, gs4, gs5⟩, hk', ht'⟩ := hv'
  have ht0 : ListLies B w la ts := ht
  have ht0' : ListLies B w la' ts' := ht'
  have HAV := hidE (against_valuesD ts ih)
  clear ih ht ht'
  have hord : ordT (.mk k x n s ks ts) (.mk k' x' n' s' ks' ts') = (if cmpI (rankN k) (rankN k') = 0 then
      (if k = 5 then (if agS ks ks' = 0 then ordL ts ts' else agS ks ks') else if k = 4 then ordL ts ts' else if k = 3 then Lib.compareBytes s.data.toList s'.data.toList else if k = 1 then cmpI (truthI x) (truthI x') else cmpI n n')
    else cmpI (rankN k) (rankN k')) := by rw [ordT]
  have HO := hidE hord
  clear hord
  generalize ordT (.mk k x n s ks ts) (.mk k' x' n' s' ks' ts') = res at *
  have hW2 : Below w.heap.size w ((w.alloc (.cells #[.int .i64 k, .bool x, .int .i64 n, .string s, .slice ka ks.length kc, .slice la ts.length lc] 26)).alloc (.cells #[.int .i64 k', .bool x', .int .i64 n', .string s', .slice ka' ks'.length kc', .slice la' ts'.length lc'] 26)) := ((Below.refl _ w).alloc (Nat.le_refl _) _).alloc (by simp) _
  have HW2 := hidE hW2
  clear hW2
  go_enter Tryz.func71, Tryz.ntmps71
  go_wp2_with fail
  go_quiet (first | (go_at_call 93; exact Calls.quiet_of_same (rank_any _ _)) | (go_at_call 92; exact Calls.quiet_of_same (cmp_int _ _ _)))
  generalize hcr : cmpI (rankN k) (rankN k') = cr at *
  have HCR := hidE hcr
  clear hcr
  generalize hW3 : World.drewN _ nq = W3
  have hb3 := two_boxes (w := w) (w1 := W3) (A := #[.int .i64 k, .bool x, .int .i64 n, .string s, .slice ka ks.length kc, .slice la ts.length lc]) (A' := #[.int .i64 k', .bool x', .int .i64 n', .string s', .slice ka' ks'.length kc', .slice la' ts'.length lc']) (by rw [← hW3]; exact below_drewN (Below.refl _ _) _)
  have HD3 : Hid (w.drawn ≤ W3.drawn) := by rw [← hW3]; exact Nat.le_add_right _ _
  clear hW3 HW2
  obtain ⟨hB3, hA3, hA3'⟩ := hb3
  have q0 := hA3 0 _ rfl
  have q1 := hA3 1 _ rfl
  have q2 := hA3 2 _ rfl
  have q3 := hA3 3 _ rfl
  have q4 := hA3 4 _ rfl
  have q5 := hA3 5 _ rfl
  have r1 := hA3' 1 _ rfl
  have r2 := hA3' 2 _ rfl
  have r3 := hA3' 3 _ rfl
  have r4 := hA3' 4 _ rfl
  have r5 := hA3' 5 _ rfl
  clear hA3 hA3'
  have hBs := hB3.size
  by_cases c0 : cr = 0
  · have c0' : (cr != 0) = false := by simp [c0]
    have HO1 := hidE (HO.out.trans (if_pos c0))
    clear HO c0
    by_cases k5 : k = 5
    · have e5 := eq_bool k5
      have HO2 := hidE (HO1.out.trans (if_pos k5))
      clear HO1 k5
      go_wp2_with fail
      refine (against_texts B ka ka' kc kc' ks ks' W3 (hk.below (hB3.mono hB)) (hk'.below (hB3.mono hB)) hs2 hs3 gs2 gs3).mono ?_
      rintro e w4 ⟨rfl, q, rfl⟩
      generalize hag : agS ks ks' = ag at *
      have HAG := hidE hag
      clear hag
      by_cases a0 : ag = 0
      · have a0' : (ag != 0) = false := by simp [a0]
        have HO3 := hidE (HO2.out.trans (if_pos a0))
        clear HO2 a0
        have hb4 : Below w.heap.size w (W3.drewN q) := below_drewN hB3 _
        go_wp2_with fail
        refine (HAV.out B la la' lc lc' ts' (W3.drewN q) (Nat.le_trans hB hBs) (ht0.below (hb4.mono hB)) (ht0'.below (hb4.mono hB)) hs4 hs5 gs4 gs5).mono ?_
        rintro e w5 ⟨rfl, hb5, hd5⟩
        have hfin := below_on hb4 hb5
        have HF : Hid (w.drawn ≤ w5.drawn) := Nat.le_trans HD3.out (Nat.le_trans (Nat.le_add_right _ _) hd5)
        clear hd5
        clear hb5 hb4 q0 q1 q2 q3 q4 q5 r1 r2 r3 r4 r5
        go_wp2_with fail
        go_ret
        exact ⟨by rw [HO3.out]; rfl, hfin, HF.out⟩
      · have a0' : (ag != 0) = true := by simp [a0]
        have HO3 := hidE (HO2.out.trans (if_neg a0))
        clear HO2 a0
        go_wp2_with fail
        go_ret
        exact ⟨by rw [HO3.out]; rfl, below_drewN hB3 _, Nat.le_trans HD3.out (Nat.le_add_right _ _)⟩
    · have e5 := ne_bool k5
      have HO2 := hidE (HO1.out.trans (if_neg k5))
      clear HO1 k5
      by_cases k4 : k = 4
      · have e4 := eq_bool k4
        have HO3 := hidE (HO2.out.trans (if_pos k4))
        clear HO2 k4
        go_wp2_with fail
        refine (HAV.out B la la' lc lc' ts' W3 (Nat.le_trans hB hBs) (ht0.below (hB3.mono hB)) (ht0'.below (hB3.mono hB)) hs4 hs5 gs4 gs5).mono ?_
        rintro e w5 ⟨rfl, hb5, hd5⟩
        have hfin := below_on hB3 hb5
        have HF : Hid (w.drawn ≤ w5.drawn) := Nat.le_trans HD3.out hd5
        clear hd5
        clear hb5 hB3 q0 q1 q2 q3 q4 q5 r1 r2 r3 r4 r5
        go_wp2_with fail
        go_ret
        exact ⟨by rw [HO3.out]; rfl, hfin, HF.out⟩
      · have e4 := ne_bool k4
        have HO3 := hidE (HO2.out.trans (if_neg k4))
        clear HO2 k4
        by_cases k3 : k = 3
        · have e3 := eq_bool k3
          have HO4 := hidE (HO3.out.trans (if_pos k3))
          clear HO3 k3
          go_wp2_with fail
          refine (Tryz.strings_Compare _ _ _).mono ?_
          rintro e w5 ⟨rfl, rfl⟩
          go_wp2_with fail
          go_ret
          exact ⟨by rw [HO4.out]; rfl, hB3, HD3.out⟩
        · have e3 := ne_bool k3
          have HO4 := hidE (HO3.out.trans (if_neg k3))
          clear HO3 k3
          by_cases k1 : k = 1
          · have e1 := eq_bool k1
            have HO5 := hidE (HO4.out.trans (if_pos k1))
            clear HO4 k1
            go_wp2_with fail
            go_quiet (first | (go_at_call 75; exact Calls.quiet_of_same (truth_any _ _)) | (go_at_call 96; exact Calls.quiet_of_same (cmp_truth _ _ _)))
            go_wp2_with fail
            go_ret
            exact ⟨by rw [HO5.out]; rfl, below_drewN hB3 _, Nat.le_trans HD3.out (Nat.le_add_right _ _)⟩
          · have e1 := ne_bool k1
            have HO5 := hidE (HO4.out.trans (if_neg k1))
            clear HO4 k1
            go_wp2_with fail
            refine (cmp_int64 _ _ _).mono ?_
            rintro e w5 ⟨rfl, rfl⟩
            go_wp2_with fail
            go_ret
            exact ⟨by rw [HO5.out]; rfl, hB3, HD3.out⟩
  · have c0' : (cr != 0) = true := by simp [c0]
    have HO1 := hidE (HO.out.trans (if_neg c0))
    clear HO c0
    go_wp2_with fail
    go_ret
    exact ⟨by rw [HO1.out]; rfl, hB3, HD3.out⟩
end Go.Proofs.YtbpmhgcjefpigaaGreatDoor

