/- The document's own: values, told. -/
import Derived.Test.YtbpmhgcjefpigaaGreatDoorRquote
import Derived.Test.YtbpmhgcjefpigaaGreatDoorJoin14
namespace Go.Proofs.YtbpmhgcjefpigaaGreatDoor
open Go.RowKit Go.Shelf Go.WideShapes Go.Lib
set_option linter.unusedVariables false
set_option linter.unusedSimpArgs false

theorem boolText_in (b : Bool) (w : World) : Calls Tryz.prog 101 #[.bool b] w fun e w' => e = .returned (.string ⟨(boolBytes b).toArray⟩) ∧ w' = w := by
  go_enter Tryz.func101, Tryz.ntmps101
  cases b with
  | true =>
    go_wp2_with fail
    go_ret
    exact ⟨rfl, rfl⟩
  | false =>
    go_wp2_with fail
    go_ret
    exact ⟨rfl, rfl⟩
theorem boolText_any (b : Bool) (w : World) : Calls Tryz.prog 77 #[.bool b] w fun e w' => e = .returned (.string ⟨(boolBytes b).toArray⟩) ∧ w' = w := by
  have HC := hidE (boolText_in b w)
  go_enter Tryz.func77, Tryz.ntmps77
  go_wp2_with fail
  refine HC.out.mono ?_
  rintro e _ ⟨rfl, rfl⟩
  obtain ⟨X, hX⟩ : ∃ X, (⟨(boolBytes b).toArray⟩ : ByteArray) = X := ⟨_, rfl⟩
  rw [hX]
  have HXX := hidE hX
  clear HC hX
  go_wp2_with fail
  go_ret
  exact ⟨by rw [HXX.out]; rfl, rfl⟩

def RTextOk (T : Tree) : Prop := ∀ (B : Nat) (tv : Value) (w : World), B ≤ w.heap.size → Lies B w tv T → TabBelow Tryz.prog B w "internal/strconv.uint64pow10" .u64 pow10Tab →
  Calls Tryz.prog 40 #[tv] w fun e w' => e = .returned (.string ⟨(tellG T).toArray⟩) ∧ Below w.heap.size w w'

theorem may_zero {k : Int} {b : Bool} {n : Int} {s : ByteArray} {ks : List ByteArray} {ts : List Tree} (h : mayT (.mk k b n s ks ts) = true) : 0 ≤ k ∧ k ≤ 7 := by
  simp only [mayT, Bool.and_eq_true] at h
  have h1 := h.1
  simp only [badB] at h1
  simp at h1
  omega

set_option maxRecDepth 100000 in
set_option maxHeartbeats 8000000 in
theorem refText_all : ∀ T, mayT T = true → Ranged T → T.total ≤ 1000000 → RTextOk T := by
  refine Tree.ind ?_
  intro k b nn s ks ts ih hmay hran htot B tv w hB hl htb
  have hkr := may_zero hmay
  have h5 := may_keys hmay htot
  have hmk : ∀ t ∈ ts, mayT t = true := by
    simp only [mayT, Bool.and_eq_true] at hmay
    have := hmay.2.2
    rw [mayL_all] at this
    exact List.all_eq_true.1 this
  have hlen := tellG_len (.mk k b nn s ks ts) hran
  have hR : -9223372036854775808 ≤ nn ∧ nn ≤ 9223372036854775807 := by
    simp only [Ranged] at hran
    exact hran.1
  have hil : (itoa nn).length ≤ 21 := itoa_length_le nn hR.1 hR.2
  have hsz : s.size ≤ 1000000 := by
    have h1 := keyBytes_nonneg ks
    have h2 := totalL_len ts
    simp only [Tree.total] at htot
    omega
  have HALL : Hid (∀ t ∈ ts, RTextOk t) := fun t ht => ih t ht (hmk t ht) (by simp only [Ranged] at hran; exact hran.2.mem ht) (by
    have h1 := keyBytes_nonneg ks
    have h2 := totalL_mem ht
    simp only [Tree.total] at htot
    omega)
  have HLEN : Hid ((tellG (.mk k b nn s ks ts)).length ≤ 30000000) := by show _ ≤ _; omega
  simp only [Lies] at hl
  obtain ⟨ka, kc, la, lc, rfl, ⟨hs1, hs2, hs3, hs4, hs5⟩, hk, ht⟩ := hl
  obtain ⟨W1, hW1⟩ : ∃ W1, w.alloc (.cells #[.int .i64 k, .bool b, .int .i64 nn, .string s, .slice ka ks.length kc, .slice la ts.length lc] 26) = W1 := ⟨_, rfl⟩
  have hb1 : Below w.heap.size w W1 := hW1 ▸ (Below.refl _ _).alloc (Nat.le_refl _) _
  have hq1 : W1.heap[w.heap.size]? = some (.cells #[.int .i64 k, .bool b, .int .i64 nn, .string s, .slice ka ks.length kc, .slice la ts.length lc] 26 (0, 0)) := hW1 ▸ World.alloc_heap_new _ _
  have hB1 : B ≤ W1.heap.size := Nat.le_trans hB hb1.size
  have htb1 := htb.on (hb1.mono hB)
  have HX := hidE (And.intro hb1 (And.intro hq1 (And.intro hB1 htb1)))
  have HW1 := hidE hW1
  have HK := hidE hk
  have HT := hidE ht
  have HR := hidE hR
  have HKEY := hidE h5
  clear hb1 hq1 hB1 htb1 hW1 h5 ih htb hmay hran htot hmk hk ht hR hlen
  unfold maxLen at hs1 hs3 hs5
  go_enter Tryz.func40, Tryz.ntmps40
  by_cases k0 : k = 0
  · have HB : Hid (tellG (.mk k b nn s ks ts) = [110, 117, 108, 108]) := by show _ = _; rw [tellG, if_neg (by omega), if_neg (by omega), if_neg (by omega), if_neg (by omega), if_neg (by omega), if_neg (by omega), if_neg (by omega)]
    subst k0
    go_wp2_with fail
    go_ret
    exact ⟨by rw [HB.out]; rfl, HW1.out ▸ HX.out.1⟩
  have e0 : (k == 0) = false := by simpa using k0
  by_cases k1 : k = 1
  · have HB : Hid (tellG (.mk k b nn s ks ts) = boolBytes b) := by show _ = _; rw [tellG, if_pos k1]
    subst k1
    clear HKEY HALL HK HT
    go_wp2_with fail
    rw [HW1.out]
    refine (boolText_any b W1).mono ?_
    rintro e w2 ⟨rfl, hw2⟩
    rw [hw2]
    clear hw2
    obtain ⟨X, hX⟩ : ∃ X, (⟨(boolBytes b).toArray⟩ : ByteArray) = X := ⟨_, rfl⟩
    rw [hX]
    have HXX := hidE hX
    clear hX
    go_wp2_with fail
    go_ret
    exact ⟨by rw [HB.out, HXX.out]; rfl, HX.out.1⟩
  have e1 : (k == 1) = false := by simpa using k1
  by_cases k2 : k = 2
  · have HB : Hid (tellG (.mk k b nn s ks ts) = itoa nn) := by show _ = _; rw [tellG, if_neg (by omega), if_pos k2]
    subst k2
    clear HKEY HALL HK HT
    go_wp2_with fail
    rw [HW1.out]
    refine (Tryz.strconv_FormatInt_10 nn HR.out.1 HR.out.2 W1 (HX.out.2.2.2 _ (Below.refl _ _))).mono ?_
    rintro e w2 ⟨rfl, kk, os, hw2⟩
    have HB2 : Hid (Below W1.heap.size W1 w2) := by show Below _ _ _; rw [hw2]; exact below_grow W1.heap.size W1 (Nat.le_refl _) kk os
    clear hw2
    obtain ⟨X, hX⟩ : ∃ X, (⟨(itoa nn).toArray⟩ : ByteArray) = X := ⟨_, rfl⟩
    have hXs : X.size ≤ 21 := by rw [← hX]; show (itoa nn).toArray.size ≤ 21; simpa using hil
    rw [hX]
    have HXX := hidE hX
    clear hX
    go_wp2_with fail
    go_ret
    exact ⟨by rw [HB.out, HXX.out]; rfl, below_on HX.out.1 HB2.out⟩
  have e2 : (k == 2) = false := by simpa using k2
  by_cases k3 : k = 3
  · have HB : Hid (tellG (.mk k b nn s ks ts) = quoteB s) := by show _ = _; rw [tellG, if_neg (by omega), if_neg (by omega), if_pos k3]
    subst k3
    clear HKEY HALL HK HT
    go_wp2_with fail
    rw [HW1.out]
    refine (refQuote_any s (by omega) W1).mono ?_
    rintro e w2 ⟨rfl, hb2⟩
    have HB2 := hidE hb2
    clear hb2
    obtain ⟨X, hX⟩ : ∃ X, (⟨(quoteB s).toArray⟩ : ByteArray) = X := ⟨_, rfl⟩
    rw [hX]
    have HXX := hidE hX
    clear hX
    go_wp2_with fail
    go_ret
    exact ⟨by rw [HB.out, HXX.out]; rfl, below_on HX.out.1 HB2.out⟩
  have e3 : (k == 3) = false := by simpa using k3
  by_cases k6 : k = 6
  · have HB : Hid (tellG (.mk k b nn s ks ts) = [60, 110] ++ itoa nn ++ [62]) := by show _ = _; rw [tellG, if_neg (by omega), if_neg (by omega), if_neg (by omega), if_neg (by omega), if_neg (by omega), if_pos k6]
    subst k6
    clear HKEY HALL HK HT
    go_wp2_with fail
    rw [HW1.out]
    refine (Tryz.strconv_FormatInt_10 nn HR.out.1 HR.out.2 W1 (HX.out.2.2.2 _ (Below.refl _ _))).mono ?_
    rintro e w2 ⟨rfl, kk, os, hw2⟩
    have HB2 : Hid (Below W1.heap.size W1 w2) := by show Below _ _ _; rw [hw2]; exact below_grow W1.heap.size W1 (Nat.le_refl _) kk os
    clear hw2
    obtain ⟨X, hX⟩ : ∃ X, (⟨(itoa nn).toArray⟩ : ByteArray) = X := ⟨_, rfl⟩
    have hXs : X.size ≤ 21 := by rw [← hX]; show (itoa nn).toArray.size ≤ 21; simpa using hil
    rw [hX]
    have HXX := hidE hX
    clear hX
    have z1 : ¬ 9223372036854775807 < 2 + X.size := by omega
    have z2 : ¬ 9223372036854775807 < 2 + X.size + 1 := by omega
    go_wp2_with fail
    go_ret
    refine ⟨?_, below_on HX.out.1 HB2.out⟩
    rw [HB.out, ← HXX.out]
    refine congrArg (fun x => Ending.returned (.string x)) ?_
    apply ByteArray.ext
    simp
  have e6 : (k == 6) = false := by simpa using k6
  by_cases k7 : k = 7
  · have HB : Hid (tellG (.mk k b nn s ks ts) = [60, 114] ++ itoa nn ++ [62]) := by show _ = _; rw [tellG, if_neg (by omega), if_neg (by omega), if_neg (by omega), if_neg (by omega), if_neg (by omega), if_neg (by omega), if_pos k7]
    subst k7
    clear HKEY HALL HK HT
    go_wp2_with fail
    rw [HW1.out]
    refine (Tryz.strconv_FormatInt_10 nn HR.out.1 HR.out.2 W1 (HX.out.2.2.2 _ (Below.refl _ _))).mono ?_
    rintro e w2 ⟨rfl, kk, os, hw2⟩
    have HB2 : Hid (Below W1.heap.size W1 w2) := by show Below _ _ _; rw [hw2]; exact below_grow W1.heap.size W1 (Nat.le_refl _) kk os
    clear hw2
    obtain ⟨X, hX⟩ : ∃ X, (⟨(itoa nn).toArray⟩ : ByteArray) = X := ⟨_, rfl⟩
    have hXs : X.size ≤ 21 := by rw [← hX]; show (itoa nn).toArray.size ≤ 21; simpa using hil
    rw [hX]
    have HXX := hidE hX
    clear hX
    have z1 : ¬ 9223372036854775807 < 2 + X.size := by omega
    have z2 : ¬ 9223372036854775807 < 2 + X.size + 1 := by omega
    go_wp2_with fail
    go_ret
    refine ⟨?_, below_on HX.out.1 HB2.out⟩
    rw [HB.out, ← HXX.out]
    refine congrArg (fun x => Ending.returned (.string x)) ?_
    apply ByteArray.ext
    simp
  have e7 : (k == 7) = false := by simpa using k7
  have hk45 : k = 4 ∨ k = 5 := by omega
  have HK45 : Hid (tellG (.mk k b nn s ks ts) = (if k = 5 then [123] else [91]) ++ tellAllG (decide (k = 5)) ks 0 ts ++ (if k = 5 then [125] else [93])) := by
    show _ = _
    rcases hk45 with rfl | rfl
    · rw [tellG, if_neg (by decide), if_neg (by decide), if_neg (by decide), if_pos rfl]; rfl
    · rw [tellG, if_neg (by decide), if_neg (by decide), if_neg (by decide), if_neg (by decide), if_pos rfl]; rfl
  have htl : (tellAllG (decide (k = 5)) ks 0 ts).length ≤ 30000000 := by
    have h1 := HLEN.out
    rw [HK45.out, List.length_append, List.length_append] at h1
    omega
  have HTL := hidE htl
  clear htl HLEN HR k0 k1 k2 k3 k6 k7 hk45
  go_upto_region 14 with fail
  rw [HW1.out]
  go_wp2_with fail
  go_loopw [4, 3] (fun i o wr => ∃ (j : Nat) (S : ByteArray), j ≤ ts.length ∧ i = .int .i64 j ∧ o = .string S ∧ S = ⟨(tellAllG (decide (k = 5)) ks 0 (ts.take j)).toArray⟩ ∧ Below W1.heap.size W1 wr) (fun i _ _ => ts.length - (intOf i).toNat)
  case atStart => exact ⟨0, ⟨#[]⟩, Nat.zero_le _, rfl, rfl, rfl, Below.refl _ _⟩
  case round =>
    obtain ⟨j, S, hj, rfl, rfl, hS, hbr⟩ := hrel
    have hbx : wr.heap[w.heap.size]? = some (.cells #[.int .i64 k, .bool b, .int .i64 nn, .string s, .slice ka ks.length kc, .slice la ts.length lc] 26 (0, 0)) := (hbr.block w.heap.size (Array.getElem?_eq_some_iff.1 HX.out.2.1).1).trans HX.out.2.1
    have d0 := box_cell hbx (i := 0) rfl
    have d4 := box_cell hbx (i := 4) rfl
    have d5 := box_cell hbx (i := 5) rfl
    have hSl : S.size ≤ 30000000 := by
      have h1 := tellAllG_take_le (mp := decide (k = 5)) (ks := ks) (ts := ts) j
      have h2 := HTL.out
      rw [hS]
      show (tellAllG (decide (k = 5)) ks 0 (ts.take j)).toArray.size ≤ _
      rw [List.size_toArray]
      omega
    have HS := hidE hS
    have HBR := hidE hbr
    by_cases hlt : j < ts.length
    · obtain ⟨⟨p0, p1, p2, p3, p4, p5⟩, hx⟩ : ∃ t, ts[j]? = some t := ⟨_, List.getElem?_eq_getElem hlt⟩
      have hbw : Below B w wr := (HX.out.1.mono hB).trans (hbr.mono HX.out.2.2.1)
      have hsz2 : B ≤ wr.heap.size := Nat.le_trans HX.out.2.2.1 hbr.size
      obtain ⟨bl, off, rfl, hbl, hkl⟩ := HT.out.resolve_left (by intro e; rw [e] at hlt; simp at hlt)
      obtain ⟨ja, jc, jl, jd, ⟨c0, c1, c2, c3, c4, c5⟩, hlx⟩ := (hkl.below hbw hbl).cells hx
      have hpc := tellAllG_take (mp := decide (k = 5)) (ks := ks) hx
      have hle := tellAllG_take_le (mp := decide (k = 5)) (ks := ks) (ts := ts) (j + 1)
      rw [hpc, List.length_append] at hle
      have HPC := hidE hpc
      have HLE : Hid ((pieceG (decide (k = 5)) ks j (.mk p0 p1 p2 p3 p4 p5)).length ≤ 30000000) := by have := HTL.out; show _ ≤ _; omega
      have HIHT := hidE (HALL.out _ (List.mem_of_getElem? hx))
      have HC := hidE (And.intro hbw (And.intro hsz2 hlx))
      have HEL := hidE (And.intro c0 (And.intro c1 (And.intro c2 (And.intro c3 (And.intro c4 c5)))))
      have HBX := hidE hbx
      clear hx hkl hlx hpc hle hbw hsz2 hbx hS hbr
      by_cases hj0 : j = 0
      · by_cases hk5 : k = 5
        · have hkk : (k == 5) = true := by simp [hk5]
          have hpb : pieceG (decide (k = 5)) ks j (.mk p0 p1 p2 p3 p4 p5) = ((nameG (ks.getD j ⟨#[]⟩)).data.toList ++ ([58, 32] ++ tellG (.mk p0 p1 p2 p3 p4 p5))) := by simp [pieceG, hj0, hk5]
          have hlen := HLE.out
          rw [hpb] at hlen
          try simp only [List.length_append, List.length_cons, List.length_nil] at hlen
          have HPB := hidE hpb
          have hz : ¬ (0 : Int) < (j : Int) := by omega
          have HK5 := hidE hk5
          have HJ0 := hidE hj0
          clear hpb hj0
          obtain ⟨hkl, hko⟩ := HKEY.out hk5
          obtain ⟨kb, ko, rfl, hkb, hkc⟩ := HK.out.resolve_left (by intro e; rw [e] at hkl; simp at hkl; omega)
          obtain ⟨hkc1, hkc2⟩ := hkc j (by omega)
          obtain ⟨y, hy⟩ : ∃ y, ks.getD j ⟨#[]⟩ = y := ⟨_, rfl⟩
          have hym : y ∈ ks := by
            rw [← hy, List.getD_eq_getElem?_getD, List.getElem?_eq_getElem (by omega)]
            exact List.getElem_mem _
          obtain ⟨hy1, hy2, hy3⟩ := hko y hym
          rw [hy] at HPB hlen hkc1
          have hjk : j < ks.length := by omega
          have kc1 := (HC.out.1.cell (p := ⟨kb, ko + j, none⟩) hkb).trans hkc1
          have HNAME := hidE (refName_any y (by omega) wr)
          obtain ⟨N, hN⟩ : ∃ N, nameG y = N := ⟨_, rfl⟩
          rw [hN] at HPB hlen HNAME
          have hnl : N.data.toList.length = N.size := rfl
          have z1 : ¬ 9223372036854775807 < S.size + N.size := by omega
          have z2 : ¬ 9223372036854775807 < S.size + N.size + 2 := by omega
          clear hkc hkc1 hkc2 hko hy1 hy2 hy3 hym hkl hk5 hy hN
          go_wp2_with fail
          refine HNAME.out.mono ?_
          rintro e w2 ⟨rfl, hb2⟩
          have HB2 := hidE hb2
          have hbx2 := (hb2.block w.heap.size (Array.getElem?_eq_some_iff.1 HBX.out).1).trans HBX.out
          have x5 := box_cell hbx2 (i := 5) rfl
          have hblw : bl < wr.heap.size := lt_of_cell c0
          have y0 := (hb2.cell (p := ⟨bl, off + j * 6, none⟩) hblw).trans HEL.out.1
          have y1 := (hb2.cell (p := ⟨bl, off + j * 6 + 1, none⟩) hblw).trans HEL.out.2.1
          have y2 := (hb2.cell (p := ⟨bl, off + j * 6 + 2, none⟩) hblw).trans HEL.out.2.2.1
          have y3 := (hb2.cell (p := ⟨bl, off + j * 6 + 3, none⟩) hblw).trans HEL.out.2.2.2.1
          have y4 := (hb2.cell (p := ⟨bl, off + j * 6 + 4, none⟩) hblw).trans HEL.out.2.2.2.2.1
          have y5 := (hb2.cell (p := ⟨bl, off + j * 6 + 5, none⟩) hblw).trans HEL.out.2.2.2.2.2
          have hl2 := HC.out.2.2.below (hb2.mono HC.out.2.1)
          have HCALL := hidE (HIHT.out B _ w2 (Nat.le_trans HC.out.2.1 hb2.size) hl2 (HX.out.2.2.2.on ((HBR.out.mono HX.out.2.2.1).trans (hb2.mono HC.out.2.1))))
          clear hb2 hbx2 hl2 HNAME c0 c1 c2 c3 c4 c5 d0 d4 d5
          obtain ⟨X, hX⟩ : ∃ X, (⟨(tellG (.mk p0 p1 p2 p3 p4 p5)).toArray⟩ : ByteArray) = X := ⟨_, rfl⟩
          have hXs : X.size ≤ 30000000 := by rw [← hX]; show (tellG (.mk p0 p1 p2 p3 p4 p5)).toArray.size ≤ _; rw [List.size_toArray]; omega
          rw [hX] at HCALL
          have HXX := hidE hX
          clear hX
          have z3 : ¬ 9223372036854775807 < S.size + N.size + 2 + X.size := by omega
          go_wp2_with fail
          refine HCALL.out.mono ?_
          rintro e w9 ⟨rfl, hb9⟩
          have HB9 : Hid (Below W1.heap.size W1 w9) := below_on HBR.out (below_on HB2.out hb9)
          clear hb9 HCALL
          go_wp2_with fail
          go_roundw
          case rel =>
            refine ⟨j + 1, _, by omega, by go_num, rfl, ?_, HB9.out⟩
            rw [HPC.out, HPB.out, HS.out, ← HXX.out]
            apply ByteArray.ext
            simp
          case measure => simp [intOf]; omega
        · have hkk : (k == 5) = false := by simp [hk5]
          have hpb : pieceG (decide (k = 5)) ks j (.mk p0 p1 p2 p3 p4 p5) = tellG (.mk p0 p1 p2 p3 p4 p5) := by simp [pieceG, hj0, hk5]
          have hlen := HLE.out
          rw [hpb] at hlen
          try simp only [List.length_append, List.length_cons, List.length_nil] at hlen
          have HPB := hidE hpb
          have hz : ¬ (0 : Int) < (j : Int) := by omega
          have HK5 := hidE hk5
          have HJ0 := hidE hj0
          clear hpb hj0
          have HCALL := hidE (HIHT.out B _ wr HC.out.2.1 HC.out.2.2 (HX.out.2.2.2.on (HBR.out.mono HX.out.2.2.1)))
          clear hk5
          obtain ⟨X, hX⟩ : ∃ X, (⟨(tellG (.mk p0 p1 p2 p3 p4 p5)).toArray⟩ : ByteArray) = X := ⟨_, rfl⟩
          have hXs : X.size ≤ 30000000 := by rw [← hX]; show (tellG (.mk p0 p1 p2 p3 p4 p5)).toArray.size ≤ _; rw [List.size_toArray]; omega
          rw [hX] at HCALL
          have HXX := hidE hX
          clear hX
          have z3 : ¬ 9223372036854775807 < S.size + X.size := by omega
          go_wp2_with fail
          refine HCALL.out.mono ?_
          rintro e w9 ⟨rfl, hb9⟩
          have HB9 : Hid (Below W1.heap.size W1 w9) := below_on HBR.out (hb9)
          clear hb9 HCALL
          go_wp2_with fail
          go_roundw
          case rel =>
            refine ⟨j + 1, _, by omega, by go_num, rfl, ?_, HB9.out⟩
            rw [HPC.out, HPB.out, HS.out, ← HXX.out]
            apply ByteArray.ext
            simp
          case measure => simp [intOf]; omega
      · by_cases hk5 : k = 5
        · have hkk : (k == 5) = true := by simp [hk5]
          have hpb : pieceG (decide (k = 5)) ks j (.mk p0 p1 p2 p3 p4 p5) = [44, 32] ++ ((nameG (ks.getD j ⟨#[]⟩)).data.toList ++ ([58, 32] ++ tellG (.mk p0 p1 p2 p3 p4 p5))) := by simp [pieceG, hj0, hk5]
          have hlen := HLE.out
          rw [hpb] at hlen
          try simp only [List.length_append, List.length_cons, List.length_nil] at hlen
          have HPB := hidE hpb
          have hz : (0 : Int) < (j : Int) := by omega
          have HK5 := hidE hk5
          have HJ0 := hidE hj0
          clear hpb hj0
          have z0 : ¬ 9223372036854775807 < S.size + 2 := by omega
          obtain ⟨hkl, hko⟩ := HKEY.out hk5
          obtain ⟨kb, ko, rfl, hkb, hkc⟩ := HK.out.resolve_left (by intro e; rw [e] at hkl; simp at hkl; omega)
          obtain ⟨hkc1, hkc2⟩ := hkc j (by omega)
          obtain ⟨y, hy⟩ : ∃ y, ks.getD j ⟨#[]⟩ = y := ⟨_, rfl⟩
          have hym : y ∈ ks := by
            rw [← hy, List.getD_eq_getElem?_getD, List.getElem?_eq_getElem (by omega)]
            exact List.getElem_mem _
          obtain ⟨hy1, hy2, hy3⟩ := hko y hym
          rw [hy] at HPB hlen hkc1
          have hjk : j < ks.length := by omega
          have kc1 := (HC.out.1.cell (p := ⟨kb, ko + j, none⟩) hkb).trans hkc1
          have HNAME := hidE (refName_any y (by omega) wr)
          obtain ⟨N, hN⟩ : ∃ N, nameG y = N := ⟨_, rfl⟩
          rw [hN] at HPB hlen HNAME
          have hnl : N.data.toList.length = N.size := rfl
          have z1 : ¬ 9223372036854775807 < S.size + 2 + N.size := by omega
          have z2 : ¬ 9223372036854775807 < S.size + 2 + N.size + 2 := by omega
          clear hkc hkc1 hkc2 hko hy1 hy2 hy3 hym hkl hk5 hy hN
          go_wp2_with fail
          refine HNAME.out.mono ?_
          rintro e w2 ⟨rfl, hb2⟩
          have HB2 := hidE hb2
          have hbx2 := (hb2.block w.heap.size (Array.getElem?_eq_some_iff.1 HBX.out).1).trans HBX.out
          have x5 := box_cell hbx2 (i := 5) rfl
          have hblw : bl < wr.heap.size := lt_of_cell c0
          have y0 := (hb2.cell (p := ⟨bl, off + j * 6, none⟩) hblw).trans HEL.out.1
          have y1 := (hb2.cell (p := ⟨bl, off + j * 6 + 1, none⟩) hblw).trans HEL.out.2.1
          have y2 := (hb2.cell (p := ⟨bl, off + j * 6 + 2, none⟩) hblw).trans HEL.out.2.2.1
          have y3 := (hb2.cell (p := ⟨bl, off + j * 6 + 3, none⟩) hblw).trans HEL.out.2.2.2.1
          have y4 := (hb2.cell (p := ⟨bl, off + j * 6 + 4, none⟩) hblw).trans HEL.out.2.2.2.2.1
          have y5 := (hb2.cell (p := ⟨bl, off + j * 6 + 5, none⟩) hblw).trans HEL.out.2.2.2.2.2
          have hl2 := HC.out.2.2.below (hb2.mono HC.out.2.1)
          have HCALL := hidE (HIHT.out B _ w2 (Nat.le_trans HC.out.2.1 hb2.size) hl2 (HX.out.2.2.2.on ((HBR.out.mono HX.out.2.2.1).trans (hb2.mono HC.out.2.1))))
          clear hb2 hbx2 hl2 HNAME c0 c1 c2 c3 c4 c5 d0 d4 d5
          obtain ⟨X, hX⟩ : ∃ X, (⟨(tellG (.mk p0 p1 p2 p3 p4 p5)).toArray⟩ : ByteArray) = X := ⟨_, rfl⟩
          have hXs : X.size ≤ 30000000 := by rw [← hX]; show (tellG (.mk p0 p1 p2 p3 p4 p5)).toArray.size ≤ _; rw [List.size_toArray]; omega
          rw [hX] at HCALL
          have HXX := hidE hX
          clear hX
          have z3 : ¬ 9223372036854775807 < S.size + 2 + N.size + 2 + X.size := by omega
          go_wp2_with fail
          refine HCALL.out.mono ?_
          rintro e w9 ⟨rfl, hb9⟩
          have HB9 : Hid (Below W1.heap.size W1 w9) := below_on HBR.out (below_on HB2.out hb9)
          clear hb9 HCALL
          go_wp2_with fail
          go_roundw
          case rel =>
            refine ⟨j + 1, _, by omega, by go_num, rfl, ?_, HB9.out⟩
            rw [HPC.out, HPB.out, HS.out, ← HXX.out]
            apply ByteArray.ext
            simp
          case measure => simp [intOf]; omega
        · have hkk : (k == 5) = false := by simp [hk5]
          have hpb : pieceG (decide (k = 5)) ks j (.mk p0 p1 p2 p3 p4 p5) = [44, 32] ++ tellG (.mk p0 p1 p2 p3 p4 p5) := by simp [pieceG, hj0, hk5]
          have hlen := HLE.out
          rw [hpb] at hlen
          try simp only [List.length_append, List.length_cons, List.length_nil] at hlen
          have HPB := hidE hpb
          have hz : (0 : Int) < (j : Int) := by omega
          have HK5 := hidE hk5
          have HJ0 := hidE hj0
          clear hpb hj0
          have z0 : ¬ 9223372036854775807 < S.size + 2 := by omega
          have HCALL := hidE (HIHT.out B _ wr HC.out.2.1 HC.out.2.2 (HX.out.2.2.2.on (HBR.out.mono HX.out.2.2.1)))
          clear hk5
          obtain ⟨X, hX⟩ : ∃ X, (⟨(tellG (.mk p0 p1 p2 p3 p4 p5)).toArray⟩ : ByteArray) = X := ⟨_, rfl⟩
          have hXs : X.size ≤ 30000000 := by rw [← hX]; show (tellG (.mk p0 p1 p2 p3 p4 p5)).toArray.size ≤ _; rw [List.size_toArray]; omega
          rw [hX] at HCALL
          have HXX := hidE hX
          clear hX
          have z3 : ¬ 9223372036854775807 < S.size + 2 + X.size := by omega
          go_wp2_with fail
          refine HCALL.out.mono ?_
          rintro e w9 ⟨rfl, hb9⟩
          have HB9 : Hid (Below W1.heap.size W1 w9) := below_on HBR.out (hb9)
          clear hb9 HCALL
          go_wp2_with fail
          go_roundw
          case rel =>
            refine ⟨j + 1, _, by omega, by go_num, rfl, ?_, HB9.out⟩
            rw [HPC.out, HPB.out, HS.out, ← HXX.out]
            apply ByteArray.ext
            simp
          case measure => simp [intOf]; omega
    · have hjs : ts.take j = ts := List.take_of_length_le (by omega)
      have HJS := hidE hjs
      have hji : ¬ (j : Int) < ts.length := by omega
      have z1 : ¬ 9223372036854775807 < 1 + S.size := by omega
      have z2 : ¬ 9223372036854775807 < 1 + S.size + 1 := by omega
      clear hjs hS hbr hbx
      by_cases hk5 : k = 5
      · have hkk : (k == 5) = true := by simp [hk5]
        have HK5 := hidE hk5
        clear hk5
        go_wp2_with fail
        go_ret
        refine ⟨?_, below_on HX.out.1 HBR.out⟩
        rw [HK45.out, if_pos HK5.out, if_pos HK5.out, HS.out, HJS.out]
        refine congrArg (fun x => Ending.returned (.string x)) ?_
        apply ByteArray.ext
        simp
      · have hkk : (k == 5) = false := by simp [hk5]
        have HK5 := hidE hk5
        clear hk5
        go_wp2_with fail
        go_ret
        refine ⟨?_, below_on HX.out.1 HBR.out⟩
        rw [HK45.out, if_neg HK5.out, if_neg HK5.out, HS.out, HJS.out]
        refine congrArg (fun x => Ending.returned (.string x)) ?_
        apply ByteArray.ext
        simp
end Go.Proofs.YtbpmhgcjefpigaaGreatDoor
