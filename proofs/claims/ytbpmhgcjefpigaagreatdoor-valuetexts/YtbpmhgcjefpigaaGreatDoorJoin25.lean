/- ValueTexts, walked. A value, and a list of values, that is handed in: where it lies, as a tree. -/
import Derived.Test.YtbpmhgcjefpigaaGreatDoorJoin13
import Derived.Test.YtbpmhgcjefpigaaGreatDoorRtext
import Derived.Test.YtbpmhgcjefpigaaGreatDoorJoin22
import Derived.Test.YtbpmhgcjefpigaaGreatDoorJoin15
import Derived.Test.YtbpmhgcjefpigaaGreatDoorSpared
import Derived.Test.YtbpmhgcjefpigaaGreatDoorJoin24
import Derived.Test.YtbpmhgcjefpigaaGreatDoorJoin6
import Derived.Test.YtbpmhgcjefpigaaGreatDoorWalked
import Derived.Test.YtbpmhgcjefpigaaGreatDoorJoin20
import Derived.Test.YtbpmhgcjefpigaaGreatDoorJoin5
import Derived.OpenShut
import Derived.SizedLaws
import Derived.ProofKit
import Derived.SliceStrings
import Derived.Deep.Slices
namespace Go.Proofs.YtbpmhgcjefpigaaGreatDoor
open Go.RowKit Go.Shelf Go.Lib
set_option linter.unusedVariables false
set_option linter.unusedSimpArgs false

theorem kids_one {W : World} {bl B : Nat} {a0 a1 a2 a3 a4 a5 : Value} {S : Tree} (hc : W.heap[bl]? = some (.cells #[a0, a1, a2, a3, a4, a5] 26 (0, 0))) (h1 : Lies B W (.agg #[a0, a1, a2, a3, a4, a5]) S) : KidsLie B W bl 0 [S] := by
  have hcell : ∀ i v, (#[a0, a1, a2, a3, a4, a5] : Array Value)[i]? = some v → W.cell? ⟨bl, i, none⟩ = some v := by
    intro i v hi; unfold World.cell?; simp only [hc]; simpa using hi
  simp only [KidsLie]
  exact ⟨⟨_, _, _, _, _, _, ⟨hcell 0 _ rfl, hcell 1 _ rfl, hcell 2 _ rfl, hcell 3 _ rfl, hcell 4 _ rfl, hcell 5 _ rfl⟩, h1⟩, trivial⟩
theorem spare_shp {p : Nat → Prop} {w : World} {v : Value} {T : Tree} (h : SpareP p w v T) : ∃ (k : Int) (x : Bool) (n : Int) (s : ByteArray) (ka : Option Addr) (kn kc : Nat) (la : Option Addr) (ln lc : Nat), v = .agg #[.int .i64 k, .bool x, .int .i64 n, .string s, .slice ka kn kc, .slice la ln lc] := by
  obtain ⟨k, x, n, s, ks, ts⟩ := T
  simp only [SpareP] at h
  obtain ⟨bk, kc, bl, lc, rfl, -⟩ := h
  exact ⟨_, _, _, _, _, _, _, _, _, _, rfl⟩
theorem may_of {T : Tree} (hc : checkN T = 0) : mayT T = true := by
  rw [check_eq] at hc
  by_cases h : mayT T = true
  · exact h
  · rw [if_neg h] at hc; omega
set_option maxRecDepth 100000 in
set_option maxHeartbeats 8000000 in
theorem texts_law (A : Tree) (D : Nat) (va : Value) (w : World) (hD : D ≤ w.heap.size) (hA : Lies D w va A) (sA : Sane A) (rA : Ranged A) (s : ByteArray) (hs : s.size ≤ 140737488355328) (hT : Tabs w)
    (hP : TabBelow Tryz.prog w.heap.size w "internal/strconv.uint64pow10" .u64 pow10Tab) (hP2D : TabBelow Tryz.prog D w "internal/strconv.uint64pow10" .u64 pow10Tab) (hM : ML w) (h2 : 2 < w.heap.size) : Calls Tryz.prog 7 #[va, .string s] w fun e w' => e = .returned (.bool true) ∧ Below w.heap.size w w' := by
  have HLL := hidE hA
  obtain ⟨ak, ab, an, ax, aa, am, ac, al, ao, ad, rfl⟩ := lies_form hA
  obtain ⟨W1, hW1⟩ : ∃ W1, w.alloc (.cells #[.int .i64 ak, .bool ab, .int .i64 an, .string ax, .slice aa am ac, .slice al ao ad] 26) = W1 := ⟨_, rfl⟩
  have hs1 : W1.heap.size = w.heap.size + 1 := by rw [← hW1]; simp
  have hb1 : Below w.heap.size w W1 := hW1 ▸ (Below.refl _ _).alloc (Nat.le_refl _) _
  have hqa : W1.heap[w.heap.size]? = some (.cells #[.int .i64 ak, .bool ab, .int .i64 an, .string ax, .slice aa am ac, .slice al ao ad] 26 (0, 0)) := hW1 ▸ World.alloc_heap_new _ _
  obtain ⟨W2, hW2⟩ : ∃ W2, W1.alloc (.cells #[.int .i64 ak, .bool ab, .int .i64 an, .string ax, .slice aa am ac, .slice al ao ad] 26) = W2 := ⟨_, rfl⟩
  have hb12 : Below W1.heap.size W1 W2 := hW2 ▸ (Below.refl _ _).alloc (Nat.le_refl _) _
  have hq2 : W2.heap[W1.heap.size]? = some (.cells #[.int .i64 ak, .bool ab, .int .i64 an, .string ax, .slice aa am ac, .slice al ao ad] 26 (0, 0)) := hW2 ▸ World.alloc_heap_new _ _
  have hlt2 : W1.heap.size < W2.heap.size := (Array.getElem?_eq_some_iff.1 hq2).1
  have HX : Hid (∀ w', Below W1.heap.size W1 w' → Below w.heap.size w w' ∧ (w'.cell? ⟨w.heap.size, 0, none⟩ = some (.int .i64 ak) ∧ w'.cell? ⟨w.heap.size, 1, none⟩ = some (.bool ab) ∧ w'.cell? ⟨w.heap.size, 2, none⟩ = some (.int .i64 an) ∧ w'.cell? ⟨w.heap.size, 3, none⟩ = some (.string ax) ∧ w'.cell? ⟨w.heap.size, 4, none⟩ = some (.slice aa am ac) ∧ w'.cell? ⟨w.heap.size, 5, none⟩ = some (.slice al ao ad))) := fun w' hb =>
    ⟨hb1.trans (hb.mono hb1.size), six_cells ((hb.block _ (by omega)).trans hqa)⟩
  have HL : Hid (∀ w', Below w.heap.size w w' → Lies D w' (.agg #[.int .i64 ak, .bool ab, .int .i64 an, .string ax, .slice aa am ac, .slice al ao ad]) A ∧ D ≤ w'.heap.size ∧ Tabs w') := fun w' hb => ⟨HLL.out.below (hb.mono hD), Nat.le_trans hD hb.size, hT.below hb⟩
  have HP2 : Hid (∀ w', Below w.heap.size w w' → TabBelow Tryz.prog w'.heap.size w' "internal/strconv.uint64pow10" .u64 pow10Tab ∧ TabBelow Tryz.prog D w' "internal/strconv.uint64pow10" .u64 pow10Tab ∧ ML w' ∧ 2 < w'.heap.size) := fun w' hb => by
    obtain ⟨m, hm⟩ := hM
    exact ⟨fun w2 h => hP w2 (hb.trans (h.mono hb.size)), fun w2 h => hP2D w2 (hb.mono hD |>.trans h), ⟨m, (hb.cell (p := ⟨2, 0, none⟩) h2).trans hm⟩, Nat.lt_of_lt_of_le h2 hb.size⟩
  have hb2 : Below w.heap.size w W2 := hb1.trans (hb12.mono hb1.size)
  have hl2 := HL.out W2 hb2
  have HSM := hidE (smalls_any [A] W2.heap.size (some ⟨w.heap.size + 1, 0, none⟩) 1 W2 (Nat.le_refl _) (.inr ⟨_, _, rfl, by omega, kids_one (by rw [← hs1]; exact hq2) (hl2.1.mono hl2.2.1)⟩) (Nat.le_refl _) (by unfold maxLen; omega) (by intro t ht; simp only [List.mem_cons, List.not_mem_nil, or_false] at ht; rw [ht]; exact sA))
  have HWK : Hid (∀ w', Below w.heap.size w w' → Calls Tryz.prog 16 #[] w' fun e w2 => e = .returned (.bool true) ∧ Below w'.heap.size w' w2) := fun w' hb => works_any w' (hT.below hb) (fun w2 h => hP w2 (hb.trans (h.mono hb.size)))
  have HW1 := hidE hW1
  have HW2 := hidE hW2
  have HB := hidE (And.intro hb12 hb2)
  have HSA := hidE (And.intro sA rA)
  clear hW1 hW2 hb1 hb12 hqa hq2 hl2 hlt2 hA sA rA hT hP hb2 hM h2 hP2D
  go_enter Tryz.func7, Tryz.ntmps7
  go_wp2_with fail
  rw [HW1.out, HW2.out]
  refine HSM.out.mono ?_
  rintro e w5 ⟨rfl, hb5⟩
  have hb15 : Below W1.heap.size W1 w5 := below_on HB.out.1 hb5
  have HB5 := hidE hb15
  obtain ⟨hbw5, a0, a1, a2, a3, a4, a5⟩ := HX.out w5 hb15
  have HBW5 := hidE hbw5
  clear hb5 hb15 hbw5 HSM HW1 HW2
  by_cases hsm : smalls [A] ≤ 2000
  · have htot : A.total ≤ 2000 := small_total hsm A (by simp)
    have HMO := hidE (modest_total htot)
    have hd : decide (smalls [A] ≤ 2000) = true := by simp [hsm]
    rw [hd]
    clear hsm hd
    by_cases hss : s.size ≤ 2000
    · have hsi : ¬ (2000 : Int) < s.size := by omega
      have HSP := hidE (spared_any A D _ w5 (HL.out w5 HBW5.out).2.1 (HL.out w5 HBW5.out).1 (by omega))
      go_wp2_with fail
      refine HSP.out.mono ?_
      rintro e w6 ⟨vm, rfl, hsp, hb6⟩
      obtain ⟨mk, mb, mn, mx, ma, mm, mc, ml, mo, md, rfl⟩ := spare_shp hsp
      have HD6 : Hid (D ≤ w6.heap.size) := Nat.le_trans (HL.out w5 HBW5.out).2.1 hb6.size
      have hb16 : Below W1.heap.size W1 w6 := below_on HB5.out hb6
      obtain ⟨W7, hW7⟩ : ∃ W7, w6.alloc (.cells #[.int .i64 mk, .bool mb, .int .i64 mn, .string mx, .slice ma mm mc, .slice ml mo md] 26) = W7 := ⟨_, rfl⟩
      have hb67 : Below w6.heap.size w6 W7 := hW7 ▸ (Below.refl _ _).alloc (Nat.le_refl _) _
      have hq7 : W7.heap[w6.heap.size]? = some (.cells #[.int .i64 mk, .bool mb, .int .i64 mn, .string mx, .slice ma mm mc, .slice ml mo md] 26 (0, 0)) := hW7 ▸ World.alloc_heap_new _ _
      have hlt7 : w6.heap.size < W7.heap.size := (Array.getElem?_eq_some_iff.1 hq7).1
      have HB7 := hidE (below_on hb16 hb67)
      have HM : Hid (∀ w', Below W7.heap.size W7 w' → (w'.cell? ⟨w6.heap.size, 0, none⟩ = some (.int .i64 mk) ∧ w'.cell? ⟨w6.heap.size, 1, none⟩ = some (.bool mb) ∧ w'.cell? ⟨w6.heap.size, 2, none⟩ = some (.int .i64 mn) ∧ w'.cell? ⟨w6.heap.size, 3, none⟩ = some (.string mx) ∧ w'.cell? ⟨w6.heap.size, 4, none⟩ = some (.slice ma mm mc) ∧ w'.cell? ⟨w6.heap.size, 5, none⟩ = some (.slice ml mo md)) ∧ SpareP (· < w6.heap.size) w' (.agg #[.int .i64 mk, .bool mb, .int .i64 mn, .string mx, .slice ma mm mc, .slice ml mo md]) A ∧ w6.heap.size < w'.heap.size) := fun w' hb =>
        ⟨six_cells ((hb.block _ hlt7).trans hq7), Spare.below ((hb67.trans (hb.mono hb67.size))) (SpareP.mono (fun b hb => hb.2) hsp), Nat.lt_of_lt_of_le hlt7 hb.size⟩
      have HW7 := hidE hW7
      have hlm : Lies w6.heap.size W7 (.agg #[.int .i64 mk, .bool mb, .int .i64 mn, .string mx, .slice ma mm mc, .slice ml mo md]) A := Spare.lies (HM.out W7 (Below.refl _ _)).2.1
      obtain ⟨tx, htx⟩ : ∃ tx, (if checkN A = 0 then (⟨(tellG A).toArray⟩ : ByteArray) else ⟨#[]⟩) = tx := ⟨_, rfl⟩
      have HTX := hidE htx
      have HTEXT : Hid (Calls Tryz.prog 39 #[.agg #[.int .i64 mk, .bool mb, .int .i64 mn, .string mx, .slice ma mm mc, .slice ml mo md]] W7 fun e w' => e = .returned (.tuple #[.string tx, .int .i64 (checkN A)]) ∧ Below W7.heap.size W7 w') := by
        have hbw7 := (HX.out W7 HB7.out).1
        rw [← htx]
        by_cases hc : checkN A = 0
        · rw [if_pos hc, hc]
          exact Text_anyG A hc HSA.out.2 (by omega) HMO.out w6.heap.size _ W7 (Nat.le_of_lt hlt7) hlm (HL.out W7 hbw7).2.2 (HP2.out W7 hbw7).1 (HP2.out W7 hbw7).2.2.1 (HP2.out W7 hbw7).2.2.2
        · rw [if_neg hc]
          exact Text_not A hc HMO.out w6.heap.size _ W7 (Nat.le_of_lt hlt7) hlm (HL.out W7 hbw7).2.2
      clear hsp hb6 hb16 hb67 hq7 hW7 HSP a0 a1 a2 a3 a4 a5 hlm htx
      go_upto_region 4 with fail
      rw [HW7.out]
      obtain ⟨⟨m0, m1, m2, m3, m4, m5⟩, -, -⟩ := HM.out W7 (Below.refl _ _)
      clear HW7
      go_wp2_with fail
      refine HTEXT.out.mono ?_
      rintro e w8 ⟨rfl, hb8⟩
      have HB8 := hidE hb8
      have HB18 := hidE (below_on HB7.out hb8)
      clear m0 m1 m2 m3 m4 m5 HTEXT hb8
      obtain ⟨hbw8, a0, a1, a2, a3, a4, a5⟩ := HX.out w8 HB18.out
      have HCK := hidE (rcheck_any A D _ w8 (HL.out w8 hbw8).2.1 (HL.out w8 hbw8).1 HSA.out.1 (by omega))
      clear hbw8
      go_wp2_with fail
      refine HCK.out.mono ?_
      rintro e w9 ⟨rfl, hb9⟩
      have HB19 := hidE (below_on HB18.out hb9)
      have HB79 := hidE (below_on HB8.out hb9)
      clear a0 a1 a2 a3 a4 a5 HCK hb9
      obtain ⟨hbw9, a0, a1, a2, a3, a4, a5⟩ := HX.out w9 HB19.out
      have HUTF : Hid (∀ W, Calls Tryz.prog 41 #[.string s] W fun e w' => e = .returned (.bool (validD s.data.toList)) ∧ w' = W) := fun W => utf_any s W hs
      by_cases hc : checkN A = 0
      · cases hvd : validD s.data.toList with
        | true =>
          have HTT := hidE (refText_all A (may_of hc) HSA.out.2 (by omega) D _ w9 (HL.out w9 hbw9).2.1 (HL.out w9 hbw9).1 (HP2.out w9 hbw9).2.1)
          have HTX2 : Hid ((⟨(tellG A).toArray⟩ : ByteArray) = tx) := by show _ = _; rw [← HTX.out, if_pos hc]
          rw [HTX2.out] at HTT
          rw [hc]
          clear hbw9 hc
          go_wp2_with fail
          refine HTT.out.mono ?_
          rintro e w10 ⟨rfl, hb10⟩
          have HB110 := hidE (below_on HB19.out hb10)
          have HB710 := hidE (below_on HB79.out hb10)
          clear a0 a1 a2 a3 a4 a5 HTT hb10
          go_wp2_with fail
          refine (HUTF.out _).mono ?_
          rintro e w11 ⟨rfl, hw11⟩
          rw [hw11]
          clear hw11 w11
          rw [hvd]
          have HQQ := hidE (refQuote_any s (by omega) w10)
          obtain ⟨qx, hqx⟩ : ∃ x, (⟨(quoteB s).toArray⟩ : ByteArray) = x := ⟨_, rfl⟩
          rw [hqx] at HQQ
          have HQN : Hid (quoteN s = qx) := by show _ = _; unfold quoteN; rw [if_pos hvd, hqx]
          have HNN : Hid (nameN s = nameG s) := by show _ = _; unfold nameN; rw [if_pos hvd]
          clear hqx hvd
          go_wp2_with fail
          refine HQQ.out.mono ?_
          rintro e w12 ⟨rfl, hb12⟩
          have HB112 := hidE (below_on HB110.out hb12)
          have HB712 := hidE (below_on HB710.out hb12)
          have HNM := hidE (refName_any s (by omega) w12)
          obtain ⟨nx, hnx⟩ : ∃ x, nameG s = x := ⟨_, rfl⟩
          rw [hnx] at HNM HNN
          clear hnx hb12 HQQ
          go_wp2_with fail
          refine HNM.out.mono ?_
          rintro e w13 ⟨rfl, hb13⟩
          have HB113 := hidE (below_on HB112.out hb13)
          have HB713 := hidE (below_on HB712.out hb13)
          clear hb13 HNM
          go_wp2_with fail
          refine (num_any 0 w13).mono ?_
          rintro e w14 ⟨rfl, hb14⟩
          have HB114 := hidE (below_on HB113.out hb14)
          have HB714 := hidE (below_on HB713.out hb14)
          clear hb14
          have hbw14 := (HX.out w14 HB114.out).1
          have HQ := hidE (Quote_any s (by omega) w14 (HL.out w14 hbw14).2.2)
          rw [HQN.out] at HQ
          clear hbw14
          go_wp2_with fail
          refine HQ.out.mono ?_
          rintro e w15 ⟨rfl, hb15⟩
          have HB115 := hidE (below_on HB114.out hb15)
          have HB715 := hidE (below_on HB714.out hb15)
          clear hb15 HQ
          have hbw15 := (HX.out w15 HB115.out).1
          have HN := hidE (Name_any s (by omega) w15 (HL.out w15 hbw15).2.2 (HP2.out w15 hbw15).2.2.1 (HP2.out w15 hbw15).2.2.2)
          rw [HNN.out] at HN
          clear hbw15
          go_wp2_with fail
          refine HN.out.mono ?_
          rintro e w16 ⟨rfl, hb16⟩
          have HB116 := hidE (below_on HB115.out hb16)
          have HB716 := hidE (below_on HB715.out hb16)
          clear hb16 HN
          obtain ⟨hbw16, a0, a1, a2, a3, a4, a5⟩ := HX.out w16 HB116.out
          obtain ⟨⟨m0, m1, m2, m3, m4, m5⟩, hsp16, hlt16⟩ := HM.out w16 HB716.out
          have HKP := hidE (kept_any A w6.heap.size _ _ w16 (Nat.le_of_lt hlt16) hsp16 ((HL.out w16 hbw16).1.mono HD6.out))
          have HBW16 := hidE hbw16
          clear hsp16 hlt16 hbw16
          go_wp2_with fail
          refine HKP.out.mono ?_
          rintro e w17 ⟨rfl, hb17⟩
          have HBW17 := hidE (below_on HBW16.out hb17)
          clear hb17 a0 a1 a2 a3 a4 a5 m0 m1 m2 m3 m4 m5 HKP
          go_wp2_with fail
          refine (HWK.out w17 HBW17.out).mono ?_
          rintro e w18 ⟨rfl, hb18⟩
          have HF := hidE (below_on HBW17.out hb18)
          clear hb18
          go_wp2_with fail
          go_ret
          exact ⟨rfl, HF.out⟩
        | false =>
          have HTT := hidE (refText_all A (may_of hc) HSA.out.2 (by omega) D _ w9 (HL.out w9 hbw9).2.1 (HL.out w9 hbw9).1 (HP2.out w9 hbw9).2.1)
          have HTX2 : Hid ((⟨(tellG A).toArray⟩ : ByteArray) = tx) := by show _ = _; rw [← HTX.out, if_pos hc]
          rw [HTX2.out] at HTT
          rw [hc]
          clear hbw9 hc
          go_wp2_with fail
          refine HTT.out.mono ?_
          rintro e w10 ⟨rfl, hb10⟩
          have HB110 := hidE (below_on HB19.out hb10)
          have HB710 := hidE (below_on HB79.out hb10)
          clear a0 a1 a2 a3 a4 a5 HTT hb10
          go_wp2_with fail
          refine (HUTF.out _).mono ?_
          rintro e w11 ⟨rfl, hw11⟩
          rw [hw11]
          clear hw11 w11
          rw [hvd]
          have HQN : Hid (quoteN s = ⟨#[]⟩) := by show _ = _; unfold quoteN; rw [if_neg (by rw [hvd]; decide)]
          have HNN : Hid (nameN s = ⟨#[]⟩) := by show _ = _; unfold nameN; rw [if_neg (by rw [hvd]; decide)]
          clear hvd
          go_wp2_with fail
          refine (num_any 0 w10).mono ?_
          rintro e w14 ⟨rfl, hb14⟩
          have HB114 := hidE (below_on HB110.out hb14)
          have HB714 := hidE (below_on HB710.out hb14)
          clear hb14
          have hbw14 := (HX.out w14 HB114.out).1
          have HQ := hidE (Quote_any s (by omega) w14 (HL.out w14 hbw14).2.2)
          rw [HQN.out] at HQ
          clear hbw14
          go_wp2_with fail
          refine HQ.out.mono ?_
          rintro e w15 ⟨rfl, hb15⟩
          have HB115 := hidE (below_on HB114.out hb15)
          have HB715 := hidE (below_on HB714.out hb15)
          clear hb15 HQ
          have hbw15 := (HX.out w15 HB115.out).1
          have HN := hidE (Name_any s (by omega) w15 (HL.out w15 hbw15).2.2 (HP2.out w15 hbw15).2.2.1 (HP2.out w15 hbw15).2.2.2)
          rw [HNN.out] at HN
          clear hbw15
          go_wp2_with fail
          refine HN.out.mono ?_
          rintro e w16 ⟨rfl, hb16⟩
          have HB116 := hidE (below_on HB115.out hb16)
          have HB716 := hidE (below_on HB715.out hb16)
          clear hb16 HN
          obtain ⟨hbw16, a0, a1, a2, a3, a4, a5⟩ := HX.out w16 HB116.out
          obtain ⟨⟨m0, m1, m2, m3, m4, m5⟩, hsp16, hlt16⟩ := HM.out w16 HB716.out
          have HKP := hidE (kept_any A w6.heap.size _ _ w16 (Nat.le_of_lt hlt16) hsp16 ((HL.out w16 hbw16).1.mono HD6.out))
          have HBW16 := hidE hbw16
          clear hsp16 hlt16 hbw16
          go_wp2_with fail
          refine HKP.out.mono ?_
          rintro e w17 ⟨rfl, hb17⟩
          have HBW17 := hidE (below_on HBW16.out hb17)
          clear hb17 a0 a1 a2 a3 a4 a5 m0 m1 m2 m3 m4 m5 HKP
          go_wp2_with fail
          refine (HWK.out w17 HBW17.out).mono ?_
          rintro e w18 ⟨rfl, hb18⟩
          have HF := hidE (below_on HBW17.out hb18)
          clear hb18
          go_wp2_with fail
          go_ret
          exact ⟨rfl, HF.out⟩
      · cases hvd : validD s.data.toList with
        | true =>
          have htx0 : tx = ⟨#[]⟩ := by rw [← HTX.out, if_neg hc]
          subst htx0
          obtain ⟨cn, hcn⟩ : ∃ x, checkN A = x := ⟨_, rfl⟩
          rw [hcn] at hc ⊢
          have hcb : (cn == 0) = false := by simpa using hc
          clear hbw9 hc hcn
          go_wp2_with fail
          refine (HUTF.out _).mono ?_
          rintro e w11 ⟨rfl, hw11⟩
          rw [hw11]
          clear hw11 w11
          rw [hvd]
          have HQQ := hidE (refQuote_any s (by omega) w9)
          obtain ⟨qx, hqx⟩ : ∃ x, (⟨(quoteB s).toArray⟩ : ByteArray) = x := ⟨_, rfl⟩
          rw [hqx] at HQQ
          have HQN : Hid (quoteN s = qx) := by show _ = _; unfold quoteN; rw [if_pos hvd, hqx]
          have HNN : Hid (nameN s = nameG s) := by show _ = _; unfold nameN; rw [if_pos hvd]
          clear hqx hvd
          go_wp2_with fail
          refine HQQ.out.mono ?_
          rintro e w12 ⟨rfl, hb12⟩
          have HB112 := hidE (below_on HB19.out hb12)
          have HB712 := hidE (below_on HB79.out hb12)
          have HNM := hidE (refName_any s (by omega) w12)
          obtain ⟨nx, hnx⟩ : ∃ x, nameG s = x := ⟨_, rfl⟩
          rw [hnx] at HNM HNN
          clear hnx hb12 HQQ
          go_wp2_with fail
          refine HNM.out.mono ?_
          rintro e w13 ⟨rfl, hb13⟩
          have HB113 := hidE (below_on HB112.out hb13)
          have HB713 := hidE (below_on HB712.out hb13)
          clear hb13 HNM
          clear a0 a1 a2 a3 a4 a5
          go_wp2_with fail
          refine (num_any cn w13).mono ?_
          rintro e w14 ⟨rfl, hb14⟩
          have HB114 := hidE (below_on HB113.out hb14)
          have HB714 := hidE (below_on HB713.out hb14)
          clear hb14
          have hbw14 := (HX.out w14 HB114.out).1
          have HQ := hidE (Quote_any s (by omega) w14 (HL.out w14 hbw14).2.2)
          rw [HQN.out] at HQ
          clear hbw14
          go_wp2_with fail
          refine HQ.out.mono ?_
          rintro e w15 ⟨rfl, hb15⟩
          have HB115 := hidE (below_on HB114.out hb15)
          have HB715 := hidE (below_on HB714.out hb15)
          clear hb15 HQ
          have hbw15 := (HX.out w15 HB115.out).1
          have HN := hidE (Name_any s (by omega) w15 (HL.out w15 hbw15).2.2 (HP2.out w15 hbw15).2.2.1 (HP2.out w15 hbw15).2.2.2)
          rw [HNN.out] at HN
          clear hbw15
          go_wp2_with fail
          refine HN.out.mono ?_
          rintro e w16 ⟨rfl, hb16⟩
          have HB116 := hidE (below_on HB115.out hb16)
          have HB716 := hidE (below_on HB715.out hb16)
          clear hb16 HN
          obtain ⟨hbw16, a0, a1, a2, a3, a4, a5⟩ := HX.out w16 HB116.out
          obtain ⟨⟨m0, m1, m2, m3, m4, m5⟩, hsp16, hlt16⟩ := HM.out w16 HB716.out
          have HKP := hidE (kept_any A w6.heap.size _ _ w16 (Nat.le_of_lt hlt16) hsp16 ((HL.out w16 hbw16).1.mono HD6.out))
          have HBW16 := hidE hbw16
          clear hsp16 hlt16 hbw16
          go_wp2_with fail
          refine HKP.out.mono ?_
          rintro e w17 ⟨rfl, hb17⟩
          have HBW17 := hidE (below_on HBW16.out hb17)
          clear hb17 a0 a1 a2 a3 a4 a5 m0 m1 m2 m3 m4 m5 HKP
          go_wp2_with fail
          refine (HWK.out w17 HBW17.out).mono ?_
          rintro e w18 ⟨rfl, hb18⟩
          have HF := hidE (below_on HBW17.out hb18)
          clear hb18
          go_wp2_with fail
          go_ret
          exact ⟨rfl, HF.out⟩
        | false =>
          have htx0 : tx = ⟨#[]⟩ := by rw [← HTX.out, if_neg hc]
          subst htx0
          obtain ⟨cn, hcn⟩ : ∃ x, checkN A = x := ⟨_, rfl⟩
          rw [hcn] at hc ⊢
          have hcb : (cn == 0) = false := by simpa using hc
          clear hbw9 hc hcn
          go_wp2_with fail
          refine (HUTF.out _).mono ?_
          rintro e w11 ⟨rfl, hw11⟩
          rw [hw11]
          clear hw11 w11
          rw [hvd]
          have HQN : Hid (quoteN s = ⟨#[]⟩) := by show _ = _; unfold quoteN; rw [if_neg (by rw [hvd]; decide)]
          have HNN : Hid (nameN s = ⟨#[]⟩) := by show _ = _; unfold nameN; rw [if_neg (by rw [hvd]; decide)]
          clear hvd
          clear a0 a1 a2 a3 a4 a5
          go_wp2_with fail
          refine (num_any cn w9).mono ?_
          rintro e w14 ⟨rfl, hb14⟩
          have HB114 := hidE (below_on HB19.out hb14)
          have HB714 := hidE (below_on HB79.out hb14)
          clear hb14
          have hbw14 := (HX.out w14 HB114.out).1
          have HQ := hidE (Quote_any s (by omega) w14 (HL.out w14 hbw14).2.2)
          rw [HQN.out] at HQ
          clear hbw14
          go_wp2_with fail
          refine HQ.out.mono ?_
          rintro e w15 ⟨rfl, hb15⟩
          have HB115 := hidE (below_on HB114.out hb15)
          have HB715 := hidE (below_on HB714.out hb15)
          clear hb15 HQ
          have hbw15 := (HX.out w15 HB115.out).1
          have HN := hidE (Name_any s (by omega) w15 (HL.out w15 hbw15).2.2 (HP2.out w15 hbw15).2.2.1 (HP2.out w15 hbw15).2.2.2)
          rw [HNN.out] at HN
          clear hbw15
          go_wp2_with fail
          refine HN.out.mono ?_
          rintro e w16 ⟨rfl, hb16⟩
          have HB116 := hidE (below_on HB115.out hb16)
          have HB716 := hidE (below_on HB715.out hb16)
          clear hb16 HN
          obtain ⟨hbw16, a0, a1, a2, a3, a4, a5⟩ := HX.out w16 HB116.out
          obtain ⟨⟨m0, m1, m2, m3, m4, m5⟩, hsp16, hlt16⟩ := HM.out w16 HB716.out
          have HKP := hidE (kept_any A w6.heap.size _ _ w16 (Nat.le_of_lt hlt16) hsp16 ((HL.out w16 hbw16).1.mono HD6.out))
          have HBW16 := hidE hbw16
          clear hsp16 hlt16 hbw16
          go_wp2_with fail
          refine HKP.out.mono ?_
          rintro e w17 ⟨rfl, hb17⟩
          have HBW17 := hidE (below_on HBW16.out hb17)
          clear hb17 a0 a1 a2 a3 a4 a5 m0 m1 m2 m3 m4 m5 HKP
          go_wp2_with fail
          refine (HWK.out w17 HBW17.out).mono ?_
          rintro e w18 ⟨rfl, hb18⟩
          have HF := hidE (below_on HBW17.out hb18)
          clear hb18
          go_wp2_with fail
          go_ret
          exact ⟨rfl, HF.out⟩
    · have hsi : (2000 : Int) < s.size := by omega
      go_wp2_with fail
      refine (HWK.out w5 HBW5.out).mono ?_
      rintro e w6 ⟨rfl, hb6⟩
      have HF := hidE (below_on HBW5.out hb6)
      clear hb6
      go_wp2_with fail
      go_ret
      exact ⟨rfl, HF.out⟩
  · have hd : decide (smalls [A] ≤ 2000) = false := by simp [hsm]
    rw [hd]
    clear hsm hd
    go_wp2_with fail
    refine (HWK.out w5 HBW5.out).mono ?_
    rintro e w6 ⟨rfl, hb6⟩
    have HF := hidE (below_on HBW5.out hb6)
    clear hb6
    go_wp2_with fail
    go_ret
    exact ⟨rfl, HF.out⟩
end Go.Proofs.YtbpmhgcjefpigaaGreatDoor

namespace Go.Proofs.YtbpmhgcjefpigaaGreatDoor
open Go.ChangeShapes Go.WideShapes Go.ChangeAt Go.RowKit Go.Shelf Go.Deep
set_option linter.unusedVariables false

theorem cells26 : Tryz.prog.cellsOf 26 = 6 := by kernel_rfl
theorem cells24 : Tryz.prog.cellsOf 24 = 1 := by kernel_rfl
theorem cells23 : Tryz.prog.cellsOf 23 = 1 := by kernel_rfl
theorem cells22 : Tryz.prog.cellsOf 22 = 1 := by kernel_rfl
theorem cells9 : Tryz.prog.cellsOf 9 = 1 := by kernel_rfl
theorem cells4 : Tryz.prog.cellsOf 4 = 1 := by kernel_rfl
theorem cells2 : Tryz.prog.cellsOf 2 = 1 := by kernel_rfl
theorem bytes26 : Tryz.prog.bytesOf 26 = 88 := by kernel_rfl
theorem bytes9 : Tryz.prog.bytesOf 9 = 16 := by kernel_rfl

section
variable {H : Type} {enc : TypeId × Value → H} {W : World}

theorem weightsAll_mem {e : TypeId} {d : DataW H} : ∀ {l : List (DataW H)}, d ∈ l → ∀ {x : Nat}, x ∈ d.weights Tryz.prog e → x ∈ DataW.weightsAll Tryz.prog e l
  | a :: r, h, x, hx => by
    rw [DataW.weightsAll, List.mem_append]
    rcases List.mem_cons.1 h with rfl | h
    · exact .inl hx
    · exact .inr (weightsAll_mem h hx)

theorem kids_of {B bl : Nat} {w : World} : ∀ (l : List Tree) (off : Nat), (∀ (i : Nat) (t : Tree), l[i]? = some t → ∃ v0 v1 v2 v3 v4 v5, (w.cell? ⟨bl, off + i * 6, none⟩ = some v0 ∧ w.cell? ⟨bl, off + i * 6 + 1, none⟩ = some v1 ∧ w.cell? ⟨bl, off + i * 6 + 2, none⟩ = some v2 ∧ w.cell? ⟨bl, off + i * 6 + 3, none⟩ = some v3 ∧
      w.cell? ⟨bl, off + i * 6 + 4, none⟩ = some v4 ∧ w.cell? ⟨bl, off + i * 6 + 5, none⟩ = some v5) ∧ Lies B w (.agg #[v0, v1, v2, v3, v4, v5]) t) → KidsLie B w bl off l
  | [], off, h => by simp only [KidsLie]
  | t :: l, off, h => by
    rw [KidsLie]
    refine ⟨?_, kids_of l (off + 6) fun i u hu => ?_⟩
    · have := h 0 t rfl
      simpa using this
    · have := h (i + 1) u (by simpa using hu)
      have e : off + (i + 1) * 6 = off + 6 + i * 6 := by omega
      rwa [e] at this

theorem sane_of : ∀ (l : List Tree), (∀ t ∈ l, Sane t) → SaneL l
  | [], _ => by simp only [SaneL]
  | t :: l, h => by
    rw [SaneL]
    exact ⟨h t (by simp), sane_of l fun u hu => h u (by simp [hu])⟩

/-- What is said of a value that is read. -/
def Opens (enc : TypeId × Value → H) (W : World) (fuel : Nat) : Prop := ∀ (cs : List Value) (d : DataW H) (p : List MemPlace), DataW.trod enc Tryz.prog W 0 (fun _ => true) true fuel 26 cs = some (d, p) →
  (∀ x ∈ d.weights Tryz.prog 26, x ≤ reachBytes) → ∃ T, Lies W.heap.size W (.agg cs.toArray) T ∧ Sane T

theorem open_list_value {fuel : Nat} (ih : ∀ m, m < fuel → Opens enc W m) {cs : List Value} {d : DataW H} {p : List MemPlace} (h : DataW.trod enc Tryz.prog W 0 (fun _ => true) true fuel 24 cs = some (d, p))
    (hw : ∀ x ∈ d.weights Tryz.prog 24, x ≤ reachBytes) :
    ∃ (la : Option Addr) (lc : Nat) (ts : List Tree), cs = [.slice la ts.length lc] ∧ ts.length ≤ lc ∧ lc ≤ maxLen ∧ ts.length ≤ 140737488355328 ∧ ListLies W.heap.size W la ts ∧ SaneL ts := by
  rcases DataW.trod_slice Tryz.underlying24 h with ⟨rfl, _⟩ | ⟨a, len, cap, elems, rest, n, hfu, rfl, hx, _, hl, hm, hlen, hel, _, _⟩
  · exact ⟨none, 0, [], rfl, Nat.le_refl _, by unfold maxLen; omega, by simp, .inl rfl, by simp only [SaneL]⟩
  · simp only [Prod.mk.injEq] at hx
    obtain ⟨rfl, _⟩ := hx
    simp only [DataW.weights, Tryz.underlying24, List.mem_cons, List.mem_append] at hw
    have hsz : len ≤ 140737488355328 := by
      have := hw _ (.inl rfl)
      rw [bytes26, List.length_map, List.length_map, hlen] at this
      unfold reachBytes at this
      omega
    have hc : ∀ i, i < len → ∃ t : Tree, (∃ v0 v1 v2 v3 v4 v5, (W.cell? ((a.add (i * 6)).add 0) = some v0 ∧ W.cell? ((a.add (i * 6)).add 1) = some v1 ∧ W.cell? ((a.add (i * 6)).add 2) = some v2 ∧ W.cell? ((a.add (i * 6)).add 3) = some v3 ∧ W.cell? ((a.add (i * 6)).add 4) = some v4 ∧ W.cell? ((a.add (i * 6)).add 5) = some v5) ∧
        Lies W.heap.size W (.agg #[v0, v1, v2, v3, v4, v5]) t) ∧ Sane t := by
      intro i hi
      have key := hel i hi
      rw [cells26, List.getElem?_eq_getElem (by omega)] at key
      obtain ⟨cs', h1, h2⟩ := Option.bind_eq_some_iff.1 key
      obtain ⟨_, hl6, hcell⟩ := World.cells?_some h1
      match cs', hl6 with
      | [v0, v1, v2, v3, v4, v5], _ =>
        obtain ⟨T, hT, hS⟩ := ih n (by omega) _ _ _ h2 (fun x hx => hw x (.inr (.inl (weightsAll_mem (List.mem_map.2 ⟨_, List.getElem_mem (by omega), rfl⟩) hx))))
        exact ⟨T, ⟨v0, v1, v2, v3, v4, v5, ⟨hcell 0 (by omega), hcell 1 (by omega), hcell 2 (by omega), hcell 3 (by omega), hcell 4 (by omega), hcell 5 (by omega)⟩, hT⟩, hS⟩
    have : Inhabited Tree := ⟨.mk 0 false 0 ⟨#[]⟩ [] []⟩
    obtain ⟨f, hf⟩ := choose_lt hc
    have hlt : ((List.range len).map f).length = len := by simp
    refine ⟨some a, cap, (List.range len).map f, by rw [hlt], by omega, hm, by omega, ?_, ?_⟩
    · by_cases h0 : len = 0
      · left; subst h0; rfl
      · right
        obtain ⟨bl, off, spot⟩ := a
        obtain ⟨v0, _, _, _, _, _, ⟨c0, _⟩, _⟩ := (hf 0 (by omega)).1
        have hspot : spot = none := by simpa [Addr.add] using World.cell?_spot c0
        subst hspot
        refine ⟨bl, off, rfl, lt_of_cell c0, kids_of _ _ ?_⟩
        intro i t hit
        rw [List.getElem?_map] at hit
        obtain ⟨j, hj, rfl⟩ := Option.map_eq_some_iff.1 hit
        rw [List.getElem?_eq_some_iff] at hj
        obtain ⟨hji, hjj⟩ := hj
        simp only [List.length_range, List.getElem_range] at hji hjj
        subst hjj
        obtain ⟨v0, v1, v2, v3, v4, v5, ⟨c0, c1, c2, c3, c4, c5⟩, hv⟩ := (hf _ hji).1
        rw [add_plain, add_plain] at c0 c1 c2 c3 c4 c5
        exact ⟨v0, v1, v2, v3, v4, v5, ⟨c0, c1, c2, c3, c4, c5⟩, hv⟩
    · refine sane_of _ fun t ht => ?_
      obtain ⟨j, hj, rfl⟩ := List.mem_map.1 ht
      exact (hf j (List.mem_range.1 hj)).2

set_option maxRecDepth 100000 in
theorem open_value : ∀ fuel, Opens enc W fuel := by
  intro fuel
  induction fuel using Nat.strongRecOn with
  | _ fuel ih =>
    intro cs d p h hw
    obtain ⟨xs, n, hfu, hx, hl, hlen, hf⟩ := DataW.trod_struct Tryz.underlying26 h
    rw [cells26] at hl
    match cs, hl with
    | [v0, v1, v2, v3, v4, v5], _ =>
      match xs, hlen with
      | [y0, y1, y2, y3, y4, y5], _ =>
        simp only [Prod.mk.injEq] at hx
        obtain ⟨rfl, _⟩ := hx
        have f0 : DataW.trod enc Tryz.prog W 0 (fun _ => true) true n 22 [v0] = some y0 := by simpa [cells22] using hf 0 { name := "Kind", type := 22, offset := 0, embedded := false, tag := "", pkgPath := "", byteOffset := 0 } rfl
        have f1 : DataW.trod enc Tryz.prog W 0 (fun _ => true) true n 4 [v1] = some y1 := by simpa [cells4] using hf 1 { name := "Bool", type := 4, offset := 1, embedded := false, tag := "", pkgPath := "", byteOffset := 8 } rfl
        have f2 : DataW.trod enc Tryz.prog W 0 (fun _ => true) true n 2 [v2] = some y2 := by simpa [cells2] using hf 2 { name := "Int", type := 2, offset := 2, embedded := false, tag := "", pkgPath := "", byteOffset := 16 } rfl
        have f3 : DataW.trod enc Tryz.prog W 0 (fun _ => true) true n 9 [v3] = some y3 := by simpa [cells9] using hf 3 { name := "Text", type := 9, offset := 3, embedded := false, tag := "", pkgPath := "", byteOffset := 24 } rfl
        have f4 : DataW.trod enc Tryz.prog W 0 (fun _ => true) true n 23 [v4] = some y4 := by simpa [cells23] using hf 4 { name := "Keys", type := 23, offset := 4, embedded := false, tag := "", pkgPath := "", byteOffset := 40 } rfl
        have f5 : DataW.trod enc Tryz.prog W 0 (fun _ => true) true n 24 [v5] = some y5 := by simpa [cells24] using hf 5 { name := "List", type := 24, offset := 5, embedded := false, tag := "", pkgPath := "", byteOffset := 64 } rfl
        obtain ⟨k, e0, _, _⟩ := DataW.trod_int Tryz.underlying22 f0
        obtain ⟨b, e1, _⟩ := DataW.trod_bool Tryz.underlying4 f1
        obtain ⟨m, e2, _, _⟩ := DataW.trod_int Tryz.underlying2 f2
        obtain ⟨s, e3, e3', hs⟩ := DataW.trod_string Tryz.underlying9 f3
        simp only [List.cons.injEq, and_true] at e0 e1 e2 e3
        subst e0 e1 e2 e3
        have hwe : ∀ x, (x ∈ y3.1.weights Tryz.prog 9 ∨ x ∈ y4.1.weights Tryz.prog 23 ∨ x ∈ y5.1.weights Tryz.prog 24) → x ≤ reachBytes := by
          intro x hx
          apply hw x
          simp only [DataW.weights, Tryz.underlying26, List.map_cons, List.map_nil, DataW.weightsEach, List.mem_append]
          rcases hx with h | h | h
          · exact .inr (.inr (.inr (.inl h)))
          · exact .inr (.inr (.inr (.inr (.inl h))))
          · exact .inr (.inr (.inr (.inr (.inr (.inl h)))))
        have hs2 : s.size ≤ 140737488355328 := by
          have := hwe s.size (.inl (by rw [e3']; simp [DataW.weights]))
          unfold reachBytes at this
          omega
        obtain ⟨la, lc, ts, e5, g1, g2, g3, g4, g5⟩ := open_list_value (fun m hm => ih m (by omega)) f5 (fun x hx => hwe x (.inr (.inr hx)))
        simp only [List.cons.injEq, and_true] at e5
        subst e5
        rcases open_strings Tryz.underlying23 Tryz.underlying9 cells9 f4 with ⟨e4, _⟩ | ⟨a, len, cap, ss, e4, _, hlc, hcm, hss, hx4, hcell, hsz⟩
        · simp only [List.cons.injEq, and_true] at e4
          subst e4
          refine ⟨.mk k b m s [] ts, ?_, ?_⟩
          · rw [Lies]
            exact ⟨none, 0, la, lc, rfl, ⟨hs, by simp, by unfold maxLen; omega, g1, g2⟩, .inl rfl, g4⟩
          · rw [Sane]
            exact ⟨hs2, by simp, g3, by simp, g5⟩
        · simp only [List.cons.injEq, and_true] at e4
          subst e4
          simp only [if_true] at hss
          have e : (ss.take len).length = len := by simp; omega
          have hwk : len ≤ 140737488355328 ∧ ∀ y ∈ ss.take len, y.size ≤ 140737488355328 := by
            rw [hx4] at hwe
            simp only [DataW.weights, Tryz.underlying23, List.mem_cons, List.mem_append] at hwe
            refine ⟨?_, fun y hy => ?_⟩
            · have := hwe _ (.inr (.inl (.inl rfl)))
              rw [bytes9] at this
              unfold reachBytes strs at this
              simp only [List.length_map, e] at this
              omega
            · have := hwe y.size (.inr (.inl (.inr (.inl (weightsAll_mem (d := .lit (.string y.data.toList)) (by unfold strs; exact List.mem_map.2 ⟨y, hy, rfl⟩) (by simp [DataW.weights]))))))
              unfold reachBytes at this
              omega
          refine ⟨.mk k b m s (ss.take len) ts, ?_, ?_⟩
          · rw [Lies]
            refine ⟨some a, cap, la, lc, by rw [e], ⟨hs, by omega, hcm, g1, g2⟩, ?_, g4⟩
            by_cases h0 : len = 0
            · left; subst h0; simp
            · right
              obtain ⟨bk, off, spot⟩ := a
              have c0 := hcell 0 (by omega)
              have hspot : spot = none := by simpa [Addr.add] using World.cell?_spot c0
              subst hspot
              refine ⟨bk, off, rfl, lt_of_cell c0, fun i hi => ?_⟩
              rw [e] at hi
              have hg : (ss.take len).getD i ⟨#[]⟩ = ss.getD i ByteArray.empty := by
                rw [List.getD_eq_getElem?_getD, List.getElem?_take_of_lt hi, List.getD_eq_getElem?_getD]; rfl
              rw [hg, ← add_plain]
              refine ⟨hcell i (by omega), ?_⟩
              rw [List.getD_eq_getElem?_getD, List.getElem?_eq_getElem (by omega)]
              exact hsz _ (List.getElem_mem _)
          · rw [Sane]
            exact ⟨hs2, by omega, g3, hwk.2, g5⟩
end
end Go.Proofs.YtbpmhgcjefpigaaGreatDoor

