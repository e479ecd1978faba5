/- Values told, whatever they are. Text and Quote, whatever the value. -/
import Derived.Test.YthfilnflgahcjaaGreatDoorJoin31
import Derived.Test.YthfilnflgahcjaaGreatDoorTellR11
import Derived.Test.YthfilnflgahcjaaGreatDoorJoin17
import Derived.Lib.ItoaLen
namespace Go.Proofs.YthfilnflgahcjaaGreatDoor
open Go.RowKit Go.Shelf Go.WideShapes Go.Lib
set_option linter.unusedVariables false
set_option linter.unusedSimpArgs false
mutual
/-- Its numbers are numbers of 64 bits. -/
def Ranged : Tree → Prop
  | .mk k b n s ks ts => (-9223372036854775808 ≤ n ∧ n ≤ 9223372036854775807) ∧ RangedL ts
def RangedL : List Tree → Prop
  | [] => True
  | t :: ts => Ranged t ∧ RangedL ts
end
theorem RangedL.mem : ∀ {ts : List Tree} {t : Tree}, RangedL ts → t ∈ ts → Ranged t
  | u :: us, t, h, hm => by
    simp only [RangedL] at h
    rcases List.mem_cons.1 hm with rfl | hm
    · exact h.1
    · exact RangedL.mem h.2 hm
theorem keyBytes_mem : ∀ {ks : List ByteArray} {x : ByteArray}, x ∈ ks → (x.size : Int) ≤ keyBytes ks
  | k :: r, x, h => by
    have := keyBytes_nonneg r
    simp only [keyBytes, List.map_cons, List.sum_cons] at this ⊢
    rcases List.mem_cons.1 h with rfl | h
    · omega
    · have h2 := keyBytes_mem h
      simp only [keyBytes] at h2
      omega
theorem may_keys {k : Int} {b : Bool} {n : Int} {s : ByteArray} {ks : List ByteArray} {ts : List Tree} (h : mayT (.mk k b n s ks ts) = true) (ht : (Tree.mk k b n s ks ts).total ≤ 1000000) : k = 5 → ks.length = ts.length ∧ ∀ x ∈ ks, KeyOkG x := by
  intro k5
  simp only [mayT, Bool.and_eq_true] at h
  obtain ⟨h1, h2, _⟩ := h
  refine ⟨?_, fun x hx => ?_⟩
  · simp only [badB, k5] at h1
    simp at h1
    omega
  · obtain ⟨i, hi, rfl⟩ := List.mem_iff_getElem.1 hx
    refine ⟨?_, ?_, trivial⟩
    · have h3 := keyBytes_mem hx
      have h4 := totalL_len ts
      simp only [Tree.total] at ht
      omega
    · have h3 : risesAt ks i = true := by
        unfold risingB at h2
        exact List.all_eq_true.1 h2 i (List.mem_range.2 hi)
      simp only [risesAt, Bool.and_eq_true] at h3
      have h4 := h3.1
      rwa [List.getD_eq_getElem?_getD, List.getElem?_eq_getElem hi] at h4
set_option maxRecDepth 100000 in
set_option maxHeartbeats 4000000 in
theorem tell_anyG : ∀ T, mayT T = true → Ranged T → T.total ≤ 1000000 → TellOkG T := by
  refine Tree.ind ?_
  intro k b nn s ks ts ih hmay hran htot base n v xs tv w hown hB hl htb hn
  have h5 := may_keys hmay htot
  have hmk : ∀ t ∈ ts, mayT t = true := by
    simp only [mayT, Bool.and_eq_true] at hmay
    have := hmay.2.2
    rw [mayL_all] at this
    exact List.all_eq_true.1 this
  have hI : IntOk nn := by
    simp only [Ranged] at hran
    exact intOk_all nn hran.1.1 hran.1.2
  have hil : (itoa nn).length ≤ 21 := by
    simp only [Ranged] at hran
    exact itoa_length_le nn hran.1.1 hran.1.2
  have hsz : s.size ≤ 1000000 := by
    have h1 := keyBytes_nonneg ks
    have h2 := totalL_len ts
    simp only [Tree.total] at htot
    omega
  have HALL : Hid (∀ t ∈ ts, TellOkG t) := fun t ht => ih t ht (hmk t ht) (by simp only [Ranged] at hran; exact hran.2.mem ht) (by
    have h1 := keyBytes_nonneg ks
    have h2 := totalL_mem ht
    simp only [Tree.total] at htot
    omega)
  have HL := hidE hl
  simp only [Lies] at hl
  obtain ⟨ka, kc, la, lc, rfl, ⟨hs1, hs2, hs3, hs4, hs5⟩, -, -⟩ := hl
  obtain ⟨W1, hW1⟩ : ∃ W1, w.alloc (.cells #[.int .i64 k, .bool b, .int .i64 nn, .string s, .slice ka ks.length kc, .slice la ts.length lc] 88) = W1 := ⟨_, rfl⟩
  have hb1 : Below w.heap.size w W1 := hW1 ▸ (Below.refl _ _).alloc (Nat.le_refl _) _
  have hq1 : W1.heap[w.heap.size]? = some (.cells #[.int .i64 k, .bool b, .int .i64 nn, .string s, .slice ka ks.length kc, .slice la ts.length lc] 88 (0, 0)) := hW1 ▸ World.alloc_heap_new _ _
  have hown1 := own_below hown hb1
  have hB1 : base ≤ W1.heap.size := Nat.le_trans hB hb1.size
  have HX := hidE (And.intro hb1 (And.intro hq1 (And.intro hown1 (And.intro hB1 (htb.on (hb1.mono hB))))))
  have HW1 := hidE hW1
  have HN := hidE hn
  have HI := hidE hI
  have H5 := hidE h5
  clear hb1 hq1 hown1 hB1 hW1 hn h5 ih htb hown hmay hran htot hmk hI
  unfold maxLen at hs1 hs3 hs5
  go_enter Tryz.func152, Tryz.ntmps152
  by_cases k1 : k = 1
  · have HB : Hid (tellG (.mk k b nn s ks ts) = boolBytes b) := by show _ = _; rw [tellG, if_pos k1]
    subst k1
    go_wp2_with fail
    rw [HW1.out]
    refine (appendBool_any b base n v xs W1 HX.out.2.2.1 HX.out.2.2.2.1 (by have := HN.out; omega)).mono ?_
    rintro e w' ⟨v', rfl, ht⟩
    have HT : Hid (Told base n xs v w (tellG (.mk 1 b nn s ks ts)) v' w') := by show Told _ _ _ _ _ _ _ _; rw [HB.out]; exact ht.from HX.out.1
    clear ht
    go_wp2_with fail
    go_ret
    exact ⟨_, rfl, HT.out⟩
  have e1 : (k == 1) = false := by simpa using k1
  by_cases k2 : k = 2
  · have HB : Hid (tellG (.mk k b nn s ks ts) = itoa nn) := by show _ = _; rw [tellG, if_neg k1, if_pos k2]
    clear k1 e1 H5
    subst k2
    go_wp2_with fail
    rw [HW1.out]
    refine (HI.out base n v xs W1 HX.out.2.2.1 HX.out.2.2.2.1 (by have := HN.out; omega) HX.out.2.2.2.2.tb).mono ?_
    rintro e w' ⟨v', rfl, ht⟩
    have HT : Hid (Told base n xs v w (tellG (.mk 2 b nn s ks ts)) v' w') := by show Told _ _ _ _ _ _ _ _; rw [HB.out]; exact ht.from HX.out.1
    clear ht
    go_wp2_with fail
    go_ret
    exact ⟨_, rfl, HT.out⟩
  have e2 : (k == 2) = false := by simpa using k2
  by_cases k3 : k = 3
  · have HB : Hid (tellG (.mk k b nn s ks ts) = quoteB s) := by show _ = _; rw [tellG, if_neg k1, if_neg k2, if_pos k3]
    clear k1 e1 k2 e2 H5 HI
    subst k3
    go_wp2_with fail
    rw [HW1.out]
    refine (quote_any s (by omega) base n v xs W1 HX.out.2.2.1 HX.out.2.2.2.1 (by have := HN.out; omega)).mono ?_
    rintro e w' ⟨v', rfl, ht⟩
    have HT : Hid (Told base n xs v w (tellG (.mk 3 b nn s ks ts)) v' w') := by show Told _ _ _ _ _ _ _ _; rw [HB.out]; exact ht.from HX.out.1
    clear ht
    go_wp2_with fail
    go_ret
    exact ⟨_, rfl, HT.out⟩
  have e3 : (k == 3) = false := by simpa using k3
  by_cases k4 : k = 4
  · have HB : Hid (tellG (.mk k b nn s ks ts) = [91] ++ tellAllG (decide (k = 5)) ks 0 ts ++ [93]) := by show _ = _; rw [tellG, if_neg k1, if_neg k2, if_neg k3, if_pos k4]; simp [k4]
    have e4 : (k == 4) = true := by simp [k4]
    have HK1 := hidE (And.intro k1 (And.intro k2 (And.intro k3 k4)))
    clear k1 k2 k3 k4 HI
    go_upto_region 9 with fail
    rw [HW1.out]
    show (Code.region 9 RT9 true).wp _ _ _ _
    have hlen := HN.out
    rw [HB.out] at hlen
    simp only [List.length_append, List.length_cons, List.length_nil] at hlen
    refine regionT9 w.heap.size base n v xs k b nn s ka ks.length kc la ts.length lc (tellAllG (decide (k = 5)) ks 0 ts) W1 _ _ ⟨rfl, rfl, rfl⟩ ⟨HX.out.2.1, HX.out.2.2.1, by omega, HX.out.2.2.2.1, fun u xs' m w2 ho hb2 hbl hm => ?_⟩ ?_
    · exact tellAll_anyG k b nn s ks ts HALL.out H5.out base m u xs' _ w2 ho hb2 ((HL.out.below ((HX.out.1.mono hB).trans hbl))) (HX.out.2.2.2.2.on hbl) (by omega)
    intro c v' w' hS hv ht
    have hl : c = ⟨#[v, Value.agg #[Value.int IntKind.i64 k, Value.bool b, Value.int IntKind.i64 nn, Value.string s, Value.slice ka ks.length kc, Value.slice la ts.length lc], undef, Value.pointer (some { block := w.heap.size, off := 0 }), c.eval (.tmp 4), Value.pointer (some { block := w.heap.size, off := 0 }), Value.int IntKind.i64 k, Value.bool false, Value.bool false, undef, undef, undef, undef, Value.bool false, Value.bool false, undef, undef, undef, undef, Value.bool false, Value.bool false, undef, undef, undef, undef, Value.bool true, Value.bool true, c.eval (.tmp 27), c.eval (.tmp 28), c.eval (.tmp 29), c.eval (.tmp 30), c.eval (.tmp 31), c.eval (.tmp 32), c.eval (.tmp 33), undef, undef, undef, undef, undef, undef, undef, undef, undef, undef, undef, undef, undef, undef, undef, undef, undef, undef, undef, undef, undef, undef, undef, undef, undef, undef, undef, undef, undef], []⟩ := (same_lay hS).trans (by kernel_rfl)
    rw [hv] at hl
    generalize c.eval (.tmp 27) = z27 at hl
    generalize c.eval (.tmp 28) = z28 at hl
    generalize c.eval (.tmp 29) = z29 at hl
    generalize c.eval (.tmp 30) = z30 at hl
    generalize c.eval (.tmp 31) = z31 at hl
    generalize c.eval (.tmp 32) = z32 at hl
    generalize c.eval (.tmp 33) = z33 at hl
    clear hS hv
    subst hl
    have HT : Hid (Told base n xs v w (tellG (.mk k b nn s ks ts)) v' w') := by show Told _ _ _ _ _ _ _ _; rw [HB.out]; exact ht.from HX.out.1
    clear ht
    go_wp2_with fail
    go_ret
    exact ⟨_, rfl, HT.out⟩
  have e4 : (k == 4) = false := by simpa using k4
  by_cases k5 : k = 5
  · have HB : Hid (tellG (.mk k b nn s ks ts) = [123] ++ tellAllG (decide (k = 5)) ks 0 ts ++ [125]) := by show _ = _; rw [tellG, if_neg k1, if_neg k2, if_neg k3, if_neg k4, if_pos k5]; simp [k5]
    have e5 : (k == 5) = true := by simp [k5]
    have HK1 := hidE (And.intro k1 (And.intro k2 (And.intro k3 (And.intro k4 k5))))
    clear k1 k2 k3 k4 k5 HI
    go_upto_region 11 with fail
    rw [HW1.out]
    show (Code.region 11 RT11 true).wp _ _ _ _
    have hlen := HN.out
    rw [HB.out] at hlen
    simp only [List.length_append, List.length_cons, List.length_nil] at hlen
    refine regionT11 w.heap.size base n v xs k b nn s ka ks.length kc la ts.length lc (tellAllG (decide (k = 5)) ks 0 ts) W1 _ _ ⟨rfl, rfl, rfl⟩ ⟨HX.out.2.1, HX.out.2.2.1, by omega, HX.out.2.2.2.1, fun u xs' m w2 ho hb2 hbl hm => ?_⟩ ?_
    · exact tellAll_anyG k b nn s ks ts HALL.out H5.out base m u xs' _ w2 ho hb2 ((HL.out.below ((HX.out.1.mono hB).trans hbl))) (HX.out.2.2.2.2.on hbl) (by omega)
    intro c v' w' hS hv ht
    have hl : c = ⟨#[v, Value.agg #[Value.int IntKind.i64 k, Value.bool b, Value.int IntKind.i64 nn, Value.string s, Value.slice ka ks.length kc, Value.slice la ts.length lc], undef, Value.pointer (some { block := w.heap.size, off := 0 }), c.eval (.tmp 4), Value.pointer (some { block := w.heap.size, off := 0 }), Value.int IntKind.i64 k, Value.bool false, Value.bool false, undef, undef, undef, undef, Value.bool false, Value.bool false, undef, undef, undef, undef, Value.bool false, Value.bool false, undef, undef, undef, undef, Value.bool false, Value.bool false, undef, undef, undef, undef, undef, undef, undef, Value.bool true, Value.bool true, c.eval (.tmp 36), c.eval (.tmp 37), c.eval (.tmp 38), c.eval (.tmp 39), c.eval (.tmp 40), c.eval (.tmp 41), c.eval (.tmp 42), undef, undef, undef, undef, undef, undef, undef, undef, undef, undef, undef, undef, undef, undef, undef, undef, undef, undef, undef, undef], []⟩ := (same_lay hS).trans (by kernel_rfl)
    rw [hv] at hl
    generalize c.eval (.tmp 36) = z36 at hl
    generalize c.eval (.tmp 37) = z37 at hl
    generalize c.eval (.tmp 38) = z38 at hl
    generalize c.eval (.tmp 39) = z39 at hl
    generalize c.eval (.tmp 40) = z40 at hl
    generalize c.eval (.tmp 41) = z41 at hl
    generalize c.eval (.tmp 42) = z42 at hl
    clear hS hv
    subst hl
    have HT : Hid (Told base n xs v w (tellG (.mk k b nn s ks ts)) v' w') := by show Told _ _ _ _ _ _ _ _; rw [HB.out]; exact ht.from HX.out.1
    clear ht
    go_wp2_with fail
    go_ret
    exact ⟨_, rfl, HT.out⟩
  have e5 : (k == 5) = false := by simpa using k5
  by_cases k6 : k = 6
  · have HB : Hid (tellG (.mk k b nn s ks ts) = [60, 110] ++ itoa nn ++ [62]) := by show _ = _; rw [tellG, if_neg k1, if_neg k2, if_neg k3, if_neg k4, if_neg k5, if_pos k6]
    have e6 : (k == 6) = true := by simp [k6]
    have HK1 := hidE (And.intro k1 (And.intro k2 (And.intro k3 (And.intro k4 (And.intro k5 k6)))))
    clear k1 k2 k3 k4 k5 k6 H5
    go_upto_region 13 with fail
    rw [HW1.out]
    show (Code.region 13 RN13 true).wp _ _ _ _
    refine regionN13 w.heap.size base n v xs k b nn s ka ks.length kc la ts.length lc W1 _ _ ⟨rfl, rfl, rfl⟩ ⟨HX.out.2.2.1, HX.out.2.2.2.1, by have := HN.out; omega, hil, HX.out.2.1, fun u xs' m w2 ho hb2 hbl hm => HI.out base m u xs' w2 ho hb2 (by have h1 := HN.out; rw [HB.out] at h1; simp only [List.length_append, List.length_cons, List.length_nil] at h1; omega) (HX.out.2.2.2.2.on hbl).tb⟩ ?_
    intro c w' hS ht
    have HT : Hid (Told base n xs v w (tellG (.mk k b nn s ks ts)) (c.eval (.tmp 4)) w') := by
      show Told _ _ _ _ _ _ _ _
      rw [HB.out]
      have h2 := ht.from HX.out.1
      have h3 : (chainN13 w.heap.size base n v xs k b nn s ka ks.length kc la ts.length lc W1).sofar 4 = [60, 110] ++ itoa nn ++ [62] := by simp [chainN13, Chain.sofar]
      rw [h3] at h2
      exact h2
    have hl : c = ⟨#[v, Value.agg #[Value.int IntKind.i64 k, Value.bool b, Value.int IntKind.i64 nn, Value.string s, Value.slice ka ks.length kc, Value.slice la ts.length lc], undef, Value.pointer (some { block := w.heap.size, off := 0 }), c.eval (.tmp 4), Value.pointer (some { block := w.heap.size, off := 0 }), Value.int IntKind.i64 k, Value.bool false, Value.bool false, undef, undef, undef, undef, Value.bool false, Value.bool false, undef, undef, undef, undef, Value.bool false, Value.bool false, undef, undef, undef, undef, Value.bool false, Value.bool false, undef, undef, undef, undef, undef, undef, undef, Value.bool false, Value.bool false, undef, undef, undef, undef, undef, undef, undef, Value.bool true, Value.bool true, c.eval (.tmp 45), c.eval (.tmp 46), c.eval (.tmp 47), c.eval (.tmp 48), c.eval (.tmp 49), c.eval (.tmp 50), c.eval (.tmp 51), undef, undef, undef, undef, undef, undef, undef, undef, undef, undef, undef], []⟩ := (same_lay hS).trans (by kernel_rfl)
    generalize c.eval (.tmp 4) = v' at hl HT
    generalize c.eval (.tmp 45) = z45 at hl
    generalize c.eval (.tmp 46) = z46 at hl
    generalize c.eval (.tmp 47) = z47 at hl
    generalize c.eval (.tmp 48) = z48 at hl
    generalize c.eval (.tmp 49) = z49 at hl
    generalize c.eval (.tmp 50) = z50 at hl
    generalize c.eval (.tmp 51) = z51 at hl
    clear hS ht
    subst hl
    go_wp2_with fail
    go_ret
    exact ⟨_, rfl, HT.out⟩
  have e6 : (k == 6) = false := by simpa using k6
  by_cases k7 : k = 7
  · have HB : Hid (tellG (.mk k b nn s ks ts) = [60, 114] ++ itoa nn ++ [62]) := by show _ = _; rw [tellG, if_neg k1, if_neg k2, if_neg k3, if_neg k4, if_neg k5, if_neg k6, if_pos k7]
    have e7 : (k == 7) = true := by simp [k7]
    have HK1 := hidE (And.intro k1 (And.intro k2 (And.intro k3 (And.intro k4 (And.intro k5 k7)))))
    clear k1 k2 k3 k4 k5 k7 H5 k6
    go_upto_region 15 with fail
    rw [HW1.out]
    show (Code.region 15 RN15 true).wp _ _ _ _
    refine regionN15 w.heap.size base n v xs k b nn s ka ks.length kc la ts.length lc W1 _ _ ⟨rfl, rfl, rfl⟩ ⟨HX.out.2.2.1, HX.out.2.2.2.1, by have := HN.out; omega, hil, HX.out.2.1, fun u xs' m w2 ho hb2 hbl hm => HI.out base m u xs' w2 ho hb2 (by have h1 := HN.out; rw [HB.out] at h1; simp only [List.length_append, List.length_cons, List.length_nil] at h1; omega) (HX.out.2.2.2.2.on hbl).tb⟩ ?_
    intro c w' hS ht
    have HT : Hid (Told base n xs v w (tellG (.mk k b nn s ks ts)) (c.eval (.tmp 4)) w') := by
      show Told _ _ _ _ _ _ _ _
      rw [HB.out]
      have h2 := ht.from HX.out.1
      have h3 : (chainN15 w.heap.size base n v xs k b nn s ka ks.length kc la ts.length lc W1).sofar 4 = [60, 114] ++ itoa nn ++ [62] := by simp [chainN15, Chain.sofar]
      rw [h3] at h2
      exact h2
    have hl : c = ⟨#[v, Value.agg #[Value.int IntKind.i64 k, Value.bool b, Value.int IntKind.i64 nn, Value.string s, Value.slice ka ks.length kc, Value.slice la ts.length lc], undef, Value.pointer (some { block := w.heap.size, off := 0 }), c.eval (.tmp 4), Value.pointer (some { block := w.heap.size, off := 0 }), Value.int IntKind.i64 k, Value.bool false, Value.bool false, undef, undef, undef, undef, Value.bool false, Value.bool false, undef, undef, undef, undef, Value.bool false, Value.bool false, undef, undef, undef, undef, Value.bool false, Value.bool false, undef, undef, undef, undef, undef, undef, undef, Value.bool false, Value.bool false, undef, undef, undef, undef, undef, undef, undef, Value.bool false, Value.bool false, undef, undef, undef, undef, undef, undef, undef, Value.bool true, Value.bool true, c.eval (.tmp 54), c.eval (.tmp 55), c.eval (.tmp 56), c.eval (.tmp 57), c.eval (.tmp 58), c.eval (.tmp 59), c.eval (.tmp 60), undef, undef], []⟩ := (same_lay hS).trans (by kernel_rfl)
    generalize c.eval (.tmp 4) = v' at hl HT
    generalize c.eval (.tmp 54) = z54 at hl
    generalize c.eval (.tmp 55) = z55 at hl
    generalize c.eval (.tmp 56) = z56 at hl
    generalize c.eval (.tmp 57) = z57 at hl
    generalize c.eval (.tmp 58) = z58 at hl
    generalize c.eval (.tmp 59) = z59 at hl
    generalize c.eval (.tmp 60) = z60 at hl
    clear hS ht
    subst hl
    go_wp2_with fail
    go_ret
    exact ⟨_, rfl, HT.out⟩
  have e7 : (k == 7) = false := by simpa using k7
  have HB : Hid (tellG (.mk k b nn s ks ts) = [110, 117, 108, 108]) := by show _ = _; rw [tellG, if_neg k1, if_neg k2, if_neg k3, if_neg k4, if_neg k5, if_neg k6, if_neg k7]
  clear k1 k2 k3 k4 k5 k6 k7 HI H5
  go_wp2_with (at_builtin; rw [HW1.out]; refine append_text W1 rfl _ _ rfl base n v xs rfl HX.out.2.2.1 ⟨#[110, 117, 108, 108]⟩ rfl (by decide) (by have := HN.out; show n + 4 ≤ _; omega) HX.out.2.2.2.1 ?_; intro v' w' ht)
  have HT : Hid (Told base n xs v w (tellG (.mk k b nn s ks ts)) v' w') := by show Told _ _ _ _ _ _ _ _; rw [HB.out]; exact ht.from HX.out.1
  go_ret
  exact ⟨_, rfl, HT.out⟩
end Go.Proofs.YthfilnflgahcjaaGreatDoor

namespace Go.Proofs.YthfilnflgahcjaaGreatDoor
open Go.RowKit Go.Shelf Go.Lib
set_option linter.unusedVariables false
theorem own_slice {w : World} {base n : Nat} {v : Value} {xs : List Value} (h : w.ownsRow base 5 1 v n xs) (hn : 0 < n) : ∃ g cap, v = .slice (some ⟨g, 0, none⟩) n cap := by
  obtain ⟨_, ⟨h1, h2⟩ | ⟨g, cap, cur, h1, _⟩⟩ := h
  · omega
  · exact ⟨g, cap, h1⟩
theorem own_bytes {w : World} {base g cap : Nat} {bs : List UInt8} (h : w.ownsRow base 5 1 (.slice (some ⟨g, 0, none⟩) bs.length cap) bs.length (byteCells bs)) :
    (convert 116 9 (.slice (some ⟨g, 0, none⟩) bs.length cap)).run Tryz.prog w = .ok (.string ⟨bs.toArray⟩) w := by
  refine run_convert_bytes_back (P := Tryz.prog) w 116 9 5 ⟨g, 0, none⟩ cap bs Tryz.underlying116 Tryz.underlying5 Tryz.underlying9 fun j hj => ?_
  refine h.cells (g := g) rfl j _ ?_
  simp [byteCells, hj]
theorem boolBytes_len (b : Bool) : (boolBytes b).length ≤ 5 := by cases b <;> decide
theorem keyBytes_drop (ks : List ByteArray) (i : Nat) : (((ks.getD i ⟨#[]⟩).size : Int)) + keyBytes (ks.drop (i + 1)) ≤ keyBytes (ks.drop i) := by
  by_cases h : i < ks.length
  · rw [List.drop_eq_getElem_cons h, keyBytes_cons, List.getD_eq_getElem?_getD, List.getElem?_eq_getElem h]
    exact Int.le_refl _
  · rw [List.drop_of_length_le (by omega), List.drop_of_length_le (by omega), List.getD_eq_getElem?_getD, List.getElem?_eq_none (by omega)]
    decide
mutual
theorem tellG_len : ∀ (T : Tree), Ranged T → ((tellG T).length : Int) + 6 ≤ 30 * T.total
  | .mk k b n s ks ts, h => by
    simp only [Ranged] at h
    have h1 := tellAllG_len ts h.2 true ks 0
    have h2 := tellAllG_len ts h.2 false ks 0
    have h3 := boolBytes_len b
    have h4 := itoa_length_le n h.1.1 h.1.2
    have h5 := escAll_len s.data.toList
    have h6 : s.data.toList.length = s.size := rfl
    have h7 := keyBytes_nonneg ks
    have h8 := totalL_len ts
    rw [List.drop_zero] at h1 h2
    rw [tellG]
    simp only [Tree.total, quoteB]
    split
    · omega
    · split
      · omega
      · split
        · simp only [List.length_append, List.length_cons, List.length_nil]; omega
        · split
          · simp only [List.length_append, List.length_cons, List.length_nil]; omega
          · split
            · simp only [List.length_append, List.length_cons, List.length_nil]; omega
            · split
              · simp only [List.length_append, List.length_cons, List.length_nil]; omega
              · split
                · simp only [List.length_append, List.length_cons, List.length_nil]; omega
                · simp only [List.length_cons, List.length_nil]; omega
theorem tellAllG_len : ∀ (ts : List Tree), RangedL ts → ∀ (mp : Bool) (ks : List ByteArray) (i : Nat), ((tellAllG mp ks i ts).length : Int) ≤ 30 * Tree.totalL ts + 2 * keyBytes (ks.drop i)
  | [], _, mp, ks, i => by
    have := keyBytes_nonneg (ks.drop i)
    rw [tellAllG]
    simp only [Tree.totalL, List.length_nil]
    omega
  | t :: ts, h, mp, ks, i => by
    simp only [RangedL] at h
    have h1 := tellG_len t h.1
    have h2 := tellAllG_len ts h.2 mp ks (i + 1)
    have h3 := keyBytes_drop ks i
    have h4 := vname_len (ks.getD i ⟨#[]⟩)
    have h5 : (vnameB (ks.getD i ⟨#[]⟩)).data.toList.length = (vnameB (ks.getD i ⟨#[]⟩)).size := rfl
    have h6 : (if i = 0 then ([] : List UInt8) else [44, 32]).length ≤ 2 := by split <;> simp
    rw [tellAllG]
    simp only [Tree.totalL, List.length_append]
    cases mp
    · simp only [Bool.false_eq_true, if_false, List.length_nil]; omega
    · simp only [if_true, List.length_append, List.length_cons, List.length_nil]; omega
end
theorem tellG_pos : ∀ (T : Tree), 0 < (tellG T).length
  | .mk k b n s ks ts => by
    rw [tellG]
    split
    · cases b <;> decide
    · split
      · unfold itoa; split
        · simp
        · exact digits_pos _
      · split
        · simp [quoteB]
        · split
          · simp
          · split
            · simp
            · split
              · simp
              · split <;> simp
set_option maxHeartbeats 1000000 in
theorem Text_anyG (T : Tree) (hc : checkN T = 0) (hran : Ranged T) (htot : T.total ≤ 1000000) (hm : T.height < 100000000 ∧ bytesOf (T.pre 1) < 4611686018427387904) (B : Nat) (v : Value) (w : World) (hB : B ≤ w.heap.size) (hv : Lies B w v T) (hE : Env2 w) :
    Calls Tryz.prog 127 #[v] w fun e w' => e = .returned (.tuple #[.string ⟨(tellG T).toArray⟩, .int .i64 0]) ∧ Below w.heap.size w w' := by
  have hv0 := hv
  have hmay : mayT T = true := by
    rw [check_eq] at hc
    by_cases h : mayT T = true
    · exact h
    · rw [if_neg h] at hc; omega
  have hpos := tellG_pos T
  have hlen := tellG_len T hran
  have HT := hidE (tell_anyG T hmay hran htot)
  obtain ⟨k, b, nn, s, ks, ts⟩ := T
  simp only [Lies] at hv
  obtain ⟨ka, kc, la, lc, rfl, -⟩ := hv
  obtain ⟨W1, hW1⟩ : ∃ W1, w.alloc (.cells #[.int .i64 k, .bool b, .int .i64 nn, .string s, .slice ka ks.length kc, .slice la ts.length lc] 88) = W1 := ⟨_, rfl⟩
  have hb1 : Below w.heap.size w W1 := hW1 ▸ (Below.refl _ _).alloc (Nat.le_refl _) _
  have hq1 : W1.heap[w.heap.size]? = some (.cells #[.int .i64 k, .bool b, .int .i64 nn, .string s, .slice ka ks.length kc, .slice la ts.length lc] 88 (0, 0)) := hW1 ▸ World.alloc_heap_new _ _
  have hl1 := (hv0.below (hb1.mono hB)).mono (Nat.le_trans hB hb1.size)
  have HC := hidE (check_any _ _ _ hl1 (Tabs.below hE.e.tabs hb1) hm.1 hm.2)
  rw [hc] at HC
  have HX := hidE (And.intro hb1 (And.intro hq1 hl1))
  have HW1 := hidE hW1
  have HP := hidE hE
  have HL : Hid (0 < (tellG (.mk k b nn s ks ts)).length ∧ (tellG (.mk k b nn s ks ts)).length ≤ 1000000000) := ⟨hpos, by omega⟩
  clear hW1 hb1 hq1 hl1 hE hm hv0 hc hpos hlen hmay hran htot
  go_enter Tryz.func127, Tryz.ntmps127
  go_wp2_with fail
  rw [HW1.out]
  refine HC.out.mono ?_
  rintro e w2 ⟨rfl, hb2⟩
  have hb12 : Below w.heap.size w w2 := below_on HX.out.1 hb2
  have hq2 : w2.heap[w.heap.size]? = some (.cells #[.int .i64 k, .bool b, .int .i64 nn, .string s, .slice ka ks.length kc, .slice la ts.length lc] 88 (0, 0)) :=
    (hb2.block w.heap.size (Array.getElem?_eq_some_iff.1 HX.out.2.1).1).trans HX.out.2.1
  have y0 := box_cell hq2 (i := 0) rfl
  have y1 := box_cell hq2 (i := 1) rfl
  have y2 := box_cell hq2 (i := 2) rfl
  have y3 := box_cell hq2 (i := 3) rfl
  have y4 := box_cell hq2 (i := 4) rfl
  have y5 := box_cell hq2 (i := 5) rfl
  have hl2 := (HX.out.2.2.below hb2).mono hb2.size
  have htb : TBG w2.heap.size w2 := ⟨fun w' h => HP.out.below (hb12.trans (h.mono hb12.size)), fun w' h => Lib.tabBelow_of_tabIs HP.out.pow w' (hb12.trans (h.mono hb12.size))⟩
  have HTL := hidE (HT.out w2.heap.size 0 (.slice none 0 0) [] _ w2 (World.ownsRow_nil _ _ _ _) (Nat.le_refl _) hl2 htb (by have := HL.out.2; omega))
  have HB12 := hidE hb12
  clear hb2 hb12 hq2 hl2 htb HC HX HP
  go_wp2_with fail
  refine HTL.out.mono ?_
  rintro e w3 ⟨v', rfl, ht⟩
  have hown := ht.own
  rw [Nat.zero_add, List.nil_append] at hown
  obtain ⟨g, cap, rfl⟩ := own_slice hown HL.out.1
  have hcv := own_bytes hown
  have HF : Hid (Below w.heap.size w w3) := HB12.out.trans ((ht.below (World.ownsRow_nil _ _ _ _) (Nat.le_refl _)).mono HB12.out.size)
  clear ht hown HTL y0 y1 y2 y3 y4 y5
  obtain ⟨bs, hbs⟩ : ∃ bs, tellG (.mk k b nn s ks ts) = bs := ⟨_, rfl⟩
  have HBS := hidE hbs
  rw [hbs] at hcv ⊢
  clear hbs
  go_wp2_with fail
  go_ret2
  exact ⟨by rw [HBS.out]; rfl, HF.out⟩
end Go.Proofs.YthfilnflgahcjaaGreatDoor

