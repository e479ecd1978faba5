/- Values told. The number two, told. Text, at values without texts, nodes and relationships. works: a map is made, told, and held against another one. -/
import Derived.Test.YtbpmhgcjefpigaaGreatDoorTellR9
import Derived.Test.YtbpmhgcjefpigaaGreatDoorTellR11
namespace Go.Proofs.YtbpmhgcjefpigaaGreatDoor
open Go.RowKit Go.Shelf Go.WideShapes Go.Lib
set_option linter.unusedVariables false
set_option linter.unusedSimpArgs false
/-- A number that is told as it should be. -/
def IntOk (i : Int) : Prop := ∀ (base n : Nat) (v : Value) (xs : List Value) (w : World), w.ownsRow base 5 1 v n xs → base ≤ w.heap.size → n ≤ 1000000000 → TB base w →
  Calls Tryz.prog 99 #[v, .int .i64 i, .int .i64 10] w fun e w' => ∃ v', e = .returned v' ∧ Told base n xs v w (itoa i) v' w'
/-- Values without texts, nodes and relationships. -/
inductive Easy : Tree → Prop where
  | mk {k : Int} {b : Bool} {n : Int} {s : ByteArray} {ks : List ByteArray} {ts : List Tree} (h2 : k = 2 → IntOk n) (h3 : k ≠ 3) (h6 : k ≠ 6) (h7 : k ≠ 7) (h5 : k = 5 → ks.length = ts.length ∧ ∀ x ∈ ks, KeyOk x) (ht : ∀ t ∈ ts, Easy t) : Easy (.mk k b n s ks ts)
set_option maxRecDepth 100000 in
set_option maxHeartbeats 4000000 in
theorem tell_any : ∀ T, Easy T → TellOk T := by
  refine Tree.ind ?_
  intro k b nn s ks ts ih hE base n v xs tv w hown hB hl htb hn
  cases hE with
  | mk h2 h3 h6 h7 h5 hts =>
  have HALL := hidE (fun t ht => ih t ht (hts t ht) : ∀ t ∈ ts, TellOk t)
  have HL := hidE hl
  simp only [Lies] at hl
  obtain ⟨ka, kc, la, lc, rfl, ⟨hs1, hs2, hs3, hs4, hs5⟩, -, -⟩ := hl
  obtain ⟨W1, hW1⟩ : ∃ W1, w.alloc (.cells #[.int .i64 k, .bool b, .int .i64 nn, .string s, .slice ka ks.length kc, .slice la ts.length lc] 26) = W1 := ⟨_, rfl⟩
  have hb1 : Below w.heap.size w W1 := hW1 ▸ (Below.refl _ _).alloc (Nat.le_refl _) _
  have hq1 : W1.heap[w.heap.size]? = some (.cells #[.int .i64 k, .bool b, .int .i64 nn, .string s, .slice ka ks.length kc, .slice la ts.length lc] 26 (0, 0)) := hW1 ▸ World.alloc_heap_new _ _
  have hown1 := own_below hown hb1
  have hB1 : base ≤ W1.heap.size := Nat.le_trans hB hb1.size
  have HX := hidE (And.intro hb1 (And.intro hq1 (And.intro hown1 (And.intro hB1 (htb.on (hb1.mono hB))))))
  have HW1 := hidE hW1
  have HN := hidE hn
  have H2 := hidE h2
  have H5 := hidE h5
  have e3 : (k == 3) = false := by simpa using h3
  have e6 : (k == 6) = false := by simpa using h6
  have e7 : (k == 7) = false := by simpa using h7
  clear hb1 hq1 hown1 hB1 hW1 hn h2 h5 ih hts h3 h6 h7 htb hown
  unfold maxLen at hs1 hs3 hs5
  go_enter Tryz.func76, Tryz.ntmps76
  by_cases k1 : k = 1
  · have HB : Hid (tellB (.mk k b nn s ks ts) = boolBytes b) := by show _ = _; rw [tellB, if_pos k1]
    subst k1
    go_wp2_with fail
    rw [HW1.out]
    refine (appendBool_any b base n v xs W1 HX.out.2.2.1 HX.out.2.2.2.1 (by have := HN.out; omega)).mono ?_
    rintro e w' ⟨v', rfl, ht⟩
    have HT : Hid (Told base n xs v w (tellB (.mk 1 b nn s ks ts)) v' w') := by show Told _ _ _ _ _ _ _ _; rw [HB.out]; exact ht.from HX.out.1
    clear ht
    go_wp2_with fail
    go_ret
    exact ⟨_, rfl, HT.out⟩
  have e1 : (k == 1) = false := by simpa using k1
  by_cases k2 : k = 2
  · have HB : Hid (tellB (.mk k b nn s ks ts) = itoa nn) := by show _ = _; rw [tellB, if_neg k1, if_pos k2]
    have HI := hidE (H2.out k2)
    clear k1 e1 e3 e6 e7 H2 H5
    subst k2
    go_wp2_with fail
    rw [HW1.out]
    refine (HI.out base n v xs W1 HX.out.2.2.1 HX.out.2.2.2.1 (by have := HN.out; omega) HX.out.2.2.2.2).mono ?_
    rintro e w' ⟨v', rfl, ht⟩
    have HT : Hid (Told base n xs v w (tellB (.mk 2 b nn s ks ts)) v' w') := by show Told _ _ _ _ _ _ _ _; rw [HB.out]; exact ht.from HX.out.1
    clear ht
    go_wp2_with fail
    go_ret
    exact ⟨_, rfl, HT.out⟩
  have e2 : (k == 2) = false := by simpa using k2
  by_cases k4 : k = 4
  · have HB : Hid (tellB (.mk k b nn s ks ts) = [91] ++ tellAllB (decide (k = 5)) ks 0 ts ++ [93]) := by show _ = _; rw [tellB, if_neg k1, if_neg k2, if_pos k4]; simp [k4]
    have e4 : (k == 4) = true := by simp [k4]
    have HK1 := hidE (And.intro k1 (And.intro k2 k4))
    clear k1 k2 k4 H2
    go_upto_region 9 with fail
    rw [HW1.out]
    show (Code.region 9 RT9 true).wp _ _ _ _
    have hlen := HN.out
    rw [HB.out] at hlen
    simp only [List.length_append, List.length_cons, List.length_nil] at hlen
    refine regionT9 w.heap.size base n v xs k b nn s ka ks.length kc la ts.length lc (tellAllB (decide (k = 5)) ks 0 ts) W1 _ _ ⟨rfl, rfl, rfl⟩ ⟨HX.out.2.1, HX.out.2.2.1, by omega, HX.out.2.2.2.1, fun u xs' m w2 ho hb2 hbl hm => ?_⟩ ?_
    · exact tellAll_any k b nn s ks ts HALL.out H5.out base m u xs' _ w2 ho hb2 ((HL.out.below ((HX.out.1.mono hB).trans hbl))) (HX.out.2.2.2.2.on hbl) (by omega)
    intro c v' w' hS hv ht
    have hl : c = ⟨#[v, Value.agg #[Value.int IntKind.i64 k, Value.bool b, Value.int IntKind.i64 nn, Value.string s, Value.slice ka ks.length kc, Value.slice la ts.length lc], undef, Value.pointer (some { block := w.heap.size, off := 0 }), c.eval (.tmp 4), Value.pointer (some { block := w.heap.size, off := 0 }), Value.int IntKind.i64 k, Value.bool false, Value.bool false, undef, undef, undef, undef, Value.bool false, Value.bool false, undef, undef, undef, undef, Value.bool false, Value.bool false, undef, undef, undef, undef, Value.bool true, Value.bool true, c.eval (.tmp 27), c.eval (.tmp 28), c.eval (.tmp 29), c.eval (.tmp 30), c.eval (.tmp 31), c.eval (.tmp 32), c.eval (.tmp 33), undef, undef, undef, undef, undef, undef, undef, undef, undef, undef, undef, undef, undef, undef, undef, undef, undef, undef, undef, undef, undef, undef, undef, undef, undef, undef, undef, undef, undef], []⟩ := (same_lay hS).trans (by kernel_rfl)
    rw [hv] at hl
    generalize c.eval (.tmp 27) = z27 at hl
    generalize c.eval (.tmp 28) = z28 at hl
    generalize c.eval (.tmp 29) = z29 at hl
    generalize c.eval (.tmp 30) = z30 at hl
    generalize c.eval (.tmp 31) = z31 at hl
    generalize c.eval (.tmp 32) = z32 at hl
    generalize c.eval (.tmp 33) = z33 at hl
    clear hS hv
    subst hl
    have HT : Hid (Told base n xs v w (tellB (.mk k b nn s ks ts)) v' w') := by show Told _ _ _ _ _ _ _ _; rw [HB.out]; exact ht.from HX.out.1
    clear ht
    go_wp2_with fail
    go_ret
    exact ⟨_, rfl, HT.out⟩
  have e4 : (k == 4) = false := by simpa using k4
  by_cases k5 : k = 5
  · have HB : Hid (tellB (.mk k b nn s ks ts) = [123] ++ tellAllB (decide (k = 5)) ks 0 ts ++ [125]) := by show _ = _; rw [tellB, if_neg k1, if_neg k2, if_neg k4, if_pos k5]; simp [k5]
    have e5 : (k == 5) = true := by simp [k5]
    have HK1 := hidE (And.intro k1 (And.intro k2 (And.intro k4 k5)))
    clear k1 k2 k4 k5 H2
    go_upto_region 11 with fail
    rw [HW1.out]
    show (Code.region 11 RT11 true).wp _ _ _ _
    have hlen := HN.out
    rw [HB.out] at hlen
    simp only [List.length_append, List.length_cons, List.length_nil] at hlen
    refine regionT11 w.heap.size base n v xs k b nn s ka ks.length kc la ts.length lc (tellAllB (decide (k = 5)) ks 0 ts) W1 _ _ ⟨rfl, rfl, rfl⟩ ⟨HX.out.2.1, HX.out.2.2.1, by omega, HX.out.2.2.2.1, fun u xs' m w2 ho hb2 hbl hm => ?_⟩ ?_
    · exact tellAll_any k b nn s ks ts HALL.out H5.out base m u xs' _ w2 ho hb2 ((HL.out.below ((HX.out.1.mono hB).trans hbl))) (HX.out.2.2.2.2.on hbl) (by omega)
    intro c v' w' hS hv ht
    have hl : c = ⟨#[v, Value.agg #[Value.int IntKind.i64 k, Value.bool b, Value.int IntKind.i64 nn, Value.string s, Value.slice ka ks.length kc, Value.slice la ts.length lc], undef, Value.pointer (some { block := w.heap.size, off := 0 }), c.eval (.tmp 4), Value.pointer (some { block := w.heap.size, off := 0 }), Value.int IntKind.i64 k, Value.bool false, Value.bool false, undef, undef, undef, undef, Value.bool false, Value.bool false, undef, undef, undef, undef, Value.bool false, Value.bool false, undef, undef, undef, undef, Value.bool false, Value.bool false, undef, undef, undef, undef, undef, undef, undef, Value.bool true, Value.bool true, c.eval (.tmp 36), c.eval (.tmp 37), c.eval (.tmp 38), c.eval (.tmp 39), c.eval (.tmp 40), c.eval (.tmp 41), c.eval (.tmp 42), undef, undef, undef, undef, undef, undef, undef, undef, undef, undef, undef, undef, undef, undef, undef, undef, undef, undef, undef, undef], []⟩ := (same_lay hS).trans (by kernel_rfl)
    rw [hv] at hl
    generalize c.eval (.tmp 36) = z36 at hl
    generalize c.eval (.tmp 37) = z37 at hl
    generalize c.eval (.tmp 38) = z38 at hl
    generalize c.eval (.tmp 39) = z39 at hl
    generalize c.eval (.tmp 40) = z40 at hl
    generalize c.eval (.tmp 41) = z41 at hl
    generalize c.eval (.tmp 42) = z42 at hl
    clear hS hv
    subst hl
    have HT : Hid (Told base n xs v w (tellB (.mk k b nn s ks ts)) v' w') := by show Told _ _ _ _ _ _ _ _; rw [HB.out]; exact ht.from HX.out.1
    clear ht
    go_wp2_with fail
    go_ret
    exact ⟨_, rfl, HT.out⟩
  have e5 : (k == 5) = false := by simpa using k5
  have HB : Hid (tellB (.mk k b nn s ks ts) = [110, 117, 108, 108]) := by show _ = _; rw [tellB, if_neg k1, if_neg k2, if_neg k4, if_neg k5]
  clear k1 k2 k4 k5 H2 H5
  go_wp2_with (at_builtin; rw [HW1.out]; refine append_text W1 rfl _ _ rfl base n v xs rfl HX.out.2.2.1 ⟨#[110, 117, 108, 108]⟩ rfl (by decide) (by have := HN.out; show n + 4 ≤ _; omega) HX.out.2.2.2.1 ?_; intro v' w' ht)
  have HT : Hid (Told base n xs v w (tellB (.mk k b nn s ks ts)) v' w') := by show Told _ _ _ _ _ _ _ _; rw [HB.out]; exact ht.from HX.out.1
  go_ret
  exact ⟨_, rfl, HT.out⟩
end Go.Proofs.YtbpmhgcjefpigaaGreatDoor

namespace Go.Proofs.YtbpmhgcjefpigaaGreatDoor
open Go.RowKit Go.Shelf Go.Lib
set_option linter.unusedVariables false
set_option maxRecDepth 100000 in
theorem small_two (w : World) : Calls Tryz.prog 118 #[.int .i64 2] w fun e w' => e = .returned (.string ⟨#[50]⟩) ∧ w' = w := by
  go_enter Tryz.func118, Tryz.ntmps118
  go_wp2_with fail
  go_ret
  exact ⟨rfl, rfl⟩
set_option maxRecDepth 100000 in
theorem appendUint_two (base n : Nat) (v : Value) (xs : List Value) (w : World) (hown : w.ownsRow base 5 1 v n xs) (hB : base ≤ w.heap.size) (hn : n ≤ 1000000000) :
    Calls Tryz.prog 140 #[v, .int .u64 2, .int .i64 10] w fun e w' => ∃ v', e = .returned v' ∧ Told base n xs v w [50] v' w' := by
  go_enter Tryz.func140, Tryz.ntmps140
  go_wp2_with fail
  refine (small_two w).mono ?_
  rintro e _ ⟨rfl, rfl⟩
  go_wp2_with (at_builtin; refine append_text _ rfl _ _ rfl base n v xs rfl hown ⟨#[50]⟩ rfl (by decide) (by show n + 1 ≤ _; omega) hB ?_; intro v' w' ht)
  have HT := hidE ht
  go_ret
  exact ⟨_, rfl, HT.out⟩
set_option maxRecDepth 100000 in
theorem appendInt_two_in (base n : Nat) (v : Value) (xs : List Value) (w : World) (hown : w.ownsRow base 5 1 v n xs) (hB : base ≤ w.heap.size) (hn : n ≤ 1000000000) :
    Calls Tryz.prog 117 #[v, .int .i64 2, .int .i64 10] w fun e w' => ∃ v', e = .returned v' ∧ Told base n xs v w [50] v' w' := by
  have HC := hidE (appendUint_two base n v xs w hown hB hn)
  clear hown
  go_enter Tryz.func117, Tryz.ntmps117
  go_wp2_with fail
  refine HC.out.mono ?_
  rintro e w' ⟨v', rfl, ht⟩
  have HT := hidE ht
  clear ht HC
  go_wp2_with fail
  go_ret
  exact ⟨_, rfl, HT.out⟩
theorem itoa_two : itoa 2 = [50] := by simp [itoa, decDigits]
theorem intOk_two : IntOk 2 := by
  intro base n v xs w hown hB hn _
  rw [itoa_two]
  have HC := hidE (appendInt_two_in base n v xs w hown hB hn)
  clear hown
  go_enter Tryz.func99, Tryz.ntmps99
  go_wp2_with fail
  refine HC.out.mono ?_
  rintro e w' ⟨v', rfl, ht⟩
  have HT := hidE ht
  clear ht HC
  go_wp2_with fail
  go_ret
  exact ⟨_, rfl, HT.out⟩
end Go.Proofs.YtbpmhgcjefpigaaGreatDoor

namespace Go.Proofs.YtbpmhgcjefpigaaGreatDoor
open Go.RowKit Go.Shelf Go.Lib
set_option linter.unusedVariables false
theorem own_slice {w : World} {base n : Nat} {v : Value} {xs : List Value} (h : w.ownsRow base 5 1 v n xs) (hn : 0 < n) : ∃ g cap, v = .slice (some ⟨g, 0, none⟩) n cap := by
  obtain ⟨_, ⟨h1, h2⟩ | ⟨g, cap, cur, h1, _⟩⟩ := h
  · omega
  · exact ⟨g, cap, h1⟩
theorem own_bytes {w : World} {base g cap : Nat} {bs : List UInt8} (h : w.ownsRow base 5 1 (.slice (some ⟨g, 0, none⟩) bs.length cap) bs.length (byteCells bs)) :
    (convert 67 9 (.slice (some ⟨g, 0, none⟩) bs.length cap)).run Tryz.prog w = .ok (.string ⟨bs.toArray⟩) w := by
  refine run_convert_bytes_back (P := Tryz.prog) w 67 9 5 ⟨g, 0, none⟩ cap bs Tryz.underlying67 Tryz.underlying5 Tryz.underlying9 fun j hj => ?_
  refine h.cells (g := g) rfl j _ ?_
  simp [byteCells, hj]
set_option maxHeartbeats 1000000 in
theorem Text_any (T : Tree) (hE : Easy T) (hc : checkN T = 0) (hpos : 0 < (tellB T).length) (hlen : (tellB T).length ≤ 1000000000) (B : Nat) (v : Value) (w : World) (hB : B ≤ w.heap.size) (hv : Lies B w v T) (hT : Tabs w) (hP : TabBelow Tryz.prog w.heap.size w "internal/strconv.uint64pow10" .u64 pow10Tab) (hm : Modest T) :
    Calls Tryz.prog 39 #[v] w fun e w' => e = .returned (.tuple #[.string ⟨(tellB T).toArray⟩, .int .i64 0]) ∧ Below w.heap.size w w' := by
  have hv0 := hv
  obtain ⟨k, b, nn, s, ks, ts⟩ := T
  simp only [Lies] at hv
  obtain ⟨ka, kc, la, lc, rfl, -⟩ := hv
  obtain ⟨W1, hW1⟩ : ∃ W1, w.alloc (.cells #[.int .i64 k, .bool b, .int .i64 nn, .string s, .slice ka ks.length kc, .slice la ts.length lc] 26) = W1 := ⟨_, rfl⟩
  have hb1 : Below w.heap.size w W1 := hW1 ▸ (Below.refl _ _).alloc (Nat.le_refl _) _
  have hq1 : W1.heap[w.heap.size]? = some (.cells #[.int .i64 k, .bool b, .int .i64 nn, .string s, .slice ka ks.length kc, .slice la ts.length lc] 26 (0, 0)) := hW1 ▸ World.alloc_heap_new _ _
  have hl1 := (hv0.below (hb1.mono hB)).mono (Nat.le_trans hB hb1.size)
  have HC := hidE (check_any _ _ _ hl1 (hT.below hb1) hm.1 hm.2)
  rw [hc] at HC
  have HX := hidE (And.intro hb1 (And.intro hq1 hl1))
  have HW1 := hidE hW1
  have HP := hidE (And.intro hP hT)
  have HT := hidE (tell_any _ hE)
  have HL := hidE (And.intro hpos hlen)
  clear hW1 hb1 hq1 hl1 hP hT hE hm hv0 hc hpos hlen
  go_enter Tryz.func39, Tryz.ntmps39
  go_wp2_with fail
  rw [HW1.out]
  refine HC.out.mono ?_
  rintro e w2 ⟨rfl, hb2⟩
  have hb12 : Below w.heap.size w w2 := below_on HX.out.1 hb2
  have hq2 : w2.heap[w.heap.size]? = some (.cells #[.int .i64 k, .bool b, .int .i64 nn, .string s, .slice ka ks.length kc, .slice la ts.length lc] 26 (0, 0)) :=
    (hb2.block w.heap.size (Array.getElem?_eq_some_iff.1 HX.out.2.1).1).trans HX.out.2.1
  have y0 := box_cell hq2 (i := 0) rfl
  have y1 := box_cell hq2 (i := 1) rfl
  have y2 := box_cell hq2 (i := 2) rfl
  have y3 := box_cell hq2 (i := 3) rfl
  have y4 := box_cell hq2 (i := 4) rfl
  have y5 := box_cell hq2 (i := 5) rfl
  have hl2 := (HX.out.2.2.below hb2).mono hb2.size
  have htb : TB w2.heap.size w2 := ⟨fun w' h => HP.out.2.below (hb12.trans (h.mono hb12.size)), fun w' h => HP.out.1 w' (hb12.trans (h.mono hb12.size))⟩
  have HTL := hidE (HT.out w2.heap.size 0 (.slice none 0 0) [] _ w2 (World.ownsRow_nil _ _ _ _) (Nat.le_refl _) hl2 htb (by have := HL.out.2; omega))
  have HB12 := hidE hb12
  clear hb2 hb12 hq2 hl2 htb HC HX HP
  go_wp2_with fail
  refine HTL.out.mono ?_
  rintro e w3 ⟨v', rfl, ht⟩
  have hown := ht.own
  rw [Nat.zero_add, List.nil_append] at hown
  obtain ⟨g, cap, rfl⟩ := own_slice hown HL.out.1
  have hcv := own_bytes hown
  have HF : Hid (Below w.heap.size w w3) := HB12.out.trans ((ht.below (World.ownsRow_nil _ _ _ _) (Nat.le_refl _)).mono HB12.out.size)
  clear ht hown HTL y0 y1 y2 y3 y4 y5
  obtain ⟨bs, hbs⟩ : ∃ bs, tellB (.mk k b nn s ks ts) = bs := ⟨_, rfl⟩
  have HBS := hidE hbs
  rw [hbs] at hcv ⊢
  clear hbs
  go_wp2_with fail
  go_ret2
  exact ⟨by rw [HBS.out]; rfl, HF.out⟩
end Go.Proofs.YtbpmhgcjefpigaaGreatDoor

namespace Go.Proofs.YtbpmhgcjefpigaaGreatDoor
open Go.RowKit Go.Shelf Go.Lib
set_option linter.unusedVariables false
def leafT (k : Int) (b : Bool) (n : Int) : Tree := .mk k b n ⟨#[]⟩ [] []
def listT : Tree := .mk 4 false 0 ⟨#[]⟩ [] [leafT 0 false 0, leafT 1 true 0]
def mapT : Tree := .mk 5 false 0 ⟨#[]⟩ [⟨#[97, 32, 98]⟩, ⟨#[98]⟩] [listT, leafT 2 false 2]
theorem leaf_lies (k : Int) (b : Bool) (n : Int) (B : Nat) (w : World) : Lies B w (leaf k b n ⟨#[]⟩) (leafT k b n) := by
  unfold leafT leaf
  simp only [Lies]
  exact ⟨none, 0, none, 0, rfl, ⟨by show 0 ≤ _; omega, by simp, by unfold maxLen; omega, by simp, by unfold maxLen; omega⟩, .inl rfl, .inl trivial⟩
theorem keyOk_ab : KeyOk ⟨#[97, 32, 98]⟩ := ⟨by decide, by decide, by decide⟩
theorem keyOk_b : KeyOk ⟨#[98]⟩ := ⟨by decide, by decide, by decide⟩
theorem easy_leaf (k : Int) (b : Bool) (n : Int) (h2 : k = 2 → IntOk n) (h3 : k ≠ 3) (h5 : k ≠ 5) (h6 : k ≠ 6) (h7 : k ≠ 7) : Easy (leafT k b n) :=
  .mk h2 h3 h6 h7 (fun h => absurd h h5) (by simp)
theorem easy_map : Easy mapT := by
  refine .mk (fun h => absurd h (by decide)) (by decide) (by decide) (by decide) (fun _ => ⟨rfl, ?_⟩) ?_
  · intro x hx
    simp only [List.mem_cons, List.not_mem_nil, or_false] at hx
    rcases hx with rfl | rfl
    · exact keyOk_ab
    · exact keyOk_b
  · intro t ht
    simp only [List.mem_cons, List.not_mem_nil, or_false] at ht
    rcases ht with rfl | rfl
    · refine .mk (fun h => absurd h (by decide)) (by decide) (by decide) (by decide) (fun h => absurd h (by decide)) ?_
      intro t ht
      simp only [List.mem_cons, List.not_mem_nil, or_false] at ht
      rcases ht with rfl | rfl
      · exact easy_leaf _ _ _ (fun h => absurd h (by decide)) (by decide) (by decide) (by decide) (by decide)
      · exact easy_leaf _ _ _ (fun h => absurd h (by decide)) (by decide) (by decide) (by decide) (by decide)
    · exact easy_leaf _ _ _ (fun _ => intOk_two) (by decide) (by decide) (by decide) (by decide)
theorem tell_map : tellB mapT = [123, 96, 97, 32, 98, 96, 58, 32, 91, 110, 117, 108, 108, 44, 32, 116, 114, 117, 101, 93, 44, 32, 98, 58, 32, 50, 125] := by
  simp only [mapT, listT, leafT, tellB, tellAllB, itoa_two]
  decide
theorem check_map : checkN mapT = 0 := by kernel_rfl
theorem modest_map : Modest mapT := by
  constructor <;> decide
end Go.Proofs.YtbpmhgcjefpigaaGreatDoor

