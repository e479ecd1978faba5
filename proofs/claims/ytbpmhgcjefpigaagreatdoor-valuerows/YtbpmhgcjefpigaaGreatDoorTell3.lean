/- Values told. -/
import Derived.Test.YtbpmhgcjefpigaaGreatDoorTellR9
import Derived.Test.YtbpmhgcjefpigaaGreatDoorTellR11
namespace Go.Proofs.YtbpmhgcjefpigaaGreatDoor
open Go.RowKit Go.Shelf Go.WideShapes Go.Lib
set_option linter.unusedVariables false
set_option linter.unusedSimpArgs false

/-- A number that is told as it should be. -/
def IntOk (i : Int) : Prop := ∀ (base n : Nat) (v : Value) (xs : List Value) (w : World), w.ownsRow base 5 1 v n xs → base ≤ w.heap.size → n ≤ 1000000000 → TB base w →
  Calls Tryz.prog 99 #[v, .int .i64 i, .int .i64 10] w fun e w' => ∃ v', e = .returned v' ∧ Told base n xs v w (itoa i) v' w'
/-- Values without texts, nodes and relationships. -/
inductive Easy : Tree → Prop where
  | mk {k : Int} {b : Bool} {n : Int} {s : ByteArray} {ks : List ByteArray} {ts : List Tree} (h2 : k = 2 → IntOk n) (h3 : k ≠ 3) (h6 : k ≠ 6) (h7 : k ≠ 7) (h5 : k = 5 → ks.length = ts.length ∧ ∀ x ∈ ks, KeyOk x) (ht : ∀ t ∈ ts, Easy t) : Easy (.mk k b n s ks ts)

set_option maxRecDepth 100000 in
set_option maxHeartbeats 4000000 in
theorem tell_any : ∀ T, Easy T → TellOk T := by
  refine Tree.ind ?_
  intro k b nn s ks ts ih hE base n v xs tv w hown hB hl htb hn
  cases hE with
  | mk h2 h3 h6 h7 h5 hts =>
  have HALL := hidE (fun t ht => ih t ht (hts t ht) : ∀ t ∈ ts, TellOk t)
  have HL := hidE hl
  simp only [Lies] at hl
  obtain ⟨ka, kc, la, lc, rfl, ⟨hs1, hs2, hs3, hs4, hs5⟩, -, -⟩ := hl
  obtain ⟨W1, hW1⟩ : ∃ W1, w.alloc (.cells #[.int .i64 k, .bool b, .int .i64 nn, .string s, .slice ka ks.length kc, .slice la ts.length lc] 26) = W1 := ⟨_, rfl⟩
  have hb1 : Below w.heap.size w W1 := hW1 ▸ (Below.refl _ _).alloc (Nat.le_refl _) _
  have hq1 : W1.heap[w.heap.size]? = some (.cells #[.int .i64 k, .bool b, .int .i64 nn, .string s, .slice ka ks.length kc, .slice la ts.length lc] 26 (0, 0)) := hW1 ▸ World.alloc_heap_new _ _
  have hown1 := own_below hown hb1
  have hB1 : base ≤ W1.heap.size := Nat.le_trans hB hb1.size
  have HX := hidE (And.intro hb1 (And.intro hq1 (And.intro hown1 (And.intro hB1 (htb.on (hb1.mono hB))))))
  have HW1 := hidE hW1
  have HN := hidE hn
  have H2 := hidE h2
  have H5 := hidE h5
  have e3 : (k == 3) = false := by simpa using h3
  have e6 : (k == 6) = false := by simpa using h6
  have e7 : (k == 7) = false := by simpa using h7
  clear hb1 hq1 hown1 hB1 hW1 hn h2 h5 ih hts h3 h6 h7 htb hown
  unfold maxLen at hs1 hs3 hs5
  go_enter Tryz.func76, Tryz.ntmps76
  by_cases k1 : k = 1
  · have HB : Hid (tellB (.mk k b nn s ks ts) = boolBytes b) := by show _ = _; rw [tellB, if_pos k1]
    subst k1
    go_wp2_with fail
    rw [HW1.out]
    refine (appendBool_any b base n v xs W1 HX.out.2.2.1 HX.out.2.2.2.1 (by have := HN.out; omega)).mono ?_
    rintro e w' ⟨v', rfl, ht⟩
    have HT : Hid (Told base n xs v w (tellB (.mk 1 b nn s ks ts)) v' w') := by show Told _ _ _ _ _ _ _ _; rw [HB.out]; exact ht.from HX.out.1
    clear ht
    go_wp2_with fail
    go_ret
    exact ⟨_, rfl, HT.out⟩
  have e1 : (k == 1) = false := by simpa using k1
  by_cases k2 : k = 2
  · have HB : Hid (tellB (.mk k b nn s ks ts) = itoa nn) := by show _ = _; rw [tellB, if_neg k1, if_pos k2]
    have HI := hidE (H2.out k2)
    clear k1 e1 e3 e6 e7 H2 H5
    subst k2
    go_wp2_with fail
    rw [HW1.out]
    refine (HI.out base n v xs W1 HX.out.2.2.1 HX.out.2.2.2.1 (by have := HN.out; omega) HX.out.2.2.2.2).mono ?_
    rintro e w' ⟨v', rfl, ht⟩
    have HT : Hid (Told base n xs v w (tellB (.mk 2 b nn s ks ts)) v' w') := by show Told _ _ _ _ _ _ _ _; rw [HB.out]; exact ht.from HX.out.1
    clear ht
    go_wp2_with fail
    go_ret
    exact ⟨_, rfl, HT.out⟩
  have e2 : (k == 2) = false := by simpa using k2
  by_cases k4 : k = 4
  · have HB : Hid (tellB (.mk k b nn s ks ts) = [91] ++ tellAllB (decide (k = 5)) ks 0 ts ++ [93]) := by show _ = _; rw [tellB, if_neg k1, if_neg k2, if_pos k4]; simp [k4]
    have e4 : (k == 4) = true := by simp [k4]
    have HK1 := hidE (And.intro k1 (And.intro k2 k4))
    clear k1 k2 k4 H2
    go_upto_region 9 with fail
    rw [HW1.out]
    show (Code.region 9 RT9 true).wp _ _ _ _
    have hlen := HN.out
    rw [HB.out] at hlen
    simp only [List.length_append, List.length_cons, List.length_nil] at hlen
    refine regionT9 w.heap.size base n v xs k b nn s ka ks.length kc la ts.length lc (tellAllB (decide (k = 5)) ks 0 ts) W1 _ _ ⟨rfl, rfl, rfl⟩ ⟨HX.out.2.1, HX.out.2.2.1, by omega, HX.out.2.2.2.1, fun u xs' m w2 ho hb2 hbl hm => ?_⟩ ?_
    · exact tellAll_any k b nn s ks ts HALL.out H5.out base m u xs' _ w2 ho hb2 ((HL.out.below ((HX.out.1.mono hB).trans hbl))) (HX.out.2.2.2.2.on hbl) (by omega)
    intro c v' w' hS hv ht
    have hl : c = ⟨#[v, Value.agg #[Value.int IntKind.i64 k, Value.bool b, Value.int IntKind.i64 nn, Value.string s, Value.slice ka ks.length kc, Value.slice la ts.length lc], undef, Value.pointer (some { block := w.heap.size, off := 0 }), c.eval (.tmp 4), Value.pointer (some { block := w.heap.size, off := 0 }), Value.int IntKind.i64 k, Value.bool false, Value.bool false, undef, undef, undef, undef, Value.bool false, Value.bool false, undef, undef, undef, undef, Value.bool false, Value.bool false, undef, undef, undef, undef, Value.bool true, Value.bool true, c.eval (.tmp 27), c.eval (.tmp 28), c.eval (.tmp 29), c.eval (.tmp 30), c.eval (.tmp 31), c.eval (.tmp 32), c.eval (.tmp 33), undef, undef, undef, undef, undef, undef, undef, undef, undef, undef, undef, undef, undef, undef, undef, undef, undef, undef, undef, undef, undef, undef, undef, undef, undef, undef, undef, undef, undef], []⟩ := (same_lay hS).trans (by kernel_rfl)
    rw [hv] at hl
    generalize c.eval (.tmp 27) = z27 at hl
    generalize c.eval (.tmp 28) = z28 at hl
    generalize c.eval (.tmp 29) = z29 at hl
    generalize c.eval (.tmp 30) = z30 at hl
    generalize c.eval (.tmp 31) = z31 at hl
    generalize c.eval (.tmp 32) = z32 at hl
    generalize c.eval (.tmp 33) = z33 at hl
    clear hS hv
    subst hl
    have HT : Hid (Told base n xs v w (tellB (.mk k b nn s ks ts)) v' w') := by show Told _ _ _ _ _ _ _ _; rw [HB.out]; exact ht.from HX.out.1
    clear ht
    go_wp2_with fail
    go_ret
    exact ⟨_, rfl, HT.out⟩
  have e4 : (k == 4) = false := by simpa using k4
  by_cases k5 : k = 5
  · have HB : Hid (tellB (.mk k b nn s ks ts) = [123] ++ tellAllB (decide (k = 5)) ks 0 ts ++ [125]) := by show _ = _; rw [tellB, if_neg k1, if_neg k2, if_neg k4, if_pos k5]; simp [k5]
    have e5 : (k == 5) = true := by simp [k5]
    have HK1 := hidE (And.intro k1 (And.intro k2 (And.intro k4 k5)))
    clear k1 k2 k4 k5 H2
    go_upto_region 11 with fail
    rw [HW1.out]
    show (Code.region 11 RT11 true).wp _ _ _ _
    have hlen := HN.out
    rw [HB.out] at hlen
    simp only [List.length_append, List.length_cons, List.length_nil] at hlen
    refine regionT11 w.heap.size base n v xs k b nn s ka ks.length kc la ts.length lc (tellAllB (decide (k = 5)) ks 0 ts) W1 _ _ ⟨rfl, rfl, rfl⟩ ⟨HX.out.2.1, HX.out.2.2.1, by omega, HX.out.2.2.2.1, fun u xs' m w2 ho hb2 hbl hm => ?_⟩ ?_
    · exact tellAll_any k b nn s ks ts HALL.out H5.out base m u xs' _ w2 ho hb2 ((HL.out.below ((HX.out.1.mono hB).trans hbl))) (HX.out.2.2.2.2.on hbl) (by omega)
    intro c v' w' hS hv ht
    have hl : c = ⟨#[v, Value.agg #[Value.int IntKind.i64 k, Value.bool b, Value.int IntKind.i64 nn, Value.string s, Value.slice ka ks.length kc, Value.slice la ts.length lc], undef, Value.pointer (some { block := w.heap.size, off := 0 }), c.eval (.tmp 4), Value.pointer (some { block := w.heap.size, off := 0 }), Value.int IntKind.i64 k, Value.bool false, Value.bool false, undef, undef, undef, undef, Value.bool false, Value.bool false, undef, undef, undef, undef, Value.bool false, Value.bool false, undef, undef, undef, undef, Value.bool false, Value.bool false, undef, undef, undef, undef, undef, undef, undef, Value.bool true, Value.bool true, c.eval (.tmp 36), c.eval (.tmp 37), c.eval (.tmp 38), c.eval (.tmp 39), c.eval (.tmp 40), c.eval (.tmp 41), c.eval (.tmp 42), undef, undef, undef, undef, undef, undef, undef, undef, undef, undef, undef, undef, undef, undef, undef, undef, undef, undef, undef, undef], []⟩ := (same_lay hS).trans (by kernel_rfl)
    rw [hv] at hl
    generalize c.eval (.tmp 36) = z36 at hl
    generalize c.eval (.tmp 37) = z37 at hl
    generalize c.eval (.tmp 38) = z38 at hl
    generalize c.eval (.tmp 39) = z39 at hl
    generalize c.eval (.tmp 40) = z40 at hl
    generalize c.eval (.tmp 41) = z41 at hl
    generalize c.eval (.tmp 42) = z42 at hl
    clear hS hv
    subst hl
    have HT : Hid (Told base n xs v w (tellB (.mk k b nn s ks ts)) v' w') := by show Told _ _ _ _ _ _ _ _; rw [HB.out]; exact ht.from HX.out.1
    clear ht
    go_wp2_with fail
    go_ret
    exact ⟨_, rfl, HT.out⟩
  have e5 : (k == 5) = false := by simpa using k5
  have HB : Hid (tellB (.mk k b nn s ks ts) = [110, 117, 108, 108]) := by show _ = _; rw [tellB, if_neg k1, if_neg k2, if_neg k4, if_neg k5]
  clear k1 k2 k4 k5 H2 H5
  go_wp2_with (at_builtin; rw [HW1.out]; refine append_text W1 rfl _ _ rfl base n v xs rfl HX.out.2.2.1 ⟨#[110, 117, 108, 108]⟩ rfl (by decide) (by have := HN.out; show n + 4 ≤ _; omega) HX.out.2.2.2.1 ?_; intro v' w' ht)
  have HT : Hid (Told base n xs v w (tellB (.mk k b nn s ks ts)) v' w') := by show Told _ _ _ _ _ _ _ _; rw [HB.out]; exact ht.from HX.out.1
  go_ret
  exact ⟨_, rfl, HT.out⟩
end Go.Proofs.YtbpmhgcjefpigaaGreatDoor
