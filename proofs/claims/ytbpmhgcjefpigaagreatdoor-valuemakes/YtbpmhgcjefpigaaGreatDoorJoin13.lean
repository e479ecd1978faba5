/- Values told. A row of bytes that grows inside one statement, whatever order the statement's operations are drawn in. -/
import Derived.Test.YtbpmhgcjefpigaaGreatDoorTellR9
import Derived.Test.YtbpmhgcjefpigaaGreatDoorTellR11
import Derived.Test.YtbpmhgcjefpigaaGreatDoorJoin10
namespace Go.Proofs.YtbpmhgcjefpigaaGreatDoor
open Go.RowKit Go.Shelf Go.WideShapes Go.Lib
set_option linter.unusedVariables false
set_option linter.unusedSimpArgs false
/-- A number that is told as it should be. -/
def IntOk (i : Int) : Prop := ∀ (base n : Nat) (v : Value) (xs : List Value) (w : World), w.ownsRow base 5 1 v n xs → base ≤ w.heap.size → n ≤ 1000000000 → TB base w →
  Calls Tryz.prog 99 #[v, .int .i64 i, .int .i64 10] w fun e w' => ∃ v', e = .returned v' ∧ Told base n xs v w (itoa i) v' w'
/-- Values without texts, nodes and relationships. -/
inductive Easy : Tree → Prop where
  | mk {k : Int} {b : Bool} {n : Int} {s : ByteArray} {ks : List ByteArray} {ts : List Tree} (h2 : k = 2 → IntOk n) (h3 : k ≠ 3) (h6 : k ≠ 6) (h7 : k ≠ 7) (h5 : k = 5 → ks.length = ts.length ∧ ∀ x ∈ ks, KeyOk x) (ht : ∀ t ∈ ts, Easy t) : Easy (.mk k b n s ks ts)
set_option maxRecDepth 100000 in
set_option maxHeartbeats 4000000 in
theorem tell_any : ∀ T, Easy T → TellOk T := by
  refine Tree.ind ?_
  intro k b nn s ks ts ih hE base n v xs tv w hown hB hl htb hn
  cases hE with
  | mk h2 h3 h6 h7 h5 hts =>
  have HALL := hidE (fun t ht => ih t ht (hts t ht) : ∀ t ∈ ts, TellOk t)
  have HL := hidE hl
  simp only [Lies] at hl
  obtain ⟨ka, kc, la, lc, rfl, ⟨hs1, hs2, hs3, hs4, hs5⟩, -, -⟩ := hl
  obtain ⟨W1, hW1⟩ : ∃ W1, w.alloc (.cells #[.int .i64 k, .bool b, .int .i64 nn, .string s, .slice ka ks.length kc, .slice la ts.length lc] 26) = W1 := ⟨_, rfl⟩
  have hb1 : Below w.heap.size w W1 := hW1 ▸ (Below.refl _ _).alloc (Nat.le_refl _) _
  have hq1 : W1.heap[w.heap.size]? = some (.cells #[.int .i64 k, .bool b, .int .i64 nn, .string s, .slice ka ks.length kc, .slice la ts.length lc] 26 (0, 0)) := hW1 ▸ World.alloc_heap_new _ _
  have hown1 := own_below hown hb1
  have hB1 : base ≤ W1.heap.size := Nat.le_trans hB hb1.size
  have HX := hidE (And.intro hb1 (And.intro hq1 (And.intro hown1 (And.intro hB1 (htb.on (hb1.mono hB))))))
  have HW1 := hidE hW1
  have HN := hidE hn
  have H2 := hidE h2
  have H5 := hidE h5
  have e3 : (k == 3) = false := by simpa using h3
  have e6 : (k == 6) = false := by simpa using h6
  have e7 : (k == 7) = false := by simpa using h7
  clear hb1 hq1 hown1 hB1 hW1 hn h2 h5 ih hts h3 h6 h7 htb hown
  unfold maxLen at hs1 hs3 hs5
  go_enter Tryz.func76, Tryz.ntmps76
  by_cases k1 : k = 1
  · have HB : Hid (tellB (.mk k b nn s ks ts) = boolBytes b) := by show _ = _; rw [tellB, if_pos k1]
    subst k1
    go_wp2_with fail
    rw [HW1.out]
    refine (appendBool_any b base n v xs W1 HX.out.2.2.1 HX.out.2.2.2.1 (by have := HN.out; omega)).mono ?_
    rintro e w' ⟨v', rfl, ht⟩
    have HT : Hid (Told base n xs v w (tellB (.mk 1 b nn s ks ts)) v' w') := by show Told _ _ _ _ _ _ _ _; rw [HB.out]; exact ht.from HX.out.1
    clear ht
    go_wp2_with fail
    go_ret
    exact ⟨_, rfl, HT.out⟩
  have e1 : (k == 1) = false := by simpa using k1
  by_cases k2 : k = 2
  · have HB : Hid (tellB (.mk k b nn s ks ts) = itoa nn) := by show _ = _; rw [tellB, if_neg k1, if_pos k2]
    have HI := hidE (H2.out k2)
    clear k1 e1 e3 e6 e7 H2 H5
    subst k2
    go_wp2_with fail
    rw [HW1.out]
    refine (HI.out base n v xs W1 HX.out.2.2.1 HX.out.2.2.2.1 (by have := HN.out; omega) HX.out.2.2.2.2).mono ?_
    rintro e w' ⟨v', rfl, ht⟩
    have HT : Hid (Told base n xs v w (tellB (.mk 2 b nn s ks ts)) v' w') := by show Told _ _ _ _ _ _ _ _; rw [HB.out]; exact ht.from HX.out.1
    clear ht
    go_wp2_with fail
    go_ret
    exact ⟨_, rfl, HT.out⟩
  have e2 : (k == 2) = false := by simpa using k2
  by_cases k4 : k = 4
  · have HB : Hid (tellB (.mk k b nn s ks ts) = [91] ++ tellAllB (decide (k = 5)) ks 0 ts ++ [93]) := by show _ = _; rw [tellB, if_neg k1, if_neg k2, if_pos k4]; simp [k4]
    have e4 : (k == 4) = true := by simp [k4]
    have HK1 := hidE (And.intro k1 (And.intro k2 k4))
    clear k1 k2 k4 H2
    go_upto_region 9 with fail
    rw [HW1.out]
    show (Code.region 9 RT9 true).wp _ _ _ _
    have hlen := HN.out
    rw [HB.out] at hlen
    simp only [List.length_append, List.length_cons, List.length_nil] at hlen
    refine regionT9 w.heap.size base n v xs k b nn s ka ks.length kc la ts.length lc (tellAllB (decide (k = 5)) ks 0 ts) W1 _ _ ⟨rfl, rfl, rfl⟩ ⟨HX.out.2.1, HX.out.2.2.1, by omega, HX.out.2.2.2.1, fun u xs' m w2 ho hb2 hbl hm => ?_⟩ ?_
    · exact tellAll_any k b nn s ks ts HALL.out H5.out base m u xs' _ w2 ho hb2 ((HL.out.below ((HX.out.1.mono hB).trans hbl))) (HX.out.2.2.2.2.on hbl) (by omega)
    intro c v' w' hS hv ht
    have hl : c = ⟨#[v, Value.agg #[Value.int IntKind.i64 k, Value.bool b, Value.int IntKind.i64 nn, Value.string s, Value.slice ka ks.length kc, Value.slice la ts.length lc], undef, Value.pointer (some { block := w.heap.size, off := 0 }), c.eval (.tmp 4), Value.pointer (some { block := w.heap.size, off := 0 }), Value.int IntKind.i64 k, Value.bool false, Value.bool false, undef, undef, undef, undef, Value.bool false, Value.bool false, undef, undef, undef, undef, Value.bool false, Value.bool false, undef, undef, undef, undef, Value.bool true, Value.bool true, c.eval (.tmp 27), c.eval (.tmp 28), c.eval (.tmp 29), c.eval (.tmp 30), c.eval (.tmp 31), c.eval (.tmp 32), c.eval (.tmp 33), undef, undef, undef, undef, undef, undef, undef, undef, undef, undef, undef, undef, undef, undef, undef, undef, undef, undef, undef, undef, undef, undef, undef, undef, undef, undef, undef, undef, undef], []⟩ := (same_lay hS).trans (by kernel_rfl)
    rw [hv] at hl
    generalize c.eval (.tmp 27) = z27 at hl
    generalize c.eval (.tmp 28) = z28 at hl
    generalize c.eval (.tmp 29) = z29 at hl
    generalize c.eval (.tmp 30) = z30 at hl
    generalize c.eval (.tmp 31) = z31 at hl
    generalize c.eval (.tmp 32) = z32 at hl
    generalize c.eval (.tmp 33) = z33 at hl
    clear hS hv
    subst hl
    have HT : Hid (Told base n xs v w (tellB (.mk k b nn s ks ts)) v' w') := by show Told _ _ _ _ _ _ _ _; rw [HB.out]; exact ht.from HX.out.1
    clear ht
    go_wp2_with fail
    go_ret
    exact ⟨_, rfl, HT.out⟩
  have e4 : (k == 4) = false := by simpa using k4
  by_cases k5 : k = 5
  · have HB : Hid (tellB (.mk k b nn s ks ts) = [123] ++ tellAllB (decide (k = 5)) ks 0 ts ++ [125]) := by show _ = _; rw [tellB, if_neg k1, if_neg k2, if_neg k4, if_pos k5]; simp [k5]
    have e5 : (k == 5) = true := by simp [k5]
    have HK1 := hidE (And.intro k1 (And.intro k2 (And.intro k4 k5)))
    clear k1 k2 k4 k5 H2
    go_upto_region 11 with fail
    rw [HW1.out]
    show (Code.region 11 RT11 true).wp _ _ _ _
    have hlen := HN.out
    rw [HB.out] at hlen
    simp only [List.length_append, List.length_cons, List.length_nil] at hlen
    refine regionT11 w.heap.size base n v xs k b nn s ka ks.length kc la ts.length lc (tellAllB (decide (k = 5)) ks 0 ts) W1 _ _ ⟨rfl, rfl, rfl⟩ ⟨HX.out.2.1, HX.out.2.2.1, by omega, HX.out.2.2.2.1, fun u xs' m w2 ho hb2 hbl hm => ?_⟩ ?_
    · exact tellAll_any k b nn s ks ts HALL.out H5.out base m u xs' _ w2 ho hb2 ((HL.out.below ((HX.out.1.mono hB).trans hbl))) (HX.out.2.2.2.2.on hbl) (by omega)
    intro c v' w' hS hv ht
    have hl : c = ⟨#[v, Value.agg #[Value.int IntKind.i64 k, Value.bool b, Value.int IntKind.i64 nn, Value.string s, Value.slice ka ks.length kc, Value.slice la ts.length lc], undef, Value.pointer (some { block := w.heap.size, off := 0 }), c.eval (.tmp 4), Value.pointer (some { block := w.heap.size, off := 0 }), Value.int IntKind.i64 k, Value.bool false, Value.bool false, undef, undef, undef, undef, Value.bool false, Value.bool false, undef, undef, undef, undef, Value.bool false, Value.bool false, undef, undef, undef, undef, Value.bool false, Value.bool false, undef, undef, undef, undef, undef, undef, undef, Value.bool true, Value.bool true, c.eval (.tmp 36), c.eval (.tmp 37), c.eval (.tmp 38), c.eval (.tmp 39), c.eval (.tmp 40), c.eval (.tmp 41), c.eval (.tmp 42), undef, undef, undef, undef, undef, undef, undef, undef, undef, undef, undef, undef, undef, undef, undef, undef, undef, undef, undef, undef], []⟩ := (same_lay hS).trans (by kernel_rfl)
    rw [hv] at hl
    generalize c.eval (.tmp 36) = z36 at hl
    generalize c.eval (.tmp 37) = z37 at hl
    generalize c.eval (.tmp 38) = z38 at hl
    generalize c.eval (.tmp 39) = z39 at hl
    generalize c.eval (.tmp 40) = z40 at hl
    generalize c.eval (.tmp 41) = z41 at hl
    generalize c.eval (.tmp 42) = z42 at hl
    clear hS hv
    subst hl
    have HT : Hid (Told base n xs v w (tellB (.mk k b nn s ks ts)) v' w') := by show Told _ _ _ _ _ _ _ _; rw [HB.out]; exact ht.from HX.out.1
    clear ht
    go_wp2_with fail
    go_ret
    exact ⟨_, rfl, HT.out⟩
  have e5 : (k == 5) = false := by simpa using k5
  have HB : Hid (tellB (.mk k b nn s ks ts) = [110, 117, 108, 108]) := by show _ = _; rw [tellB, if_neg k1, if_neg k2, if_neg k4, if_neg k5]
  clear k1 k2 k4 k5 H2 H5
  go_wp2_with (at_builtin; rw [HW1.out]; refine append_text W1 rfl _ _ rfl base n v xs rfl HX.out.2.2.1 ⟨#[110, 117, 108, 108]⟩ rfl (by decide) (by have := HN.out; show n + 4 ≤ _; omega) HX.out.2.2.2.1 ?_; intro v' w' ht)
  have HT : Hid (Told base n xs v w (tellB (.mk k b nn s ks ts)) v' w') := by show Told _ _ _ _ _ _ _ _; rw [HB.out]; exact ht.from HX.out.1
  go_ret
  exact ⟨_, rfl, HT.out⟩
end Go.Proofs.YtbpmhgcjefpigaaGreatDoor

namespace Go.Proofs.YtbpmhgcjefpigaaGreatDoor
open Go.RowKit Go.Shelf Go.Lib
set_option linter.unusedVariables false
/-- The operations that hand the row on, with what each puts behind it; the rows that are built for it, with their bytes. -/
structure Chain where
  pos : List Nat
  add : List (List UInt8)
  side : List (Nat × List UInt8)
namespace Chain
def row (C : Chain) (v : Value) (vs : Nat → Value) : Nat → Value
  | 0 => v
  | k + 1 => vs (C.pos.getD k 0)
def sofar (C : Chain) (k : Nat) : List UInt8 := (C.add.take k).flatten
/-- How far it has come. -/
def Far (C : Chain) (base n : Nat) (v : Value) (xs : List Value) (w0 : World) (l : Nat → Bool) (vs : Nat → Value) (w : World) : Prop :=
  ∃ k, k ≤ C.pos.length ∧ (∀ j, j < C.pos.length → l (C.pos.getD j 0) = decide (j < k)) ∧ Told base n xs v w0 (C.sofar k) (C.row v vs k) w ∧
    ∀ s ∈ C.side, l s.1 = true → ∃ t, vs s.1 = .slice (some ⟨t, 0, none⟩) s.2.length s.2.length ∧ (∀ j u, (byteCells s.2)[j]? = some u → w.cell? ⟨t, j, none⟩ = some u) ∧ some t ≠ (C.row v vs k).ownBlock ∧ t < w.heap.size
/-- The places are apart. -/
def apart (C : Chain) : Bool := decide (C.pos.Nodup ∧ (C.side.map (·.1)).Nodup ∧ ∀ s ∈ C.side, s.1 ∉ C.pos) && decide (C.add.length = C.pos.length)
end Chain
theorem nodup_inj {α : Type} {l : List α} (h : l.Nodup) {i j : Nat} (hi : i < l.length) (hj : j < l.length) (e : l[i] = l[j]) : i = j := by
  rcases Nat.lt_trichotomy i j with h1 | h1 | h1
  · exact absurd e (List.pairwise_iff_getElem.1 h i j hi hj h1)
  · exact h1
  · exact absurd e.symm (List.pairwise_iff_getElem.1 h j i hj hi h1)
variable {base n : Nat} {v : Value} {xs : List Value} {w0 : World}
theorem Chain.row_upd {C : Chain} {vs : Nat → Value} {i k : Nat} {u : Value} (hi : i ∉ C.pos) (hk : k ≤ C.pos.length) : C.row v (upd vs i u) k = C.row v vs k := by
  cases k with
  | zero => rfl
  | succ k =>
    show upd vs i u (C.pos.getD k 0) = vs (C.pos.getD k 0)
    refine upd_other _ _ fun e => hi ?_
    rw [← e, List.getD_eq_getElem?_getD, List.getElem?_eq_getElem (by omega)]
    exact List.getElem_mem _
theorem Chain.get_mem {C : Chain} {j : Nat} (h : j < C.pos.length) : C.pos.getD j 0 ∈ C.pos := by
  rw [List.getD_eq_getElem?_getD, List.getElem?_eq_getElem h]; exact List.getElem_mem _
theorem Chain.get_ne {C : Chain} (hn : C.pos.Nodup) {i j : Nat} (hi : i < C.pos.length) (hj : j < C.pos.length) (h : i ≠ j) : C.pos.getD i 0 ≠ C.pos.getD j 0 := by
  rw [List.getD_eq_getElem?_getD, List.getElem?_eq_getElem hi, List.getD_eq_getElem?_getD, List.getElem?_eq_getElem hj]
  intro e
  exact h (nodup_inj hn hi hj e)
/-- A row is built for it. -/
theorem Chain.Far.built {C : Chain} {l : Nat → Bool} {vs : Nat → Value} {w : World} (hap : C.apart = true) (h : C.Far base n v xs w0 l vs w) {s : Nat × List UInt8} (hm : s ∈ C.side) :
    C.Far base n v xs w0 (upd l s.1 true) (upd vs s.1 (.slice (some ⟨w.heap.size, 0, none⟩) s.2.length s.2.length)) (w.alloc (.cells (byteCells s.2).toArray 5)) := by
  simp only [Chain.apart, Bool.and_eq_true, decide_eq_true_eq] at hap
  obtain ⟨⟨h1, h2, h3⟩, _⟩ := hap
  have hi := h3 s hm
  obtain ⟨k, hk, hl, ht, hside⟩ := h
  have hb : Below w.heap.size w (w.alloc (.cells (byteCells s.2).toArray 5)) := (Below.refl _ _).alloc (Nat.le_refl _) _
  have hsz : (w.alloc (.cells (byteCells s.2).toArray 5)).heap.size = w.heap.size + 1 := by simp
  refine ⟨k, hk, fun j hj => ?_, ?_, fun q hq hlq => ?_⟩
  · rw [upd_other _ _ (fun e => hi (by rw [← e]; exact get_mem hj))]; exact hl j hj
  · rw [Chain.row_upd hi hk]; exact ht.upto hb
  · rw [Chain.row_upd hi hk]
    by_cases e : q.1 = s.1
    · obtain rfl : q = s := by
        have hp := List.pairwise_map.1 h2
        rcases List.mem_iff_getElem.1 hq with ⟨i1, b1, e1⟩
        rcases List.mem_iff_getElem.1 hm with ⟨i2, b2, e2⟩
        have : i1 = i2 := by
          have hh : (C.side.map (·.1))[i1]'(by simpa using b1) = (C.side.map (·.1))[i2]'(by simpa using b2) := by simp [e1, e2, e]
          exact nodup_inj h2 _ _ hh
        subst this
        rw [← e1, ← e2]
      refine ⟨w.heap.size, by rw [upd_same], fun j u hu => ?_, fun e => ?_, by omega⟩
      · exact cell_new _ _ _ j u (by simpa using hu)
      · have := (ht.own.lt _ e.symm).2
        omega
    · rw [upd_other _ _ e] at hlq
      obtain ⟨t, g1, g2, g3, g4⟩ := hside q hq hlq
      exact ⟨t, by rw [upd_other _ _ e]; exact g1, fun j u hu => (hb.cell (p := ⟨t, j, none⟩) g4).trans (g2 j u hu), g3, by omega⟩
/-- Where the row is, when the next operation of the chain comes up. -/
theorem Chain.Far.at {C : Chain} {l : Nat → Bool} {vs : Nat → Value} {w : World} (h : C.Far base n v xs w0 l vs w) {j : Nat} (hj : j < C.pos.length) (h0 : l (C.pos.getD j 0) = false) (h1 : j = 0 ∨ l (C.pos.getD (j - 1) 0) = true) :
    Told base n xs v w0 (C.sofar j) (C.row v vs j) w ∧ ∀ s ∈ C.side, l s.1 = true → ∃ t, vs s.1 = .slice (some ⟨t, 0, none⟩) s.2.length s.2.length ∧ (∀ j u, (byteCells s.2)[j]? = some u → w.cell? ⟨t, j, none⟩ = some u) := by
  obtain ⟨k, hk, hl, ht, hside⟩ := h
  have a1 := hl j hj
  rw [h0] at a1
  have a2 : ¬ j < k := by simpa using a1.symm
  have : k = j := by
    rcases h1 with rfl | h1
    · omega
    · have a3 := hl (j - 1) (by omega)
      rw [h1] at a3
      have a4 : j - 1 < k := by simpa using a3.symm
      omega
  subst this
  exact ⟨ht, fun s hm hls => by obtain ⟨t, g1, g2, _⟩ := hside s hm hls; exact ⟨t, g1, g2⟩⟩
/-- The row is handed on. -/
theorem Chain.Far.on {C : Chain} {l : Nat → Bool} {vs : Nat → Value} {w w' : World} {u : Value} (hap : C.apart = true) (h : C.Far base n v xs w0 l vs w) {j : Nat} (hj : j < C.pos.length) (h0 : l (C.pos.getD j 0) = false) (h1 : j = 0 ∨ l (C.pos.getD (j - 1) 0) = true)
    (hu : Told base (n + (C.sofar j).length) (xs ++ byteCells (C.sofar j)) (C.row v vs j) w (C.add.getD j []) u w') : C.Far base n v xs w0 (upd l (C.pos.getD j 0) true) (upd vs (C.pos.getD j 0) u) w' := by
  have hap0 := hap
  simp only [Chain.apart, Bool.and_eq_true, decide_eq_true_eq] at hap
  obtain ⟨⟨n1, n2, n3⟩, n4⟩ := hap
  obtain ⟨k, hk, hl, ht, hside⟩ := h
  have a1 := hl j hj
  rw [h0] at a1
  have a2 : ¬ j < k := by simpa using a1.symm
  have : k = j := by
    rcases h1 with rfl | h1
    · omega
    · have a3 := hl (j - 1) (by omega)
      rw [h1] at a3
      have a4 : j - 1 < k := by simpa using a3.symm
      omega
  subst this
  have hso : C.sofar (k + 1) = C.sofar k ++ C.add.getD k [] := by
    unfold Chain.sofar
    rw [List.take_add_one, List.flatten_append, List.getD_eq_getElem?_getD, List.getElem?_eq_getElem (by omega)]
    simp only [Option.toList_some, List.flatten_cons, List.flatten_nil, List.append_nil, Option.getD_some]
  have hro : C.row v (upd vs (C.pos.getD k 0) u) (k + 1) = u := by show upd vs _ u _ = u; rw [upd_same]
  refine ⟨k + 1, by omega, fun i hi => ?_, ?_, fun s hm hls => ?_⟩
  · by_cases e : i = k
    · subst e; rw [upd_same]; simp
    · rw [upd_other _ _ (Chain.get_ne n1 hi hj e), hl i hi]
      simp only [decide_eq_decide]; omega
  · rw [hro, hso]; exact ht.trans hu
  · have hne : s.1 ≠ C.pos.getD k 0 := fun e => n3 s hm (by rw [e]; exact get_mem hj)
    rw [upd_other _ _ hne] at hls
    obtain ⟨t, g1, g2, g3, g4⟩ := hside s hm hls
    have hblk : w'.heap[t]? = w.heap[t]? := hu.grown.block t g4 g3
    refine ⟨t, by rw [upd_other _ _ hne]; exact g1, fun i c hc => (World.cell?_of_block (a := ⟨t, i, none⟩) hblk).trans (g2 i c hc), ?_, Nat.lt_of_lt_of_le g4 hu.grown.size⟩
    rw [hro]
    intro e
    rcases hu.place with p | ⟨g, p1, p2⟩
    · exact g3 (e.trans p)
    · rw [p1] at e
      have : t = g := by simpa using e
      omega
theorem Chain.Far.start {C : Chain} {vs : Nat → Value} (hown : w0.ownsRow base 5 1 v n xs) : C.Far base n v xs w0 (fun _ => false) vs w0.drew :=
  ⟨0, Nat.zero_le _, fun j _ => by simp, (told_nil hown).upto (Below.refl _ _).drew, fun s _ h => by cases h⟩
theorem Chain.Far.end {C : Chain} {l : Nat → Bool} {vs : Nat → Value} {w : World} (h : C.Far base n v xs w0 l vs w) (hl : ∀ j, j < C.pos.length → l (C.pos.getD j 0) = true) : Told base n xs v w0 (C.sofar C.pos.length) (C.row v vs C.pos.length) w := by
  obtain ⟨k, hk, g, ht, _⟩ := h
  have : k = C.pos.length := by
    by_cases h0 : C.pos.length = 0
    · omega
    · have a := g (C.pos.length - 1) (by omega)
      rw [hl _ (by omega)] at a
      have : C.pos.length - 1 < k := by simpa using a.symm
      omega
  subst this
  exact ht
end Go.Proofs.YtbpmhgcjefpigaaGreatDoor

