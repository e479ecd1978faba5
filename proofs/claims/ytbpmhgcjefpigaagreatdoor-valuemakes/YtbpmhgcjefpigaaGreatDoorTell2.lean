/- What is in a list or a map, told. -/
import Derived.Test.YtbpmhgcjefpigaaGreatDoorJoin12
namespace Go.Proofs.YtbpmhgcjefpigaaGreatDoor
open Go.RowKit Go.Shelf Go.Lib
set_option linter.unusedVariables false
set_option linter.unusedSimpArgs false
/-- The tables stand below. -/
structure TB (base : Nat) (w : World) : Prop where
  utf : ∀ w', Below base w w' → Tabs w'
  pow : TabBelow Tryz.prog base w "internal/strconv.uint64pow10" .u64 pow10Tab
theorem TB.on {base : Nat} {w w' : World} (h : TB base w) (hb : Below base w w') : TB base w' := ⟨fun w2 h2 => h.utf w2 (hb.trans h2), h.pow.on hb⟩
mutual
/-- A value as it is told. -/
def tellB : Tree → List UInt8
  | .mk k b n s ks ts => if k = 1 then boolBytes b else if k = 2 then itoa n else if k = 4 then [91] ++ tellAllB false ks 0 ts ++ [93] else if k = 5 then [123] ++ tellAllB true ks 0 ts ++ [125] else [110, 117, 108, 108]
/-- What is in it. -/
def tellAllB (mp : Bool) (ks : List ByteArray) : Nat → List Tree → List UInt8
  | _, [] => []
  | i, t :: ts => (if i = 0 then [] else [44, 32]) ++ (if mp then (nameB (ks.getD i ⟨#[]⟩)).data.toList ++ [58, 32] else []) ++ tellB t ++ tellAllB mp ks (i + 1) ts
end
def pieceB (mp : Bool) (ks : List ByteArray) (i : Nat) (t : Tree) : List UInt8 := (if i = 0 then [] else [44, 32]) ++ (if mp then (nameB (ks.getD i ⟨#[]⟩)).data.toList ++ [58, 32] else []) ++ tellB t
theorem tellAllB_snoc (mp : Bool) (ks : List ByteArray) (t : Tree) : ∀ (l : List Tree) (i : Nat), tellAllB mp ks i (l ++ [t]) = tellAllB mp ks i l ++ pieceB mp ks (i + l.length) t
  | [], i => by simp [tellAllB, pieceB]
  | u :: l, i => by
    rw [List.cons_append, tellAllB, tellAllB, tellAllB_snoc mp ks t l (i + 1), List.length_cons]
    simp only [List.append_assoc]
    rw [show i + 1 + l.length = i + (l.length + 1) by omega]
def TellOk (T : Tree) : Prop := ∀ (base n : Nat) (v : Value) (xs : List Value) (tv : Value) (w : World), w.ownsRow base 5 1 v n xs → base ≤ w.heap.size → Lies base w tv T → TB base w → n + (tellB T).length ≤ 1000000000 →
  Calls Tryz.prog 76 #[v, tv] w fun e w' => ∃ v', e = .returned v' ∧ Told base n xs v w (tellB T) v' w'
theorem Told.box {base n : Nat} {xs : List Value} {w w1 : World} {bs : List UInt8} {v v1 : Value} (h : Told base n xs v w bs v1 w1) (hown : w.ownsRow base 5 1 v n xs) {q : Nat} {c : Array Value} {fz : Nat × Nat} (hq : w.heap[q]? = some (.cells c 26 fz)) : w1.heap[q]? = some (.cells c 26 fz) :=
  h.kept hown q _ hq (by simp) (fun c fz e => by cases e)
theorem box_cell {w : World} {q : Nat} {c : Array Value} {fz : Nat × Nat} (hq : w.heap[q]? = some (.cells c 26 fz)) {i : Nat} {u : Value} (hi : c[i]? = some u) : w.cell? ⟨q, i, none⟩ = some u := by
  unfold World.cell?; simp only [hq]; simpa using hi
/-- The keys may be told. -/
def KeyOk (s : ByteArray) : Prop := s.size ≤ 1000000000 ∧ validD s.data.toList = true ∧ countByte s.data.toList 96 = 0
theorem tellAllB_take {mp : Bool} {ks : List ByteArray} {ts : List Tree} {j : Nat} {t : Tree} (h : ts[j]? = some t) : tellAllB mp ks 0 (ts.take (j + 1)) = tellAllB mp ks 0 (ts.take j) ++ pieceB mp ks j t := by
  rw [List.take_add_one, h]
  have hj : j < ts.length := (List.getElem?_eq_some_iff.1 h).1
  have := tellAllB_snoc mp ks t (ts.take j) 0
  rw [Nat.zero_add, List.length_take, Nat.min_eq_left (by omega)] at this
  exact this
theorem tellAllB_le {mp : Bool} {ks : List ByteArray} : ∀ {a b : List Tree} {i : Nat}, (tellAllB mp ks i a).length ≤ (tellAllB mp ks i (a ++ b)).length
  | [], b, i => by simp [tellAllB]
  | u :: a, b, i => by
    have := tellAllB_le (mp := mp) (ks := ks) (a := a) (b := b) (i := i + 1)
    rw [List.cons_append, tellAllB, tellAllB]
    simp only [List.length_append]
    omega
theorem tellAllB_take_le {mp : Bool} {ks : List ByteArray} {ts : List Tree} (j : Nat) : (tellAllB mp ks 0 (ts.take j)).length ≤ (tellAllB mp ks 0 ts).length := by
  have := tellAllB_le (mp := mp) (ks := ks) (a := ts.take j) (b := ts.drop j) (i := 0)
  rwa [List.take_append_drop] at this
theorem nameB_pos (s : ByteArray) : 0 < (nameB s).size := by
  unfold nameB
  by_cases h : bareB s = true
  · rw [if_pos h]
    unfold bareB at h
    simp at h
    exact h.2
  · rw [if_neg h]
    simp only [ByteArray.size_append]
    have : (⟨#[96]⟩ : ByteArray).size = 1 := rfl
    omega
theorem told_len {s : ByteArray} : s.data.toList.length = s.size := rfl
theorem boxes {base n : Nat} {xs : List Value} {w w1 : World} {bs : List UInt8} {v v1 : Value} (h : Told base n xs v w bs v1 w1) (hown : w.ownsRow base 5 1 v n xs) {q : Nat} {a0 a1 a2 a3 a4 a5 : Value} {fz : Nat × Nat} (hq : w.heap[q]? = some (.cells #[a0, a1, a2, a3, a4, a5] 26 fz)) :
    w1.cell? ⟨q, 0, none⟩ = some a0 ∧ w1.cell? ⟨q, 1, none⟩ = some a1 ∧ w1.cell? ⟨q, 2, none⟩ = some a2 ∧ w1.cell? ⟨q, 3, none⟩ = some a3 ∧ w1.cell? ⟨q, 4, none⟩ = some a4 ∧ w1.cell? ⟨q, 5, none⟩ = some a5 :=
  have h := h.box hown hq
  ⟨box_cell h rfl, box_cell h rfl, box_cell h rfl, box_cell h rfl, box_cell h rfl, box_cell h rfl⟩
set_option maxRecDepth 100000 in
set_option maxHeartbeats 4000000 in
theorem tellAll_any (k : Int) (b : Bool) (nn : Int) (s : ByteArray) (ks : List ByteArray) (ts : List Tree) (ih : ∀ t ∈ ts, TellOk t) (hkey : k = 5 → ks.length = ts.length ∧ ∀ x ∈ ks, KeyOk x) (base n : Nat) (v : Value) (xs : List Value) (tv : Value) (w : World)
    (hown : w.ownsRow base 5 1 v n xs) (hB : base ≤ w.heap.size) (hl : Lies base w tv (.mk k b nn s ks ts)) (htb : TB base w) (hn : n + (tellAllB (decide (k = 5)) ks 0 ts).length ≤ 1000000000) :
    Calls Tryz.prog 100 #[v, tv] w fun e w' => ∃ v', e = .returned v' ∧ Told base n xs v w (tellAllB (decide (k = 5)) ks 0 ts) v' w' := by
  simp only [Lies] at hl
  obtain ⟨ka, kc, la, lc, rfl, ⟨hs1, hs2, hs3, hs4, hs5⟩, hk, ht⟩ := hl
  obtain ⟨W1, hW1⟩ : ∃ W1, w.alloc (.cells #[.int .i64 k, .bool b, .int .i64 nn, .string s, .slice ka ks.length kc, .slice la ts.length lc] 26) = W1 := ⟨_, rfl⟩
  have hb1 : Below w.heap.size w W1 := hW1 ▸ (Below.refl _ _).alloc (Nat.le_refl _) _
  have hq1 : W1.heap[w.heap.size]? = some (.cells #[.int .i64 k, .bool b, .int .i64 nn, .string s, .slice ka ks.length kc, .slice la ts.length lc] 26 (0, 0)) := hW1 ▸ World.alloc_heap_new _ _
  have hown1 := own_below hown hb1
  have hB1 : base ≤ W1.heap.size := Nat.le_trans hB hb1.size
  have HW1 := hidE hW1
  have HX := hidE (And.intro hb1 (And.intro hq1 (And.intro hown1 hB1)))
  have HK := hidE hk
  have HT := hidE ht
  have HKEY := hidE hkey
  have HIH := hidE ih
  have HTB := hidE htb
  have HOWN := hidE hown
  have HN := hidE hn
  clear hW1 hb1 hq1 hown1 hk ht hkey ih htb hown hn
  unfold maxLen at hs3 hs5
  go_enter Tryz.func100, Tryz.ntmps100
  go_wp2_with fail
  rw [HW1.out]
  go_loopw [0, 10] (fun r i wr => ∃ j : Nat, j ≤ ts.length ∧ i = .int .i64 j ∧ Told base n xs v W1 (tellAllB (decide (k = 5)) ks 0 (ts.take j)) r wr) (fun _ i _ => ts.length - (intOf i).toNat)
  case atStart => exact ⟨0, Nat.zero_le _, rfl, by have := told_nil HX.out.2.2.1; simpa [tellAllB] using this⟩
  case round =>
    obtain ⟨j, hj, rfl, htd⟩ := hrel
    revert u0
    intro r htd
    by_cases hlt : j < ts.length
    · obtain ⟨⟨p0, p1, p2, p3, p4, p5⟩, hx⟩ : ∃ t, ts[j]? = some t := ⟨_, List.getElem?_eq_getElem hlt⟩
      obtain ⟨hb1, hq1, hown1, hB1⟩ := HX.out
      have hbr1 : Below base W1 wr := htd.below hown1 hB1
      have hbr : Below base w wr := (hb1.mono hB).trans hbr1
      obtain ⟨bl, off, rfl, hbl, hkl⟩ := HT.out.resolve_left (by intro e; rw [e] at hlt; simp at hlt)
      obtain ⟨ja, jc, jl, jd, ⟨c0, c1, c2, c3, c4, c5⟩, hlx⟩ := (hkl.below hbr hbl).cells hx
      have hbx := htd.box hown1 hq1
      have d0 := box_cell hbx (i := 0) rfl
      have d4 := box_cell hbx (i := 4) rfl
      have hsz : base ≤ wr.heap.size := Nat.le_trans hB1 htd.grown.size
      have hlt2 : w.heap.size < wr.heap.size := lt_of_cell d0
      have hne2 : w.heap.size ≠ wr.heap.size := by omega
      obtain ⟨WA, hWA⟩ : ∃ WA, wr.alloc (.cells #[.int .i64 p0, .bool p1, .int .i64 p2, .string p3, .slice ja p4.length jc, .slice jl p5.length jd] 26) = WA := ⟨_, rfl⟩
      have hba : Below wr.heap.size wr WA := hWA ▸ (Below.refl _ _).alloc (Nat.le_refl _) _
      have hqa : WA.heap[wr.heap.size]? = some (.cells #[.int .i64 p0, .bool p1, .int .i64 p2, .string p3, .slice ja p4.length jc, .slice jl p5.length jd] 26 (0, 0)) := hWA ▸ World.alloc_heap_new _ _
      have hta : Told base n xs v W1 (tellAllB (decide (k = 5)) ks 0 (ts.take j)) r WA := htd.upto hba
      have hbxa : WA.heap[w.heap.size]? = some (.cells #[.int .i64 k, .bool b, .int .i64 nn, .string s, .slice ka ks.length kc, .slice (some ⟨bl, off, none⟩) ts.length lc] 26 (0, 0)) := hta.box hown1 hq1
      have hpc := tellAllB_take (mp := decide (k = 5)) (ks := ks) hx
      have hle := tellAllB_take_le (mp := decide (k = 5)) (ks := ks) (ts := ts) (j + 1)
      rw [hpc, List.length_append] at hle
      have hnn := HN.out
      obtain ⟨A, hA⟩ : ∃ A, tellAllB (decide (k = 5)) ks 0 (ts.take j) = A := ⟨_, rfl⟩
      rw [hA] at hta hpc hle
      have hoka : WA.ownsRow base 5 1 r (n + A.length) (xs ++ byteCells A) := hta.own
      have hsa : base ≤ WA.heap.size := Nat.le_trans hsz hba.size
      have hla : Lies base WA (.agg #[.int .i64 p0, .bool p1, .int .i64 p2, .string p3, .slice ja p4.length jc, .slice jl p5.length jd]) (.mk p0 p1 p2 p3 p4 p5) := hlx.below (hba.mono hsz)
      have hbwa : Below base w WA := hbr.trans (hba.mono hsz)
      have HTA := hidE hta
      have HPC := hidE hpc
      have HWA := hidE hWA
      have HIHT := hidE (HIH.out _ (List.mem_of_getElem? hx))
      have HA := hidE (And.intro hoka (And.intro hsa (And.intro hla (And.intro hbwa (And.intro hqa hbxa)))))
      have HLE := hidE (And.intro hle hnn)
      clear htd hx hkl hlx hbx hba hqa hta hbxa hpc hle hnn hA hoka hsa hla hbwa hWA hbr hbr1 hb1 hq1 hown1
      by_cases hj0 : j = 0
      · by_cases hk5 : k = 5
        · have hkk : (k == 5) = true := by simp [hk5]
          have hpb : pieceB (decide (k = 5)) ks j (.mk p0 p1 p2 p3 p4 p5) = (nameB (ks.getD j ⟨#[]⟩)).data.toList ++ ([58, 32] ++ (tellB (.mk p0 p1 p2 p3 p4 p5))) := by simp [pieceB, hj0, hk5]
          have hlen := HLE.out
          rw [hpb] at hlen
          try simp only [List.length_append, List.length_cons, List.length_nil, told_len] at hlen
          have HPB := hidE hpb
          have HJ0 := hidE hj0
          clear hpb hj0
          obtain ⟨hok, hsz2, hlz, hbz, hqz, hbxz⟩ := HA.out
          have hz : ¬ (0 : Int) < (j : Int) := by have := HJ0.out; omega
          obtain ⟨hkl, hko⟩ := HKEY.out hk5
          obtain ⟨kb, ko, rfl, hkb, hkc⟩ := HK.out.resolve_left (by intro e; rw [e] at hkl; simp at hkl; omega)
          obtain ⟨hkc1, hkc2⟩ := hkc j (by omega)
          obtain ⟨y, hy⟩ : ∃ y, ks.getD j ⟨#[]⟩ = y := ⟨_, rfl⟩
          have hym : y ∈ ks := by
            rw [← hy, List.getD_eq_getElem?_getD, List.getElem?_eq_getElem (by omega)]
            exact List.getElem_mem _
          obtain ⟨hy1, hy2, hy3⟩ := hko y hym
          rw [hy] at HPB hlen hkc1
          have hjk : j < ks.length := by omega
          have HKC := hidE (And.intro hkb hkc1)
          have HY := hidE (And.intro hy1 (And.intro hy2 hy3))
          clear hkc hkc1 hkc2 hko hy1 hy2 hy3 hym hkb hkl
          have HLEN := hidE hlen
          have HK5 := hidE hk5
          clear hlen hk5
          have kc1 := (hbz.cell (p := ⟨kb, ko + j, none⟩) HKC.out.1).trans HKC.out.2
          have HU1 : Hid (Told base (n + A.length) (xs ++ byteCells A) r WA [] r WA) := told_nil hok
          have kcr : wr.cell? ⟨kb, ko + j, none⟩ = some (.string y) := by
            have := HKC.out.1
            rw [← kc1, ← HWA.out]
            exact (World.cell?_alloc_lt wr _ _ (by show kb < _; omega)).symm
          have hkb2 : kb < wr.heap.size := by have := HKC.out.1; omega
          have hkb3 : kb ≠ wr.heap.size := by omega
          go_wp2_with fail
          rw [HWA.out]
          refine (name_any y (by have := HY.out.1; omega) HY.out.2.1 HY.out.2.2 WA (HTB.out.utf _ (hbz.trans (HU1.out.below hok hsz2)))).mono ?_
          rintro e w2 ⟨rfl, hbn⟩
          have HU2 : Hid (Told base (n + A.length) (xs ++ byteCells A) r WA ([] : List UInt8) r w2) := HU1.out.upto hbn
          have ho2 : w2.ownsRow base 5 1 r (n + A.length + ([] : List UInt8).length) (xs ++ byteCells A ++ byteCells ([] : List UInt8)) := HU2.out.own
          have hs2' : base ≤ w2.heap.size := by have := HU2.out.grown.size; omega
          obtain ⟨y0, y1, y2, y3, y4, y5⟩ := boxes HU2.out hok hqz
          obtain ⟨x0, x1, x2, x3, x4, x5⟩ := boxes HU2.out hok hbxz
          clear hbn
          have hnl : (nameB y).data.toList.length = (nameB y).size := rfl
          go_wp2_with (first | (at_builtin; refine append_text w2 rfl _ _ rfl base (n + A.length + ([] : List UInt8).length) r (xs ++ byteCells A ++ byteCells ([] : List UInt8)) rfl ho2 (nameB y) rfl (nameB_pos y) (by have := HLEN.out; simp only [List.length_cons, List.length_nil]; omega) hs2' ?_; intro v3 w3 ht3; have HU3 := hidE (HU2.out.trans ht3); obtain ⟨y0, y1, y2, y3, y4, y5⟩ := boxes HU3.out hok hqz) | (at_builtin; refine append_text w3 rfl _ _ rfl base _ v3 _ rfl HU3.out.own ⟨#[58, 32]⟩ rfl (by decide) (by have := HLEN.out; simp only [List.length_append, List.length_cons, List.length_nil, hnl]; show _ + 2 ≤ _; omega) (by have := HU3.out.grown.size; omega) ?_; intro v4 w4 ht4; obtain ⟨y0, y1, y2, y3, y4, y5⟩ := boxes (HU3.out.trans ht4) hok hqz))
          have HU4 : Hid (Told base (n + A.length) (xs ++ byteCells A) r WA (([] : List UInt8) ++ (nameB y).data.toList ++ [58, 32]) v4 w4) := HU3.out.trans ht4
          clear ht3 ht4
          have hbl : Below base w w4 := hbz.trans (HU4.out.below hok hsz2)
          have hol := HU4.out.own
          refine (HIHT.out base _ v4 _ _ w4 hol (by have := HU4.out.grown.size; omega) (hlz.below (HU4.out.below hok hsz2)) (HTB.out.on hbl) (by have := HLEN.out; simp only [List.length_append, List.length_cons, List.length_nil, told_len]; omega)).mono ?_
          rintro e w9 ⟨v9, rfl, ht9⟩
          have HT9 : Hid (Told base (n + A.length) (xs ++ byteCells A) r WA ((([] : List UInt8) ++ (nameB y).data.toList ++ [58, 32]) ++ tellB (.mk p0 p1 p2 p3 p4 p5)) v9 w9) := HU4.out.trans ht9
          clear hol hbl
          clear ht9
          go_wp2_with fail
          go_roundw
          case rel =>
            refine ⟨j + 1, by omega, by go_num, ?_⟩
            rw [HPC.out, HPB.out]
            have h9 := HTA.out.trans HT9.out
            simpa only [List.nil_append, List.append_assoc] using h9
          case measure => simp [intOf]; omega
        · have hkk : (k == 5) = false := by simp [hk5]
          have hpb : pieceB (decide (k = 5)) ks j (.mk p0 p1 p2 p3 p4 p5) = tellB (.mk p0 p1 p2 p3 p4 p5) := by simp [pieceB, hj0, hk5]
          have hlen := HLE.out
          rw [hpb] at hlen
          try simp only [List.length_append, List.length_cons, List.length_nil, told_len] at hlen
          have HPB := hidE hpb
          have HJ0 := hidE hj0
          clear hpb hj0
          obtain ⟨hok, hsz2, hlz, hbz, hqz, hbxz⟩ := HA.out
          have hz : ¬ (0 : Int) < (j : Int) := by have := HJ0.out; omega
          have HLEN := hidE hlen
          have HK5 := hidE hk5
          clear hlen hk5
          go_wp2_with fail
          rw [HWA.out]
          have ht0 := told_nil hok
          have HU : Hid (Told base (n + A.length) (xs ++ byteCells A) r WA [] r WA) := ht0
          refine (HIHT.out base (n + A.length) r (xs ++ byteCells A) _ WA hok hsz2 hlz (HTB.out.on hbz) (by have := HLEN.out; omega)).mono ?_
          rintro e w9 ⟨v9, rfl, ht9⟩
          have HT9 : Hid (Told base (n + A.length) (xs ++ byteCells A) r WA (tellB (.mk p0 p1 p2 p3 p4 p5)) v9 w9) := ht9
          clear ht9
          go_wp2_with fail
          go_roundw
          case rel =>
            refine ⟨j + 1, by omega, by go_num, ?_⟩
            rw [HPC.out, HPB.out]
            have h9 := HTA.out.trans HT9.out
            simpa only [List.nil_append, List.append_assoc] using h9
          case measure => simp [intOf]; omega
      · by_cases hk5 : k = 5
        · have hkk : (k == 5) = true := by simp [hk5]
          have hpb : pieceB (decide (k = 5)) ks j (.mk p0 p1 p2 p3 p4 p5) = [44, 32] ++ ((nameB (ks.getD j ⟨#[]⟩)).data.toList ++ ([58, 32] ++ (tellB (.mk p0 p1 p2 p3 p4 p5)))) := by simp [pieceB, hj0, hk5]
          have hlen := HLE.out
          rw [hpb] at hlen
          try simp only [List.length_append, List.length_cons, List.length_nil, told_len] at hlen
          have HPB := hidE hpb
          have HJ0 := hidE hj0
          clear hpb hj0
          obtain ⟨hok, hsz2, hlz, hbz, hqz, hbxz⟩ := HA.out
          have hz : (0 : Int) < (j : Int) := by have := HJ0.out; omega
          obtain ⟨hkl, hko⟩ := HKEY.out hk5
          obtain ⟨kb, ko, rfl, hkb, hkc⟩ := HK.out.resolve_left (by intro e; rw [e] at hkl; simp at hkl; omega)
          obtain ⟨hkc1, hkc2⟩ := hkc j (by omega)
          obtain ⟨y, hy⟩ : ∃ y, ks.getD j ⟨#[]⟩ = y := ⟨_, rfl⟩
          have hym : y ∈ ks := by
            rw [← hy, List.getD_eq_getElem?_getD, List.getElem?_eq_getElem (by omega)]
            exact List.getElem_mem _
          obtain ⟨hy1, hy2, hy3⟩ := hko y hym
          rw [hy] at HPB hlen hkc1
          have hjk : j < ks.length := by omega
          have HKC := hidE (And.intro hkb hkc1)
          have HY := hidE (And.intro hy1 (And.intro hy2 hy3))
          clear hkc hkc1 hkc2 hko hy1 hy2 hy3 hym hkb hkl
          have HLEN := hidE hlen
          have HK5 := hidE hk5
          clear hlen hk5
          go_wp2_with (at_builtin; rw [HWA.out]; refine append_text WA rfl _ _ rfl base (n + A.length) r (xs ++ byteCells A) rfl hok ⟨#[44, 32]⟩ rfl (by decide) (by have := HLEN.out; show n + A.length + 2 ≤ _; omega) hsz2 ?_; intro v1 w1 ht1; obtain ⟨y0, y1, y2, y3, y4, y5⟩ := boxes ht1 hok hqz; obtain ⟨x0, x1, x2, x3, x4, x5⟩ := boxes ht1 hok hbxz; have kc1 := ((hbz.trans (ht1.below hok hsz2)).cell (p := ⟨kb, ko + j, none⟩) HKC.out.1).trans HKC.out.2)
          have HU1 : Hid (Told base (n + A.length) (xs ++ byteCells A) r WA [44, 32] v1 w1) := ht1
          refine (name_any y (by have := HY.out.1; omega) HY.out.2.1 HY.out.2.2 w1 (HTB.out.utf _ (hbz.trans (HU1.out.below hok hsz2)))).mono ?_
          rintro e w2 ⟨rfl, hbn⟩
          have HU2 : Hid (Told base (n + A.length) (xs ++ byteCells A) r WA ([44, 32] : List UInt8) v1 w2) := HU1.out.upto hbn
          have ho2 : w2.ownsRow base 5 1 v1 (n + A.length + ([44, 32] : List UInt8).length) (xs ++ byteCells A ++ byteCells ([44, 32] : List UInt8)) := HU2.out.own
          have hs2' : base ≤ w2.heap.size := by have := HU2.out.grown.size; omega
          obtain ⟨y0, y1, y2, y3, y4, y5⟩ := boxes HU2.out hok hqz
          obtain ⟨x0, x1, x2, x3, x4, x5⟩ := boxes HU2.out hok hbxz
          clear hbn
          have hnl : (nameB y).data.toList.length = (nameB y).size := rfl
          go_wp2_with (first | (at_builtin; refine append_text w2 rfl _ _ rfl base (n + A.length + ([44, 32] : List UInt8).length) v1 (xs ++ byteCells A ++ byteCells ([44, 32] : List UInt8)) rfl ho2 (nameB y) rfl (nameB_pos y) (by have := HLEN.out; simp only [List.length_cons, List.length_nil]; omega) hs2' ?_; intro v3 w3 ht3; have HU3 := hidE (HU2.out.trans ht3); obtain ⟨y0, y1, y2, y3, y4, y5⟩ := boxes HU3.out hok hqz) | (at_builtin; refine append_text w3 rfl _ _ rfl base _ v3 _ rfl HU3.out.own ⟨#[58, 32]⟩ rfl (by decide) (by have := HLEN.out; simp only [List.length_append, List.length_cons, List.length_nil, hnl]; show _ + 2 ≤ _; omega) (by have := HU3.out.grown.size; omega) ?_; intro v4 w4 ht4; obtain ⟨y0, y1, y2, y3, y4, y5⟩ := boxes (HU3.out.trans ht4) hok hqz))
          have HU4 : Hid (Told base (n + A.length) (xs ++ byteCells A) r WA (([44, 32] : List UInt8) ++ (nameB y).data.toList ++ [58, 32]) v4 w4) := HU3.out.trans ht4
          clear ht3 ht4
          have hbl : Below base w w4 := hbz.trans (HU4.out.below hok hsz2)
          have hol := HU4.out.own
          refine (HIHT.out base _ v4 _ _ w4 hol (by have := HU4.out.grown.size; omega) (hlz.below (HU4.out.below hok hsz2)) (HTB.out.on hbl) (by have := HLEN.out; simp only [List.length_append, List.length_cons, List.length_nil, told_len]; omega)).mono ?_
          rintro e w9 ⟨v9, rfl, ht9⟩
          have HT9 : Hid (Told base (n + A.length) (xs ++ byteCells A) r WA ((([44, 32] : List UInt8) ++ (nameB y).data.toList ++ [58, 32]) ++ tellB (.mk p0 p1 p2 p3 p4 p5)) v9 w9) := HU4.out.trans ht9
          clear hol hbl
          clear ht9
          go_wp2_with fail
          go_roundw
          case rel =>
            refine ⟨j + 1, by omega, by go_num, ?_⟩
            rw [HPC.out, HPB.out]
            have h9 := HTA.out.trans HT9.out
            simpa only [List.nil_append, List.append_assoc] using h9
          case measure => simp [intOf]; omega
        · have hkk : (k == 5) = false := by simp [hk5]
          have hpb : pieceB (decide (k = 5)) ks j (.mk p0 p1 p2 p3 p4 p5) = [44, 32] ++ (tellB (.mk p0 p1 p2 p3 p4 p5)) := by simp [pieceB, hj0, hk5]
          have hlen := HLE.out
          rw [hpb] at hlen
          try simp only [List.length_append, List.length_cons, List.length_nil, told_len] at hlen
          have HPB := hidE hpb
          have HJ0 := hidE hj0
          clear hpb hj0
          obtain ⟨hok, hsz2, hlz, hbz, hqz, hbxz⟩ := HA.out
          have hz : (0 : Int) < (j : Int) := by have := HJ0.out; omega
          have HLEN := hidE hlen
          have HK5 := hidE hk5
          clear hlen hk5
          go_wp2_with (at_builtin; rw [HWA.out]; refine append_text WA rfl _ _ rfl base (n + A.length) r (xs ++ byteCells A) rfl hok ⟨#[44, 32]⟩ rfl (by decide) (by have := HLEN.out; show n + A.length + 2 ≤ _; omega) hsz2 ?_; intro v1 w1 ht1; obtain ⟨y0, y1, y2, y3, y4, y5⟩ := boxes ht1 hok hqz; obtain ⟨x0, x1, x2, x3, x4, x5⟩ := boxes ht1 hok hbxz)
          have HU1 : Hid (Told base (n + A.length) (xs ++ byteCells A) r WA [44, 32] v1 w1) := ht1
          have hbl : Below base w w1 := hbz.trans (HU1.out.below hok hsz2)
          have hol := HU1.out.own
          refine (HIHT.out base _ v1 _ _ w1 hol (by have := HU1.out.grown.size; omega) (hlz.below (HU1.out.below hok hsz2)) (HTB.out.on hbl) (by have := HLEN.out; simp only [List.length_append, List.length_cons, List.length_nil, told_len]; omega)).mono ?_
          rintro e w9 ⟨v9, rfl, ht9⟩
          have HT9 : Hid (Told base (n + A.length) (xs ++ byteCells A) r WA (([44, 32] : List UInt8) ++ tellB (.mk p0 p1 p2 p3 p4 p5)) v9 w9) := HU1.out.trans ht9
          clear hol hbl
          clear ht9
          go_wp2_with fail
          go_roundw
          case rel =>
            refine ⟨j + 1, by omega, by go_num, ?_⟩
            rw [HPC.out, HPB.out]
            have h9 := HTA.out.trans HT9.out
            simpa only [List.nil_append, List.append_assoc] using h9
          case measure => simp [intOf]; omega
    · obtain ⟨hb1, hq1, hown1, hB1⟩ := HX.out
      have HF : Hid (Told base n xs v w (tellAllB (decide (k = 5)) ks 0 ts) r wr) := by
        rw [List.take_of_length_le (by omega)] at htd
        exact htd.from hb1
      clear htd hb1 hq1 hown1 hB1
      go_wp2_with fail
      go_ret
      exact ⟨_, rfl, HF.out⟩
end Go.Proofs.YtbpmhgcjefpigaaGreatDoor
