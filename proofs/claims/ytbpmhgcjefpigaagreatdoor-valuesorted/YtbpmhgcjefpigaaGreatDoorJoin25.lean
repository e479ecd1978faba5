/- Numbers, told: AppendInt at every number. A row of bytes that grows inside one statement, whatever order the statement's operations are drawn in. The statement that tells a byte by its number, operation by operation, in whatever order. -/
import Derived.Test.YtbpmhgcjefpigaaGreatDoorJoin13
import Derived.Test.YtbpmhgcjefpigaaGreatDoorJoin9
namespace Go.Proofs.YtbpmhgcjefpigaaGreatDoor
open Go.RowKit Go.Shelf Go.Lib Go.Sort
set_option linter.unusedVariables false

/-- 'append(row, bytes...)' in the walk: the bytes lie in a row of their own. -/
theorem append_row {ops : Array Oper} {rest : List Oper} {o : Oper} {a : Act} {Q : Exit → Act → World → Prop} (w : World) (hgd : o.guard = none) (sl x : Operand)
    (ho : o.op = .call { callee := .builtin .append, args := #[sl, x], argTypes := #[67, 67] }) (base n : Nat) (v : Value) (xs : List Value) (hs : a.eval sl = v) (hown : w.ownsRow base 5 1 v n xs) (ad : Addr) (m c : Nat) (bs : List UInt8) (hx : a.eval x = .slice (some ad) m c)
    (hm : bs.length = m) (hc : ∀ j u, (byteCells bs)[j]? = some u → w.cell? (ad.add j) = some u) (hn : n + m ≤ 100000000000000) (hB : base ≤ w.heap.size)
    (h : ∀ v' w', Told base n xs v w bs v' w' → wpList Tryz.prog ops Q rest (a.put o.dst v') w') : wpList Tryz.prog ops Q (o :: rest) a w := by
  refine wpList_plain hgd fun K hK => ?_
  obtain ⟨i0, hi, hz0, hz1, hz2⟩ := info_parts Tryz.info5
  obtain ⟨v', w', hr, h2, h3, _, h5⟩ := run_append_own_at (P := Tryz.prog) w base 67 o.type 5 i0 (.int .u8 0) 1 1 Tryz.underlying67 hi hz0 hz1 hz2 rfl (by decide) v n xs hown ad m c (byteCells bs) (by rw [byteCells_length, hm, Nat.mul_one]) hc
    (by intro u hu; simp only [byteCells, List.mem_map] at hu; obtain ⟨b, _, rfl⟩ := hu; rfl) (by unfold maxLen; omega) (by omega) hB
  unfold Oper.wp execOp
  simp only [ho, resolve, invoke, builtin, Sem.run_bind, Sem.run_pure, Result.andThen_ok, List.map_toArray, List.map_cons, List.map_nil, hs, hx, hr]
  exact hK _ _ (h v' w' ⟨by rw [hm]; exact h2, h3, h5.imp id fun e => ⟨_, e, Nat.le_refl _⟩⟩)

theorem digits_pos (u : Nat) : 0 < (decDigits u).length := by
  rw [decDigits_length]
  by_cases h : u < 10
  · rw [nDigits_small h]; omega
  · rw [nDigits_big h]; omega

set_option maxRecDepth 100000 in
set_option maxHeartbeats 4000000 in
theorem appendUint_small (u : Nat) (hu : u < 100) (base n : Nat) (v : Value) (xs : List Value) (w : World) (hown : w.ownsRow base 5 1 v n xs) (hB : base ≤ w.heap.size) (hn : n ≤ 1000000000000) :
    Calls Tryz.prog 140 #[v, .int .u64 u, .int .i64 10] w fun e w' => ∃ v', e = .returned v' ∧ Told base n xs v w (decDigits u) v' w' := by
  have HS : Hid (∀ W, Calls Tryz.prog 118 #[.int .i64 u] W fun e w' => e = .returned (.string ⟨(decDigits u).toArray⟩) ∧ w' = W) := fun W => Any.internal_strconv_small (ρ := Tryz.laysM176_ren) { Tryz.laysM176 with } u hu W
  have hlen : (decDigits u).length ≤ 20 := by
    rw [decDigits_length]
    by_cases h10 : u < 10
    · rw [nDigits_small h10]; omega
    · rw [nDigits_big h10, nDigits_small (show u / 10 < 10 by omega)]; omega
  have hsz : (⟨(decDigits u).toArray⟩ : ByteArray).size = (decDigits u).length := by simp [ByteArray.size]
  have hp := digits_pos u
  have hu' : (u : Int) < 100 := by omega
  obtain ⟨ds, hds⟩ : ∃ d, decDigits u = d := ⟨_, rfl⟩
  rw [hds] at HS hlen hsz hp ⊢
  clear hds
  go_enter Tryz.func140, Tryz.ntmps140
  go_wp2_with fail
  refine (HS.out w).mono ?_
  rintro e _ ⟨rfl, rfl⟩
  go_wp2_with (at_builtin; refine append_text _ rfl _ _ rfl base n v xs rfl hown ⟨ds.toArray⟩ rfl (by rw [hsz]; exact hp) (by rw [hsz]; omega) hB ?_; intro v' w' ht)
  have HT := hidE ht
  clear ht
  go_ret
  exact ⟨_, rfl, HT.out⟩

set_option maxRecDepth 100000 in
set_option maxHeartbeats 8000000 in
theorem appendUint_big (u : Nat) (hu : 100 ≤ u) (hu64 : u < 18446744073709551616) (base n : Nat) (v : Value) (xs : List Value) (w : World) (hown : w.ownsRow base 5 1 v n xs) (hB : base ≤ w.heap.size) (hn : n ≤ 1000000000000)
    (htab : TabIs Tryz.prog w "internal/strconv.uint64pow10" .u64 pow10Tab) :
    Calls Tryz.prog 140 #[v, .int .u64 u, .int .i64 10] w fun e w' => ∃ v', e = .returned v' ∧ Told base n xs v w (decDigits u) v' w' := by
  have hu1 : 1 ≤ u := by omega
  have hu' : ¬ (u : Int) < 100 := by omega
  have hnd20 : nDigits u ≤ 20 := by have := numDigits_eq u hu1 hu64; split at this <;> omega
  obtain ⟨W1, hW1⟩ : ∃ W1, w.alloc (.cells zeros24 118) = W1 := ⟨_, rfl⟩
  have hb1 : Below w.heap.size w W1 := hW1 ▸ (Below.refl _ _).alloc (Nat.le_refl _) _
  have HND : Hid (Calls Tryz.prog 119 #[.int .u64 u] W1 fun e w' => e = .returned (.int .i64 (nDigits u)) ∧ w' = W1) := Any.internal_strconv_numDigits (ρ := Tryz.laysM176_ren) { Tryz.laysM176 with } u hu1 hu64 W1 (hW1 ▸ tabIs_alloc htab _)
  have hH0 : Holds (fun (b : UInt8) => Value.int .u8 (b.toNat : Int)) W1 w.heap.size 0 (Array.replicate (nDigits u) (0 : UInt8)) := hW1 ▸ holds_zero0 w 118 (nDigits u) (by omega)
  have HFM : Hid (Calls Tryz.prog 120 #[.slice (some ⟨w.heap.size, 0, none⟩) (nDigits u) 24, .int .u64 u] W1 fun e w' => e = .returned (.tuple #[]) ∧ ∃ (k v' : Nat) (dk : Array UInt8), w' = (putRow (fun (b : UInt8) => Value.int .u8 (b.toNat : Int)) W1 w.heap.size 0 dk).drewN k ∧ FmtInv (nDigits u) u 0 v' dk) := by
    have := Any.internal_strconv_formatBase10 (ρ := Tryz.laysM176_ren) { Tryz.laysM176 with } w.heap.size 0 24 u (Array.replicate (nDigits u) 0) W1 hH0 (by rw [Array.size_replicate]; exact lt_pow_nDigits u) hu64 (by rw [Array.size_replicate]; omega)
    rw [Array.size_replicate] at this
    exact this
  have hal : Tryz.prog.arrayLen 118 = 24 := by kernel_rfl
  have hsl : ∀ W : World, (Instr.sliceAt 118 (.pointer (some ⟨w.heap.size, 0, none⟩)) none (some (.int .i64 (nDigits u : Int))) none).run Tryz.prog W = .ok (.slice (some ⟨w.heap.size, 0, none⟩) (nDigits u) 24) W := fun W => by
    rw [run_sliceAt_array_h W 118 ⟨w.heap.size, 0, none⟩ (by kernel_rfl) .i64 (nDigits u : Int) (by omega) (by rw [hal]; omega)]
    rw [hal]
    go_simp
  have HR : Hid (∀ k dk v', FmtInv (nDigits u) u 0 v' dk → Below w.heap.size w ((putRow (fun (b : UInt8) => Value.int .u8 (b.toNat : Int)) W1 w.heap.size 0 dk).drewN k) ∧
      ∀ j c, (byteCells (decDigits u))[j]? = some c → ((putRow (fun (b : UInt8) => Value.int .u8 (b.toNat : Int)) W1 w.heap.size 0 dk).drewN k).cell? ((⟨w.heap.size, 0, none⟩ : Addr).add j) = some c) := fun k dk v' hF => by
    refine ⟨?_, fun j c hj => ?_⟩
    · obtain ⟨os, eo⟩ := fin_at w (.cells zeros24 118) dk k 0
      rw [← hW1, eo]
      exact below_grow w.heap.size w (Nat.le_refl _) k os
    · have hjl : j < (decDigits u).length := by
        have h5 := (List.getElem?_eq_some_iff.1 hj).1
        rwa [byteCells_length] at h5
      have e5 : (byteCells (decDigits u))[j]? = some (Value.int .u8 ((decDigits u)[j].toNat : Int)) := by simp [byteCells, hjl]
      rw [e5] at hj
      cases hj
      rw [row_is_numeral hF j hjl, add_plain, World.cell?_drewN]
      exact cell?_putRow (fun (b : UInt8) => Value.int .u8 (b.toNat : Int)) _ w.heap.size 0 _ dk hH0 (by rw [hF.size, Array.size_replicate]) j (by rw [hF.size]; rw [decDigits_length] at hjl; exact hjl)
  have hdl := decDigits_length u
  have HW1 := hidE hW1
  have HO := hidE (And.intro hown hB)
  clear hW1 hb1 hH0 htab hal hown
  obtain ⟨nd, hnd⟩ : ∃ m, nDigits u = m := ⟨_, rfl⟩
  obtain ⟨ds, hds⟩ : ∃ d, decDigits u = d := ⟨_, rfl⟩
  rw [hnd, hds] at hdl
  rw [hnd] at hsl hnd20 HFM HND
  rw [hnd, hds] at HR
  rw [hds]
  clear hnd hds
  go_enter Tryz.func140, Tryz.ntmps140
  go_wp2_with fail
  show Calls Tryz.prog 119 _ (w.alloc (.cells zeros24 118)) _
  rw [HW1.out]
  refine HND.out.mono ?_
  rintro e w1 ⟨rfl, hw1⟩
  rw [hw1]
  clear HND HW1 hw1
  go_wp2_with fail
  refine HFM.out.mono ?_
  rintro e w2 ⟨rfl, k, v', dk, rfl, hF⟩
  obtain ⟨hb2, hc2⟩ := HR.out k dk v' hF
  generalize (putRow (fun (b : UInt8) => Value.int .u8 (b.toNat : Int)) W1 w.heap.size 0 dk).drewN k = W2 at hb2 hc2 ⊢
  have hown2 := own_below HO.out.1 hb2
  have hB2 : base ≤ W2.heap.size := Nat.le_trans HO.out.2 hb2.size
  have HB2 := hidE hb2
  clear hb2 HFM HR hF
  go_wp2_with (at_builtin; refine append_row _ rfl _ _ rfl base n v xs rfl hown2 ⟨w.heap.size, 0, none⟩ nd 24 ds rfl hdl hc2 (by omega) hB2 ?_; intro v3 w3 ht)
  have HT := hidE (ht.from HB2.out)
  clear ht
  go_ret
  exact ⟨_, rfl, HT.out⟩

theorem appendUint_any (u : Nat) (hu64 : u < 18446744073709551616) (base n : Nat) (v : Value) (xs : List Value) (w : World) (hown : w.ownsRow base 5 1 v n xs) (hB : base ≤ w.heap.size) (hn : n ≤ 1000000000000)
    (htab : TabIs Tryz.prog w "internal/strconv.uint64pow10" .u64 pow10Tab) :
    Calls Tryz.prog 140 #[v, .int .u64 u, .int .i64 10] w fun e w' => ∃ v', e = .returned v' ∧ Told base n xs v w (decDigits u) v' w' := by
  by_cases h : u < 100
  · exact appendUint_small u h base n v xs w hown hB hn
  · exact appendUint_big u (by omega) hu64 base n v xs w hown hB hn htab

set_option maxRecDepth 100000 in
set_option maxHeartbeats 4000000 in
theorem appendInt_in (i : Int) (h0 : -9223372036854775808 ≤ i) (h1 : i ≤ 9223372036854775807) (base n : Nat) (v : Value) (xs : List Value) (w : World) (hown : w.ownsRow base 5 1 v n xs) (hB : base ≤ w.heap.size) (hn : n ≤ 1000000000) (htab : TabBelow Tryz.prog base w "internal/strconv.uint64pow10" .u64 pow10Tab) :
    Calls Tryz.prog 117 #[v, .int .i64 i, .int .i64 10] w fun e w' => ∃ v', e = .returned v' ∧ Told base n xs v w (itoa i) v' w' := by
  by_cases hneg : i < 0
  · obtain ⟨u, rfl⟩ : ∃ u : Nat, i = -(u : Int) := ⟨i.natAbs, by omega⟩
    have hu1 : 1 ≤ u := by omega
    have hu64 : u < 18446744073709551616 := by omega
    have hwr : IntKind.u64.wrap (-IntKind.u64.wrap (-(u : Int))) = (u : Int) := by rw [IntKind.wrap_u64, IntKind.wrap_u64]; omega
    rw [itoa_neg u hu1]
    obtain ⟨W1, hW1⟩ : ∃ W1, w.alloc (.cells #[.int .u8 45] 5) = W1 := ⟨_, rfl⟩
    have hb1 : Below w.heap.size w W1 := hW1 ▸ (Below.refl _ _).alloc (Nat.le_refl _) _
    have hown1 := own_below hown hb1
    have hB1 : base ≤ W1.heap.size := Nat.le_trans hB hb1.size
    have hc1 : ∀ j c, (byteCells [45])[j]? = some c → W1.cell? ((⟨w.heap.size, 0, none⟩ : Addr).add j) = some c := fun j c hj => by
      rw [← hW1]; exact cell_one_new w (.int .u8 45) 5 j c hj
    have HX := hidE (And.intro hb1 (And.intro htab (And.intro hown1 hB1)))
    have HW1 := hidE hW1
    clear hW1 hb1 htab hown
    go_enter Tryz.func117, Tryz.ntmps117
    go_wp2_with (at_builtin; rw [HW1.out]; refine append_row W1 rfl _ _ rfl base n v xs rfl hown1 ⟨w.heap.size, 0, none⟩ 1 1 [45] rfl rfl hc1 (by omega) hB1 ?_; intro v1 w1 ht)
    have hbw : Below base w w1 := (HX.out.1.mono hB).trans (ht.below hown1 hB1)
    have HC := hidE (appendUint_any u hu64 base (n + 1) v1 (xs ++ byteCells [45]) w1 ht.own (Nat.le_trans hB1 ht.grown.size) (by omega) (HX.out.2.1 w1 hbw))
    have HT := hidE ht
    clear ht hbw hown1 hc1
    refine HC.out.mono ?_
    rintro e w2 ⟨v2, rfl, ht2⟩
    have HT2 : Hid (Told base n xs v w (45 :: decDigits u) v2 w2) := (HT.out.trans (bs := [45]) ht2).from HX.out.1
    clear ht2 HC
    go_wp2_with fail
    go_ret
    exact ⟨_, rfl, HT2.out⟩
  · obtain ⟨u, rfl⟩ : ∃ u : Nat, i = (u : Int) := ⟨i.toNat, by omega⟩
    have hu64 : u < 18446744073709551616 := by omega
    have hwr : IntKind.u64.wrap (u : Int) = (u : Int) := by rw [IntKind.wrap_u64]; omega
    rw [itoa_nonneg u]
    have HC := hidE (appendUint_any u hu64 base n v xs w hown hB (by omega) (htab w (Below.refl _ _)))
    clear hown htab
    go_enter Tryz.func117, Tryz.ntmps117
    go_wp2_with fail
    refine HC.out.mono ?_
    rintro e w' ⟨v', rfl, ht⟩
    have HT := hidE ht
    clear ht HC
    go_wp2_with fail
    go_ret
    exact ⟨_, rfl, HT.out⟩

theorem intOk_all (i : Int) (h0 : -9223372036854775808 ≤ i) (h1 : i ≤ 9223372036854775807) : IntOk i := by
  intro base n v xs w hown hB hn htb
  have HC := hidE (appendInt_in i h0 h1 base n v xs w hown hB hn htb.2)
  clear hown
  go_enter Tryz.func99, Tryz.ntmps99
  go_wp2_with fail
  refine HC.out.mono ?_
  rintro e w' ⟨v', rfl, ht⟩
  have HT := hidE ht
  clear ht HC
  go_wp2_with fail
  go_ret
  exact ⟨_, rfl, HT.out⟩
end Go.Proofs.YtbpmhgcjefpigaaGreatDoor

namespace Go.Proofs.YtbpmhgcjefpigaaGreatDoor
open Go.RowKit Go.Shelf Go.Lib
set_option linter.unusedVariables false

/-- The operations that hand the row on, with what each puts behind it; the rows that are built for it, with their bytes. -/
structure Chain where
  pos : List Nat
  add : List (List UInt8)
  side : List (Nat × List UInt8)
namespace Chain
def row (C : Chain) (v : Value) (vs : Nat → Value) : Nat → Value
  | 0 => v
  | k + 1 => vs (C.pos.getD k 0)
def sofar (C : Chain) (k : Nat) : List UInt8 := (C.add.take k).flatten
/-- How far it has come. -/
def Far (C : Chain) (base n : Nat) (v : Value) (xs : List Value) (w0 : World) (l : Nat → Bool) (vs : Nat → Value) (w : World) : Prop :=
  ∃ k, k ≤ C.pos.length ∧ (∀ j, j < C.pos.length → l (C.pos.getD j 0) = decide (j < k)) ∧ Told base n xs v w0 (C.sofar k) (C.row v vs k) w ∧
    ∀ s ∈ C.side, l s.1 = true → ∃ t, vs s.1 = .slice (some ⟨t, 0, none⟩) s.2.length s.2.length ∧ (∀ j u, (byteCells s.2)[j]? = some u → w.cell? ⟨t, j, none⟩ = some u) ∧ some t ≠ (C.row v vs k).ownBlock ∧ t < w.heap.size
/-- The places are apart. -/
def apart (C : Chain) : Bool := decide (C.pos.Nodup ∧ (C.side.map (·.1)).Nodup ∧ ∀ s ∈ C.side, s.1 ∉ C.pos) && decide (C.add.length = C.pos.length)
end Chain

theorem nodup_inj {α : Type} {l : List α} (h : l.Nodup) {i j : Nat} (hi : i < l.length) (hj : j < l.length) (e : l[i] = l[j]) : i = j := by
  rcases Nat.lt_trichotomy i j with h1 | h1 | h1
  · exact absurd e (List.pairwise_iff_getElem.1 h i j hi hj h1)
  · exact h1
  · exact absurd e.symm (List.pairwise_iff_getElem.1 h j i hj hi h1)
variable {base n : Nat} {v : Value} {xs : List Value} {w0 : World}
theorem Chain.row_upd {C : Chain} {vs : Nat → Value} {i k : Nat} {u : Value} (hi : i ∉ C.pos) (hk : k ≤ C.pos.length) : C.row v (upd vs i u) k = C.row v vs k := by
  cases k with
  | zero => rfl
  | succ k =>
    show upd vs i u (C.pos.getD k 0) = vs (C.pos.getD k 0)
    refine upd_other _ _ fun e => hi ?_
    rw [← e, List.getD_eq_getElem?_getD, List.getElem?_eq_getElem (by omega)]
    exact List.getElem_mem _
theorem Chain.get_mem {C : Chain} {j : Nat} (h : j < C.pos.length) : C.pos.getD j 0 ∈ C.pos := by
  rw [List.getD_eq_getElem?_getD, List.getElem?_eq_getElem h]; exact List.getElem_mem _
theorem Chain.get_ne {C : Chain} (hn : C.pos.Nodup) {i j : Nat} (hi : i < C.pos.length) (hj : j < C.pos.length) (h : i ≠ j) : C.pos.getD i 0 ≠ C.pos.getD j 0 := by
  rw [List.getD_eq_getElem?_getD, List.getElem?_eq_getElem hi, List.getD_eq_getElem?_getD, List.getElem?_eq_getElem hj]
  intro e
  exact h (nodup_inj hn hi hj e)

/-- An operation beside the row: nothing turns. -/
theorem Chain.Far.beside {C : Chain} {l : Nat → Bool} {vs : Nat → Value} {w : World} (h : C.Far base n v xs w0 l vs w) {i : Nat} (hi : i ∉ C.pos) (hs : ∀ s ∈ C.side, s.1 ≠ i) (u : Value) : C.Far base n v xs w0 (upd l i true) (upd vs i u) w := by
  obtain ⟨k, hk, hl, ht, hside⟩ := h
  refine ⟨k, hk, fun j hj => ?_, ?_, fun s hm hls => ?_⟩
  · rw [upd_other _ _ (fun e => hi (by rw [← e]; exact get_mem hj))]; exact hl j hj
  · rw [Chain.row_upd hi hk]; exact ht
  · rw [upd_other _ _ (hs s hm)] at hls
    obtain ⟨t, h1, h2, h3, h4⟩ := hside s hm hls
    exact ⟨t, by rw [upd_other _ _ (hs s hm)]; exact h1, h2, by rw [Chain.row_upd hi hk]; exact h3, h4⟩
/-- A row is built for it. -/
theorem Chain.Far.built {C : Chain} {l : Nat → Bool} {vs : Nat → Value} {w : World} (hap : C.apart = true) (h : C.Far base n v xs w0 l vs w) {s : Nat × List UInt8} (hm : s ∈ C.side) :
    C.Far base n v xs w0 (upd l s.1 true) (upd vs s.1 (.slice (some ⟨w.heap.size, 0, none⟩) s.2.length s.2.length)) (w.alloc (.cells (byteCells s.2).toArray 5)) := by
  simp only [Chain.apart, Bool.and_eq_true, decide_eq_true_eq] at hap
  obtain ⟨⟨h1, h2, h3⟩, _⟩ := hap
  have hi := h3 s hm
  obtain ⟨k, hk, hl, ht, hside⟩ := h
  have hb : Below w.heap.size w (w.alloc (.cells (byteCells s.2).toArray 5)) := (Below.refl _ _).alloc (Nat.le_refl _) _
  have hsz : (w.alloc (.cells (byteCells s.2).toArray 5)).heap.size = w.heap.size + 1 := by simp
  refine ⟨k, hk, fun j hj => ?_, ?_, fun q hq hlq => ?_⟩
  · rw [upd_other _ _ (fun e => hi (by rw [← e]; exact get_mem hj))]; exact hl j hj
  · rw [Chain.row_upd hi hk]; exact ht.upto hb
  · rw [Chain.row_upd hi hk]
    by_cases e : q.1 = s.1
    · obtain rfl : q = s := by
        have hp := List.pairwise_map.1 h2
        rcases List.mem_iff_getElem.1 hq with ⟨i1, b1, e1⟩
        rcases List.mem_iff_getElem.1 hm with ⟨i2, b2, e2⟩
        have : i1 = i2 := by
          have hh : (C.side.map (·.1))[i1]'(by simpa using b1) = (C.side.map (·.1))[i2]'(by simpa using b2) := by simp [e1, e2, e]
          exact nodup_inj h2 _ _ hh
        subst this
        rw [← e1, ← e2]
      refine ⟨w.heap.size, by rw [upd_same], fun j u hu => ?_, fun e => ?_, by omega⟩
      · exact cell_new _ _ _ j u (by simpa using hu)
      · have := (ht.own.lt _ e.symm).2
        omega
    · rw [upd_other _ _ e] at hlq
      obtain ⟨t, g1, g2, g3, g4⟩ := hside q hq hlq
      exact ⟨t, by rw [upd_other _ _ e]; exact g1, fun j u hu => (hb.cell (p := ⟨t, j, none⟩) g4).trans (g2 j u hu), g3, by omega⟩
/-- Where the row is, when the next operation of the chain comes up. -/
theorem Chain.Far.at {C : Chain} {l : Nat → Bool} {vs : Nat → Value} {w : World} (h : C.Far base n v xs w0 l vs w) {j : Nat} (hj : j < C.pos.length) (h0 : l (C.pos.getD j 0) = false) (h1 : j = 0 ∨ l (C.pos.getD (j - 1) 0) = true) :
    Told base n xs v w0 (C.sofar j) (C.row v vs j) w ∧ ∀ s ∈ C.side, l s.1 = true → ∃ t, vs s.1 = .slice (some ⟨t, 0, none⟩) s.2.length s.2.length ∧ (∀ j u, (byteCells s.2)[j]? = some u → w.cell? ⟨t, j, none⟩ = some u) := by
  obtain ⟨k, hk, hl, ht, hside⟩ := h
  have a1 := hl j hj
  rw [h0] at a1
  have a2 : ¬ j < k := by simpa using a1.symm
  have : k = j := by
    rcases h1 with rfl | h1
    · omega
    · have a3 := hl (j - 1) (by omega)
      rw [h1] at a3
      have a4 : j - 1 < k := by simpa using a3.symm
      omega
  subst this
  exact ⟨ht, fun s hm hls => by obtain ⟨t, g1, g2, _⟩ := hside s hm hls; exact ⟨t, g1, g2⟩⟩
/-- The row is handed on. -/
theorem Chain.Far.on {C : Chain} {l : Nat → Bool} {vs : Nat → Value} {w w' : World} {u : Value} (hap : C.apart = true) (h : C.Far base n v xs w0 l vs w) {j : Nat} (hj : j < C.pos.length) (h0 : l (C.pos.getD j 0) = false) (h1 : j = 0 ∨ l (C.pos.getD (j - 1) 0) = true)
    (hu : Told base (n + (C.sofar j).length) (xs ++ byteCells (C.sofar j)) (C.row v vs j) w (C.add.getD j []) u w') : C.Far base n v xs w0 (upd l (C.pos.getD j 0) true) (upd vs (C.pos.getD j 0) u) w' := by
  have hap0 := hap
  simp only [Chain.apart, Bool.and_eq_true, decide_eq_true_eq] at hap
  obtain ⟨⟨n1, n2, n3⟩, n4⟩ := hap
  obtain ⟨k, hk, hl, ht, hside⟩ := h
  have a1 := hl j hj
  rw [h0] at a1
  have a2 : ¬ j < k := by simpa using a1.symm
  have : k = j := by
    rcases h1 with rfl | h1
    · omega
    · have a3 := hl (j - 1) (by omega)
      rw [h1] at a3
      have a4 : j - 1 < k := by simpa using a3.symm
      omega
  subst this
  have hso : C.sofar (k + 1) = C.sofar k ++ C.add.getD k [] := by
    unfold Chain.sofar
    rw [List.take_add_one, List.flatten_append, List.getD_eq_getElem?_getD, List.getElem?_eq_getElem (by omega)]
    simp only [Option.toList_some, List.flatten_cons, List.flatten_nil, List.append_nil, Option.getD_some]
  have hro : C.row v (upd vs (C.pos.getD k 0) u) (k + 1) = u := by show upd vs _ u _ = u; rw [upd_same]
  refine ⟨k + 1, by omega, fun i hi => ?_, ?_, fun s hm hls => ?_⟩
  · by_cases e : i = k
    · subst e; rw [upd_same]; simp
    · rw [upd_other _ _ (Chain.get_ne n1 hi hj e), hl i hi]
      simp only [decide_eq_decide]; omega
  · rw [hro, hso]; exact ht.trans hu
  · have hne : s.1 ≠ C.pos.getD k 0 := fun e => n3 s hm (by rw [e]; exact get_mem hj)
    rw [upd_other _ _ hne] at hls
    obtain ⟨t, g1, g2, g3, g4⟩ := hside s hm hls
    have hblk : w'.heap[t]? = w.heap[t]? := hu.grown.block t g4 g3
    refine ⟨t, by rw [upd_other _ _ hne]; exact g1, fun i c hc => (World.cell?_of_block (a := ⟨t, i, none⟩) hblk).trans (g2 i c hc), ?_, Nat.lt_of_lt_of_le g4 hu.grown.size⟩
    rw [hro]
    intro e
    rcases hu.place with p | ⟨g, p1, p2⟩
    · exact g3 (e.trans p)
    · rw [p1] at e
      have : t = g := by simpa using e
      omega
theorem Chain.Far.start {C : Chain} {vs : Nat → Value} (hown : w0.ownsRow base 5 1 v n xs) : C.Far base n v xs w0 (fun _ => false) vs w0.drew :=
  ⟨0, Nat.zero_le _, fun j _ => by simp, (told_nil hown).upto (Below.refl _ _).drew, fun s _ h => by cases h⟩
theorem Chain.Far.end {C : Chain} {l : Nat → Bool} {vs : Nat → Value} {w : World} (h : C.Far base n v xs w0 l vs w) (hl : ∀ j, j < C.pos.length → l (C.pos.getD j 0) = true) : Told base n xs v w0 (C.sofar C.pos.length) (C.row v vs C.pos.length) w := by
  obtain ⟨k, hk, g, ht, _⟩ := h
  have : k = C.pos.length := by
    by_cases h0 : C.pos.length = 0
    · omega
    · have a := g (C.pos.length - 1) (by omega)
      rw [hl _ (by omega)] at a
      have : C.pos.length - 1 < k := by simpa using a.symm
      omega
  subst this
  exact ht
end Go.Proofs.YtbpmhgcjefpigaaGreatDoor

namespace Go.Proofs.YtbpmhgcjefpigaaGreatDoor
open Go.RowKit Go.Shelf Go.Lib
set_option linter.unusedVariables false
set_option linter.unusedSimpArgs false

/-- 'append(row, text...)': one operation. -/
theorem chain_text {o : Oper} {a : Act} {w : World} {K : Act → World → Prop} {Q : Exit → Act → World → Prop} (sl x : Operand) (ho : o.op = .call { callee := .builtin .append, args := #[sl, x], argTypes := #[67, 9] }) {base m : Nat} {r : Value} {ys : List Value} {s : ByteArray}
    (hs : a.eval sl = r) (hx : a.eval x = .string s) (hown : w.ownsRow base 5 1 r m ys) (h0 : 0 < s.size) (hn : m + s.size ≤ 100000000000000) (hB : base ≤ w.heap.size) (h : ∀ v' w', Told base m ys r w s.data.toList v' w' → K (a.put o.dst v') w') : Oper.wp Tryz.prog o a w K Q := by
  obtain ⟨i0, hi, hz0, hz1, hz2⟩ := info_parts Tryz.info5
  obtain ⟨v', w', hr, h2, h3, h4⟩ := run_append_own_string (P := Tryz.prog) w base 67 9 o.type 5 i0 Tryz.underlying67 Tryz.underlying9 hi hz0 hz1 hz2 r m ys hown s (by unfold maxLen; omega) (by omega) hB
  unfold Oper.wp execOp
  simp only [ho, resolve, invoke, builtin, Sem.run_bind, Sem.run_pure, Result.andThen_ok, List.map_toArray, List.map_cons, List.map_nil, hs, hx, hr]
  exact h v' w' ⟨h2, h3, append_place hown h0 hn hr⟩
/-- 'append(row, bytes...)': one operation. -/
theorem chain_row {o : Oper} {a : Act} {w : World} {K : Act → World → Prop} {Q : Exit → Act → World → Prop} (sl x : Operand) (ho : o.op = .call { callee := .builtin .append, args := #[sl, x], argTypes := #[67, 67] }) {base m t c : Nat} {r : Value} {ys : List Value} {bs : List UInt8}
    (hs : a.eval sl = r) (hx : a.eval x = .slice (some ⟨t, 0, none⟩) bs.length c) (hown : w.ownsRow base 5 1 r m ys) (hc : ∀ j u, (byteCells bs)[j]? = some u → w.cell? ⟨t, j, none⟩ = some u) (hn : m + bs.length ≤ 100000000000000) (hB : base ≤ w.heap.size) (h : ∀ v' w', Told base m ys r w bs v' w' → K (a.put o.dst v') w') : Oper.wp Tryz.prog o a w K Q := by
  obtain ⟨i0, hi, hz0, hz1, hz2⟩ := info_parts Tryz.info5
  obtain ⟨v', w', hr, h2, h3, _, h5⟩ := run_append_own_at (P := Tryz.prog) w base 67 o.type 5 i0 (.int .u8 0) 1 1 Tryz.underlying67 hi hz0 hz1 hz2 rfl (by decide) r m ys hown ⟨t, 0, none⟩ bs.length c (byteCells bs) (by rw [byteCells_length, Nat.mul_one]) (fun j u hj => by rw [Lib.add_plain, Nat.zero_add]; exact hc j u hj)
    (by intro u hu; simp only [byteCells, List.mem_map] at hu; obtain ⟨b, _, rfl⟩ := hu; rfl) (by unfold maxLen; omega) (by omega) hB
  unfold Oper.wp execOp
  simp only [ho, resolve, invoke, builtin, Sem.run_bind, Sem.run_pure, Result.andThen_ok, List.map_toArray, List.map_cons, List.map_nil, hs, hx, hr]
  exact h v' w' ⟨h2, h3, h5.imp id fun e => ⟨_, e, Nat.le_refl _⟩⟩

theorem and_15 : ∀ m : Nat, m < 128 → bits .and .u8 (m : Int) 15 = (m : Int) % 16 := by decide
/-- A digit. -/
def hexB (m : Nat) : UInt8 := ([48, 49, 50, 51, 52, 53, 54, 55, 56, 57, 97, 98, 99, 100, 101, 102] : List UInt8).getD m 0
noncomputable def RE10 : Array Oper := regionAt Tryz.f105 10
def ancE10 (i : Nat) : List Nat := ([[], [0], [], [2], [2, 3], [], [5], [5, 6], [2, 3, 4, 5, 6, 7], [0, 1, 2, 3, 4, 5, 6, 7, 8], [0, 1, 2, 3, 4, 5, 6, 7, 8, 9]] : List (List Nat)).getD i []
def chainE10 (base n m : Nat) (v : Value) (xs : List Value) (w0 : World) : Chain := ⟨[1, 9, 10], [[92, 117, 48, 48], [hexB (m / 16), hexB (m % 16)], []], [(8, [hexB (m / 16), hexB (m % 16)])]⟩
def gE10 (base n m : Nat) (v : Value) (xs : List Value) (w0 : World) (i : Nat) (u : Value) : Prop := ([fun u => u = (v), fun _ => True, fun u => u = (.int .u8 (m : Int)), fun u => u = (.int .u8 ((m / 16 : Nat) : Int)), fun u => u = (.int .u8 ((hexB (m / 16)).toNat : Int)), fun u => u = (.int .u8 (m : Int)), fun u => u = (.int .u8 ((m % 16 : Nat) : Int)), fun u => u = (.int .u8 ((hexB (m % 16)).toNat : Int)), fun _ => True, fun _ => True, fun _ => True] : List (Value → Prop)).getD i (fun _ => True) u
structure BE10 (base n m : Nat) (v : Value) (xs : List Value) (w0 : World) (c : Act) : Prop where
  t0 : c.eval (.tmp 0) = v
  t1 : c.eval (.tmp 1) = .int .u8 (m : Int)
  size : c.tmps.size = 52
structure WE10 (base n m : Nat) (v : Value) (xs : List Value) (w0 : World) : Prop where
  own : w0.ownsRow base 5 1 v n xs
  low : base ≤ w0.heap.size
  few : n ≤ 100000000000
  small : m < 128
theorem apartE10 (base n m : Nat) (v : Value) (xs : List Value) (w0 : World) : (chainE10 base n m v xs w0).apart = true := by
  unfold Chain.apart
  rw [Bool.and_eq_true]
  exact ⟨decide_eq_true ⟨by show ([1, 9, 10] : List Nat).Nodup; decide, by show ([8] : List Nat).Nodup; decide, by
    intro s hs
    simp only [chainE10, List.mem_cons, List.not_mem_nil, or_false] at hs
    subst hs
    show (8 : Nat) ∉ ([1, 9, 10] : List Nat); decide⟩, decide_eq_true rfl⟩

def stepE10 (base n m : Nat) (v : Value) (xs : List Value) (w0 : World) (Q : Exit → Act → World → Prop) (i : Nat) : Prop := ∀ (l : Nat → Bool) (c : Act) (w : World), BE10 base n m v xs w0 c → WE10 base n m v xs w0 → l i = false → (∀ k, l k = true → ∀ j ∈ ancE10 k, l j = true) → (∀ j ∈ ancE10 i, l j = true ∧ gE10 base n m v xs w0 j (val RE10 c j)) → (chainE10 base n m v xs w0).Far base n v xs w0 l (val RE10 c) w → Steps' Tryz.prog RE10 Q (gE10 base n m v xs w0) ((chainE10 base n m v xs w0).Far base n v xs w0) i l c w
section
variable (base n m : Nat) (v : Value) (xs : List Value) (w0 : World) (Q : Exit → Act → World → Prop)
set_option maxRecDepth 10000 in
theorem oE10_0 : stepE10 base n m v xs w0 Q 0 := by
  intro l c w hb hW hli hcl hA hS
  have ho : RE10[0]? = some ({ dst := some 38, op := Op.move (Operand.tmp 0), type := 67, pos := "text.go:94", after := #[], guard := none } : Oper) := by kernel_rfl
  have hw : Region.wanted _ (yielded RE10 c.tmps) = true := want_none (o := ({ dst := some 38, op := Op.move (Operand.tmp 0), type := 67, pos := "text.go:94", after := #[], guard := none } : Oper)) rfl
  have e0 := hb.t0
  have ec : ∀ v, c.eval (.const v) = v := fun _ => rfl
  have ef : ∀ f, c.eval (.func f) = .func (.func f) #[] #[] := fun _ => rfl
  refine steps_value (d := 38) ho rfl (by rw [hb.size]; decide) hw (v := v) ?_ rfl (hS.beside (by show (0 : Nat) ∉ ([1, 9, 10] : List Nat); decide) (by intro s hs; simp only [chainE10, List.mem_cons, List.not_mem_nil, or_false] at hs; subst hs; show (8 : Nat) ≠ 0; decide) _)
  generalize c.eval = ρ at *
  clear hA hb hW hw ho hS hcl hli
  go_simp

set_option maxRecDepth 10000 in
theorem oE10_1 : stepE10 base n m v xs w0 Q 1 := by
  intro l c w hb hW hli hcl hA hS
  have ho : RE10[1]? = some ({ dst := some 39, op := Op.call { callee := Callee.builtin Builtin.append, args := #[Operand.tmp 38, Operand.const (Value.string { data := #[92, 117, 48, 48] })], argTypes := #[67, 9] }, type := 67, pos := "text.go:94", after := #[{ on := 0, ground := Ground.data }], guard := none } : Oper) := by kernel_rfl
  have hw : Region.wanted _ (yielded RE10 c.tmps) = true := want_none (o := ({ dst := some 39, op := Op.call { callee := Callee.builtin Builtin.append, args := #[Operand.tmp 38, Operand.const (Value.string { data := #[92, 117, 48, 48] })], argTypes := #[67, 9] }, type := 67, pos := "text.go:94", after := #[{ on := 0, ground := Ground.data }], guard := none } : Oper)) rfl
  have e38 : c.eval (.tmp 38) = v := by have h := (hA 0 (by decide)).2; rw [val_eq (show slotOf RE10 0 = some 38 by kernel_rfl)] at h; exact h
  have ec : ∀ v, c.eval (.const v) = v := fun _ => rfl
  have ef : ∀ f, c.eval (.func f) = .func (.func f) #[] #[] := fun _ => rfl
  obtain ⟨ht, hsd⟩ := hS.at (j := 0) (by show (0 : Nat) < 3; decide) hli (.inl rfl)
  have hB : base ≤ w.heap.size := Nat.le_trans hW.low ht.grown.size
  have hown := ht.own
  refine steps_law (d := 39) ho rfl (by rw [hb.size]; decide) fun K hK => ?_
  rw [if_pos hw]
  refine chain_text (.tmp 38) (Operand.const (Value.string { data := #[92, 117, 48, 48] })) rfl e38 rfl hown (by decide) (by have := hW.few; show n + _ + 4 ≤ _; simp [Chain.sofar]; omega) hB fun v' w' ht2 => hK v' w' trivial (hS.on (apartE10 base n m v xs w0) (j := 0) (by show (0 : Nat) < 3; decide) hli (.inl rfl) ht2)

set_option maxRecDepth 10000 in
theorem oE10_2 : stepE10 base n m v xs w0 Q 2 := by
  intro l c w hb hW hli hcl hA hS
  have ho : RE10[2]? = some ({ dst := some 40, op := Op.move (Operand.tmp 1), type := 5, pos := "text.go:94", after := #[], guard := none } : Oper) := by kernel_rfl
  have hw : Region.wanted _ (yielded RE10 c.tmps) = true := want_none (o := ({ dst := some 40, op := Op.move (Operand.tmp 1), type := 5, pos := "text.go:94", after := #[], guard := none } : Oper)) rfl
  have e1 := hb.t1
  have ec : ∀ v, c.eval (.const v) = v := fun _ => rfl
  have ef : ∀ f, c.eval (.func f) = .func (.func f) #[] #[] := fun _ => rfl
  refine steps_value (d := 40) ho rfl (by rw [hb.size]; decide) hw (v := .int .u8 (m : Int)) ?_ rfl (hS.beside (by show (2 : Nat) ∉ ([1, 9, 10] : List Nat); decide) (by intro s hs; simp only [chainE10, List.mem_cons, List.not_mem_nil, or_false] at hs; subst hs; show (8 : Nat) ≠ 2; decide) _)
  generalize c.eval = ρ at *
  clear hA hb hW hw ho hS hcl hli
  go_simp

set_option maxRecDepth 10000 in
theorem oE10_3 : stepE10 base n m v xs w0 Q 3 := by
  intro l c w hb hW hli hcl hA hS
  have ho : RE10[3]? = some ({ dst := some 41, op := Op.binOp BinOp.shr 5 (Operand.tmp 40) (Operand.const (Value.int IntKind.u64 4)) 107, type := 5, pos := "text.go:94", after := #[{ on := 2, ground := Ground.data }], guard := none } : Oper) := by kernel_rfl
  have hw : Region.wanted _ (yielded RE10 c.tmps) = true := want_none (o := ({ dst := some 41, op := Op.binOp BinOp.shr 5 (Operand.tmp 40) (Operand.const (Value.int IntKind.u64 4)) 107, type := 5, pos := "text.go:94", after := #[{ on := 2, ground := Ground.data }], guard := none } : Oper)) rfl
  have e40 : c.eval (.tmp 40) = .int .u8 (m : Int) := by have h := (hA 2 (by decide)).2; rw [val_eq (show slotOf RE10 2 = some 40 by kernel_rfl)] at h; exact h
  have ec : ∀ v, c.eval (.const v) = v := fun _ => rfl
  have ef : ∀ f, c.eval (.func f) = .func (.func f) #[] #[] := fun _ => rfl
  have hm := hW.small
  refine steps_value (d := 41) ho rfl (by rw [hb.size]; decide) hw (v := .int .u8 ((m / 16 : Nat) : Int)) ?_ rfl (hS.beside (by show (3 : Nat) ∉ ([1, 9, 10] : List Nat); decide) (by intro s hs; simp only [chainE10, List.mem_cons, List.not_mem_nil, or_false] at hs; subst hs; show (8 : Nat) ≠ 3; decide) _)
  generalize c.eval = ρ at *
  clear hA hb hW hw ho hS hcl hli
  go_simp

set_option maxRecDepth 10000 in
theorem oE10_4 : stepE10 base n m v xs w0 Q 4 := by
  intro l c w hb hW hli hcl hA hS
  have ho : RE10[4]? = some ({ dst := some 42, op := Op.index 9 (Operand.const (Value.string { data := #[48, 49, 50, 51, 52, 53, 54, 55, 56, 57, 97, 98, 99, 100, 101, 102] })) (Operand.tmp 41), type := 5, pos := "text.go:94", after := #[{ on := 3, ground := Ground.data }], guard := none } : Oper) := by kernel_rfl
  have hw : Region.wanted _ (yielded RE10 c.tmps) = true := want_none (o := ({ dst := some 42, op := Op.index 9 (Operand.const (Value.string { data := #[48, 49, 50, 51, 52, 53, 54, 55, 56, 57, 97, 98, 99, 100, 101, 102] })) (Operand.tmp 41), type := 5, pos := "text.go:94", after := #[{ on := 3, ground := Ground.data }], guard := none } : Oper)) rfl
  have e41 : c.eval (.tmp 41) = .int .u8 ((m / 16 : Nat) : Int) := by have h := (hA 3 (by decide)).2; rw [val_eq (show slotOf RE10 3 = some 41 by kernel_rfl)] at h; exact h
  have ec : ∀ v, c.eval (.const v) = v := fun _ => rfl
  have ef : ∀ f, c.eval (.func f) = .func (.func f) #[] #[] := fun _ => rfl
  have hm := hW.small
  have hk : m / 16 < 16 := by omega
  refine steps_value (d := 42) ho rfl (by rw [hb.size]; decide) hw (v := .int .u8 ((hexB (m / 16)).toNat : Int)) ?_ rfl (hS.beside (by show (4 : Nat) ∉ ([1, 9, 10] : List Nat); decide) (by intro s hs; simp only [chainE10, List.mem_cons, List.not_mem_nil, or_false] at hs; subst hs; show (8 : Nat) ≠ 4; decide) _)
  obtain ⟨kk, hkk⟩ : ∃ x : Nat, m / 16 = x := ⟨_, rfl⟩
  rw [hkk] at e41 hk ⊢
  obtain ⟨d, hd⟩ : ∃ d, hexB kk = d := ⟨_, rfl⟩
  rw [hd]
  have hki : (kk : Int) < 16 := by omega
  generalize c.eval = ρ at *
  clear hA hb hW hw ho hS hcl hli
  go_simp
  rw [← hd]
  unfold hexB
  rw [List.getD_eq_getElem?_getD, List.getElem?_eq_getElem (by simpa using hk)]
  rfl

set_option maxRecDepth 10000 in
theorem oE10_5 : stepE10 base n m v xs w0 Q 5 := by
  intro l c w hb hW hli hcl hA hS
  have ho : RE10[5]? = some ({ dst := some 43, op := Op.move (Operand.tmp 1), type := 5, pos := "text.go:94", after := #[], guard := none } : Oper) := by kernel_rfl
  have hw : Region.wanted _ (yielded RE10 c.tmps) = true := want_none (o := ({ dst := some 43, op := Op.move (Operand.tmp 1), type := 5, pos := "text.go:94", after := #[], guard := none } : Oper)) rfl
  have e1 := hb.t1
  have ec : ∀ v, c.eval (.const v) = v := fun _ => rfl
  have ef : ∀ f, c.eval (.func f) = .func (.func f) #[] #[] := fun _ => rfl
  refine steps_value (d := 43) ho rfl (by rw [hb.size]; decide) hw (v := .int .u8 (m : Int)) ?_ rfl (hS.beside (by show (5 : Nat) ∉ ([1, 9, 10] : List Nat); decide) (by intro s hs; simp only [chainE10, List.mem_cons, List.not_mem_nil, or_false] at hs; subst hs; show (8 : Nat) ≠ 5; decide) _)
  generalize c.eval = ρ at *
  clear hA hb hW hw ho hS hcl hli
  go_simp

set_option maxRecDepth 10000 in
theorem oE10_6 : stepE10 base n m v xs w0 Q 6 := by
  intro l c w hb hW hli hcl hA hS
  have ho : RE10[6]? = some ({ dst := some 44, op := Op.binOp BinOp.and 5 (Operand.tmp 43) (Operand.const (Value.int IntKind.u8 15)) 5, type := 5, pos := "text.go:94", after := #[{ on := 5, ground := Ground.data }], guard := none } : Oper) := by kernel_rfl
  have hw : Region.wanted _ (yielded RE10 c.tmps) = true := want_none (o := ({ dst := some 44, op := Op.binOp BinOp.and 5 (Operand.tmp 43) (Operand.const (Value.int IntKind.u8 15)) 5, type := 5, pos := "text.go:94", after := #[{ on := 5, ground := Ground.data }], guard := none } : Oper)) rfl
  have e43 : c.eval (.tmp 43) = .int .u8 (m : Int) := by have h := (hA 5 (by decide)).2; rw [val_eq (show slotOf RE10 5 = some 43 by kernel_rfl)] at h; exact h
  have ec : ∀ v, c.eval (.const v) = v := fun _ => rfl
  have ef : ∀ f, c.eval (.func f) = .func (.func f) #[] #[] := fun _ => rfl
  have hm := and_15 m hW.small
  refine steps_value (d := 44) ho rfl (by rw [hb.size]; decide) hw (v := .int .u8 ((m % 16 : Nat) : Int)) ?_ rfl (hS.beside (by show (6 : Nat) ∉ ([1, 9, 10] : List Nat); decide) (by intro s hs; simp only [chainE10, List.mem_cons, List.not_mem_nil, or_false] at hs; subst hs; show (8 : Nat) ≠ 6; decide) _)
  generalize c.eval = ρ at *
  clear hA hb hW hw ho hS hcl hli
  go_simp

set_option maxRecDepth 10000 in
theorem oE10_7 : stepE10 base n m v xs w0 Q 7 := by
  intro l c w hb hW hli hcl hA hS
  have ho : RE10[7]? = some ({ dst := some 45, op := Op.index 9 (Operand.const (Value.string { data := #[48, 49, 50, 51, 52, 53, 54, 55, 56, 57, 97, 98, 99, 100, 101, 102] })) (Operand.tmp 44), type := 5, pos := "text.go:94", after := #[{ on := 6, ground := Ground.data }], guard := none } : Oper) := by kernel_rfl
  have hw : Region.wanted _ (yielded RE10 c.tmps) = true := want_none (o := ({ dst := some 45, op := Op.index 9 (Operand.const (Value.string { data := #[48, 49, 50, 51, 52, 53, 54, 55, 56, 57, 97, 98, 99, 100, 101, 102] })) (Operand.tmp 44), type := 5, pos := "text.go:94", after := #[{ on := 6, ground := Ground.data }], guard := none } : Oper)) rfl
  have e44 : c.eval (.tmp 44) = .int .u8 ((m % 16 : Nat) : Int) := by have h := (hA 6 (by decide)).2; rw [val_eq (show slotOf RE10 6 = some 44 by kernel_rfl)] at h; exact h
  have ec : ∀ v, c.eval (.const v) = v := fun _ => rfl
  have ef : ∀ f, c.eval (.func f) = .func (.func f) #[] #[] := fun _ => rfl
  have hm := hW.small
  have hk : m % 16 < 16 := by omega
  refine steps_value (d := 45) ho rfl (by rw [hb.size]; decide) hw (v := .int .u8 ((hexB (m % 16)).toNat : Int)) ?_ rfl (hS.beside (by show (7 : Nat) ∉ ([1, 9, 10] : List Nat); decide) (by intro s hs; simp only [chainE10, List.mem_cons, List.not_mem_nil, or_false] at hs; subst hs; show (8 : Nat) ≠ 7; decide) _)
  obtain ⟨kk, hkk⟩ : ∃ x : Nat, m % 16 = x := ⟨_, rfl⟩
  rw [hkk] at e44 hk ⊢
  obtain ⟨d, hd⟩ : ∃ d, hexB kk = d := ⟨_, rfl⟩
  rw [hd]
  have hki : (kk : Int) < 16 := by omega
  generalize c.eval = ρ at *
  clear hA hb hW hw ho hS hcl hli
  go_simp
  rw [← hd]
  unfold hexB
  rw [List.getD_eq_getElem?_getD, List.getElem?_eq_getElem (by simpa using hk)]
  rfl

set_option maxRecDepth 10000 in
theorem oE10_8 : stepE10 base n m v xs w0 Q 8 := by
  intro l c w hb hW hli hcl hA hS
  have ho : RE10[8]? = some ({ dst := some 46, op := Op.buildSlice 67 2 #[(0, Operand.tmp 42), (1, Operand.tmp 45)], type := 67, pos := "text.go:94", after := #[{ on := 4, ground := Ground.data }, { on := 7, ground := Ground.data }], guard := none } : Oper) := by kernel_rfl
  have hw : Region.wanted _ (yielded RE10 c.tmps) = true := want_none (o := ({ dst := some 46, op := Op.buildSlice 67 2 #[(0, Operand.tmp 42), (1, Operand.tmp 45)], type := 67, pos := "text.go:94", after := #[{ on := 4, ground := Ground.data }, { on := 7, ground := Ground.data }], guard := none } : Oper)) rfl
  have e42 : c.eval (.tmp 42) = .int .u8 ((hexB (m / 16)).toNat : Int) := by have h := (hA 4 (by decide)).2; rw [val_eq (show slotOf RE10 4 = some 42 by kernel_rfl)] at h; exact h
  have e45 : c.eval (.tmp 45) = .int .u8 ((hexB (m % 16)).toNat : Int) := by have h := (hA 7 (by decide)).2; rw [val_eq (show slotOf RE10 7 = some 45 by kernel_rfl)] at h; exact h
  have ec : ∀ v, c.eval (.const v) = v := fun _ => rfl
  have ef : ∀ f, c.eval (.func f) = .func (.func f) #[] #[] := fun _ => rfl
  refine steps_value (d := 46) ho rfl (by rw [hb.size]; decide) hw (v := .slice (some ⟨w.heap.size, 0, none⟩) 2 2) (w' := w.alloc (.cells (byteCells [hexB (m / 16), hexB (m % 16)]).toArray 5)) ?_ trivial (hS.built (apartE10 base n m v xs w0) (s := (8, [hexB (m / 16), hexB (m % 16)])) (by simp only [chainE10, List.mem_cons, List.not_mem_nil, or_false]))
  generalize c.eval = ρ at *
  clear hA hb hW hw ho hS hcl hli
  go_simp
  rfl

set_option maxRecDepth 10000 in
theorem oE10_9 : stepE10 base n m v xs w0 Q 9 := by
  intro l c w hb hW hli hcl hA hS
  have ho : RE10[9]? = some ({ dst := some 47, op := Op.call { callee := Callee.builtin Builtin.append, args := #[Operand.tmp 39, Operand.tmp 46], argTypes := #[67, 67] }, type := 67, pos := "text.go:94", after := #[{ on := 1, ground := Ground.data }, { on := 8, ground := Ground.data }, { on := 1, ground := Ground.chain }], guard := none } : Oper) := by kernel_rfl
  have hw : Region.wanted _ (yielded RE10 c.tmps) = true := want_none (o := ({ dst := some 47, op := Op.call { callee := Callee.builtin Builtin.append, args := #[Operand.tmp 39, Operand.tmp 46], argTypes := #[67, 67] }, type := 67, pos := "text.go:94", after := #[{ on := 1, ground := Ground.data }, { on := 8, ground := Ground.data }, { on := 1, ground := Ground.chain }], guard := none } : Oper)) rfl
  have e39 : c.eval (.tmp 39) = val RE10 c 1 := (val_eq (show slotOf RE10 1 = some 39 by kernel_rfl)).symm
  have e46 : c.eval (.tmp 46) = val RE10 c 8 := (val_eq (show slotOf RE10 8 = some 46 by kernel_rfl)).symm
  have ec : ∀ v, c.eval (.const v) = v := fun _ => rfl
  have ef : ∀ f, c.eval (.func f) = .func (.func f) #[] #[] := fun _ => rfl
  obtain ⟨ht, hsd⟩ := hS.at (j := 1) (by show (1 : Nat) < 3; decide) hli (.inr (hA 1 (by decide)).1)
  have hB : base ≤ w.heap.size := Nat.le_trans hW.low ht.grown.size
  have hown := ht.own
  refine steps_law (d := 47) ho rfl (by rw [hb.size]; decide) fun K hK => ?_
  rw [if_pos hw]
  obtain ⟨t, ht1, hc⟩ := hsd (8, [hexB (m / 16), hexB (m % 16)]) (by simp only [chainE10, List.mem_cons, List.not_mem_nil, or_false]) (hA 8 (by decide)).1
  refine chain_row (.tmp 39) (.tmp 46) rfl e39 (e46.trans ht1) hown hc (by have := hW.few; show n + _ + 2 ≤ _; simp [chainE10, Chain.sofar]; omega) hB fun v' w' ht2 => hK v' w' trivial (hS.on (apartE10 base n m v xs w0) (j := 1) (by show (1 : Nat) < 3; decide) hli (.inr (hA 1 (by decide)).1) ht2)

set_option maxRecDepth 10000 in
theorem oE10_10 : stepE10 base n m v xs w0 Q 10 := by
  intro l c w hb hW hli hcl hA hS
  have ho : RE10[10]? = some ({ dst := some 4, op := Op.assign (Operand.tmp 47), type := 67, pos := "text.go:94", after := #[{ on := 9, ground := Ground.data }, { on := 9, ground := Ground.chain }, { on := 0, ground := Ground.phase }, { on := 1, ground := Ground.phase }, { on := 2, ground := Ground.phase }, { on := 3, ground := Ground.phase }, { on := 4, ground := Ground.phase }, { on := 5, ground := Ground.phase }, { on := 6, ground := Ground.phase }, { on := 7, ground := Ground.phase }, { on := 8, ground := Ground.phase }, { on := 9, ground := Ground.phase }], guard := none } : Oper) := by kernel_rfl
  have hw : Region.wanted _ (yielded RE10 c.tmps) = true := want_none (o := ({ dst := some 4, op := Op.assign (Operand.tmp 47), type := 67, pos := "text.go:94", after := #[{ on := 9, ground := Ground.data }, { on := 9, ground := Ground.chain }, { on := 0, ground := Ground.phase }, { on := 1, ground := Ground.phase }, { on := 2, ground := Ground.phase }, { on := 3, ground := Ground.phase }, { on := 4, ground := Ground.phase }, { on := 5, ground := Ground.phase }, { on := 6, ground := Ground.phase }, { on := 7, ground := Ground.phase }, { on := 8, ground := Ground.phase }, { on := 9, ground := Ground.phase }], guard := none } : Oper)) rfl
  have e47 : c.eval (.tmp 47) = val RE10 c 9 := (val_eq (show slotOf RE10 9 = some 47 by kernel_rfl)).symm
  have ec : ∀ v, c.eval (.const v) = v := fun _ => rfl
  have ef : ∀ f, c.eval (.func f) = .func (.func f) #[] #[] := fun _ => rfl
  obtain ⟨ht, hsd⟩ := hS.at (j := 2) (by show (2 : Nat) < 3; decide) hli (.inr (hA 9 (by decide)).1)
  have hB : base ≤ w.heap.size := Nat.le_trans hW.low ht.grown.size
  have hown := ht.own
  have ht2 := told_nil hown
  refine steps_value (d := 4) ho rfl (by rw [hb.size]; decide) hw (v := val RE10 c 9) ?_ trivial (hS.on (apartE10 base n m v xs w0) (j := 2) (by show (2 : Nat) < 3; decide) hli (.inr (hA 9 (by decide)).1) ht2)
  generalize c.eval = ρ at *
  clear hA hb hW hw ho hS hcl hli ht hsd hB hown ht2
  go_simp

end
set_option maxRecDepth 100000 in
theorem allE10 (base n m : Nat) (v : Value) (xs : List Value) (w0 : World) (Q : Exit → Act → World → Prop) : ∀ i, i < 11 → stepE10 base n m v xs w0 Q i := by
  intro i hi
  match i, hi with
  | 0, _ => exact oE10_0 base n m v xs w0 Q
  | 1, _ => exact oE10_1 base n m v xs w0 Q
  | 2, _ => exact oE10_2 base n m v xs w0 Q
  | 3, _ => exact oE10_3 base n m v xs w0 Q
  | 4, _ => exact oE10_4 base n m v xs w0 Q
  | 5, _ => exact oE10_5 base n m v xs w0 Q
  | 6, _ => exact oE10_6 base n m v xs w0 Q
  | 7, _ => exact oE10_7 base n m v xs w0 Q
  | 8, _ => exact oE10_8 base n m v xs w0 Q
  | 9, _ => exact oE10_9 base n m v xs w0 Q
  | 10, _ => exact oE10_10 base n m v xs w0 Q

theorem regionE10 (base n m : Nat) (v : Value) (xs : List Value) (w0 : World) (Q : Exit → Act → World → Prop) (frame : Act) (hb : BE10 base n m v xs w0 frame) (hW : WE10 base n m v xs w0)
    (hQ : ∀ c w, Same RE10 frame c → Told base n xs v w0 ((chainE10 base n m v xs w0).sofar 3) (c.eval (.tmp 4)) w → Q .normal c w) : (Code.region 10 RE10 true).wp Tryz.prog Q frame w0 := by
  refine writes_rule (A := ancE10) (G := gE10 base n m v xs w0) (S := (chainE10 base n m v xs w0).Far base n v xs w0) (by kernel_rfl) (by rw [hb.size]; kernel_rfl) (Chain.Far.start hW.own) ?_ ?_
  · intro i hi l c w hS hli hcl hA hF
    exact allE10 base n m v xs w0 Q i (by rwa [show RE10.size = 11 by kernel_rfl] at hi) l c w ⟨(same_eval hS (by kernel_rfl)).trans hb.t0, (same_eval hS (by kernel_rfl)).trans hb.t1, (by rw [← hb.size]; exact hS.2.1)⟩ hW hli hcl hA hF
  · intro l c w hS hall hF
    refine hQ c w hS ?_
    have := hF.end (fun j hj => ?_)
    · have e : (chainE10 base n m v xs w0).row v (val RE10 c) (chainE10 base n m v xs w0).pos.length = c.eval (.tmp 4) := val_eq (show slotOf RE10 10 = some 4 by kernel_rfl)
      rw [e] at this
      exact this
    · have hm := Chain.get_mem hj
      refine (hall _ ?_).1
      rw [show RE10.size = 11 by kernel_rfl]
      have : ∀ x ∈ (chainE10 base n m v xs w0).pos, x < 11 := by show ∀ x ∈ ([1, 9, 10] : List Nat), x < 11; decide
      exact this _ hm
end Go.Proofs.YtbpmhgcjefpigaaGreatDoor

