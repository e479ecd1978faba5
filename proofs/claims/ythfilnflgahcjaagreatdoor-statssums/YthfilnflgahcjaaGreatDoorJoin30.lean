/- Numbers, told: AppendInt at every number. A row of bytes that grows inside one statement, whatever order the statement's operations are drawn in. -/
import Derived.Test.YthfilnflgahcjaaGreatDoorJoin29
import Derived.Test.YthfilnflgahcjaaGreatDoorShelf6
import Derived.Test.YthfilnflgahcjaaGreatDoorJoin11
namespace Go.Proofs.YthfilnflgahcjaaGreatDoor
open Go.RowKit Go.Shelf Go.Lib Go.Sort
set_option linter.unusedVariables false
def IntOk (i : Int) : Prop := ∀ (base n : Nat) (v : Value) (xs : List Value) (w : World), w.ownsRow base 5 1 v n xs → base ≤ w.heap.size → n ≤ 1000000000 → TB base w →
  Calls Tryz.prog 202 #[v, .int .i64 i, .int .i64 10] w fun e w' => ∃ v', e = .returned v' ∧ Told base n xs v w (itoa i) v' w'
/-- 'append(row, bytes...)' in the walk: the bytes lie in a row of their own. -/
theorem append_row {ops : Array Oper} {rest : List Oper} {o : Oper} {a : Act} {Q : Exit → Act → World → Prop} (w : World) (hgd : o.guard = none) (sl x : Operand)
    (ho : o.op = .call { callee := .builtin .append, args := #[sl, x], argTypes := #[116, 116] }) (base n : Nat) (v : Value) (xs : List Value) (hs : a.eval sl = v) (hown : w.ownsRow base 5 1 v n xs) (ad : Addr) (m c : Nat) (bs : List UInt8) (hx : a.eval x = .slice (some ad) m c)
    (hm : bs.length = m) (hc : ∀ j u, (byteCells bs)[j]? = some u → w.cell? (ad.add j) = some u) (hn : n + m ≤ 100000000000000) (hB : base ≤ w.heap.size)
    (h : ∀ v' w', Told base n xs v w bs v' w' → wpList Tryz.prog ops Q rest (a.put o.dst v') w') : wpList Tryz.prog ops Q (o :: rest) a w := by
  refine wpList_plain hgd fun K hK => ?_
  obtain ⟨i0, hi, hz0, hz1, hz2⟩ := info_parts Tryz.info5
  obtain ⟨v', w', hr, h2, h3, _, h5⟩ := run_append_own_at (P := Tryz.prog) w base 116 o.type 5 i0 (.int .u8 0) 1 1 Tryz.underlying116 hi hz0 hz1 hz2 rfl (by decide) v n xs hown ad m c (byteCells bs) (by rw [byteCells_length, hm, Nat.mul_one]) hc
    (by intro u hu; simp only [byteCells, List.mem_map] at hu; obtain ⟨b, _, rfl⟩ := hu; rfl) (by unfold maxLen; omega) (by omega) hB
  unfold Oper.wp execOp
  simp only [ho, resolve, invoke, builtin, Sem.run_bind, Sem.run_pure, Result.andThen_ok, List.map_toArray, List.map_cons, List.map_nil, hs, hx, hr]
  exact hK _ _ (h v' w' ⟨by rw [hm]; exact h2, h3, h5.imp id fun e => ⟨_, e, Nat.le_refl _⟩⟩)
theorem digits_pos (u : Nat) : 0 < (decDigits u).length := by
  rw [decDigits_length]
  by_cases h : u < 10
  · rw [nDigits_small h]; omega
  · rw [nDigits_big h]; omega
set_option maxRecDepth 100000 in
set_option maxHeartbeats 4000000 in
theorem appendUint_small (u : Nat) (hu : u < 100) (base n : Nat) (v : Value) (xs : List Value) (w : World) (hown : w.ownsRow base 5 1 v n xs) (hB : base ≤ w.heap.size) (hn : n ≤ 1000000000000) :
    Calls Tryz.prog 253 #[v, .int .u64 u, .int .i64 10] w fun e w' => ∃ v', e = .returned v' ∧ Told base n xs v w (decDigits u) v' w' := by
  have HS : Hid (∀ W, Calls Tryz.prog 163 #[.int .i64 u] W fun e w' => e = .returned (.string ⟨(decDigits u).toArray⟩) ∧ w' = W) := fun W => Any.internal_strconv_small (ρ := Tryz.laysM176_ren) { Tryz.laysM176 with } u hu W
  have hlen : (decDigits u).length ≤ 20 := by
    rw [decDigits_length]
    by_cases h10 : u < 10
    · rw [nDigits_small h10]; omega
    · rw [nDigits_big h10, nDigits_small (show u / 10 < 10 by omega)]; omega
  have hsz : (⟨(decDigits u).toArray⟩ : ByteArray).size = (decDigits u).length := by simp [ByteArray.size]
  have hp := digits_pos u
  have hu' : (u : Int) < 100 := by omega
  obtain ⟨ds, hds⟩ : ∃ d, decDigits u = d := ⟨_, rfl⟩
  rw [hds] at HS hlen hsz hp ⊢
  clear hds
  go_enter Tryz.func253, Tryz.ntmps253
  go_wp2_with fail
  refine (HS.out w).mono ?_
  rintro e _ ⟨rfl, rfl⟩
  go_wp2_with (at_builtin; refine append_text _ rfl _ _ rfl base n v xs rfl hown ⟨ds.toArray⟩ rfl (by rw [hsz]; exact hp) (by rw [hsz]; omega) hB ?_; intro v' w' ht)
  have HT := hidE ht
  clear ht
  go_ret
  exact ⟨_, rfl, HT.out⟩
set_option maxRecDepth 100000 in
set_option maxHeartbeats 8000000 in
theorem appendUint_big (u : Nat) (hu : 100 ≤ u) (hu64 : u < 18446744073709551616) (base n : Nat) (v : Value) (xs : List Value) (w : World) (hown : w.ownsRow base 5 1 v n xs) (hB : base ≤ w.heap.size) (hn : n ≤ 1000000000000)
    (htab : TabIs Tryz.prog w "internal/strconv.uint64pow10" .u64 pow10Tab) :
    Calls Tryz.prog 253 #[v, .int .u64 u, .int .i64 10] w fun e w' => ∃ v', e = .returned v' ∧ Told base n xs v w (decDigits u) v' w' := by
  have hu1 : 1 ≤ u := by omega
  have hu' : ¬ (u : Int) < 100 := by omega
  have hnd20 : nDigits u ≤ 20 := by have := numDigits_eq u hu1 hu64; split at this <;> omega
  obtain ⟨W1, hW1⟩ : ∃ W1, w.alloc (.cells zeros24 227) = W1 := ⟨_, rfl⟩
  have hb1 : Below w.heap.size w W1 := hW1 ▸ (Below.refl _ _).alloc (Nat.le_refl _) _
  have HND : Hid (Calls Tryz.prog 164 #[.int .u64 u] W1 fun e w' => e = .returned (.int .i64 (nDigits u)) ∧ w' = W1) := Any.internal_strconv_numDigits (ρ := Tryz.laysM176_ren) { Tryz.laysM176 with } u hu1 hu64 W1 (hW1 ▸ tabIs_alloc htab _)
  have hH0 : Holds (fun (b : UInt8) => Value.int .u8 (b.toNat : Int)) W1 w.heap.size 0 (Array.replicate (nDigits u) (0 : UInt8)) := hW1 ▸ holds_zero0 w 227 (nDigits u) (by omega)
  have HFM : Hid (Calls Tryz.prog 165 #[.slice (some ⟨w.heap.size, 0, none⟩) (nDigits u) 24, .int .u64 u] W1 fun e w' => e = .returned (.tuple #[]) ∧ ∃ (k v' : Nat) (dk : Array UInt8), w' = (putRow (fun (b : UInt8) => Value.int .u8 (b.toNat : Int)) W1 w.heap.size 0 dk).drewN k ∧ FmtInv (nDigits u) u 0 v' dk) := by
    have := Any.internal_strconv_formatBase10 (ρ := Tryz.laysM176_ren) { Tryz.laysM176 with } w.heap.size 0 24 u (Array.replicate (nDigits u) 0) W1 hH0 (by rw [Array.size_replicate]; exact lt_pow_nDigits u) hu64 (by rw [Array.size_replicate]; omega)
    rw [Array.size_replicate] at this
    exact this
  have hal : Tryz.prog.arrayLen 227 = 24 := by kernel_rfl
  have hsl : ∀ W : World, (Instr.sliceAt 227 (.pointer (some ⟨w.heap.size, 0, none⟩)) none (some (.int .i64 (nDigits u : Int))) none).run Tryz.prog W = .ok (.slice (some ⟨w.heap.size, 0, none⟩) (nDigits u) 24) W := fun W => by
    rw [run_sliceAt_array_h W 227 ⟨w.heap.size, 0, none⟩ (by kernel_rfl) .i64 (nDigits u : Int) (by omega) (by rw [hal]; omega)]
    rw [hal]
    go_simp
  have HR : Hid (∀ k dk v', FmtInv (nDigits u) u 0 v' dk → Below w.heap.size w ((putRow (fun (b : UInt8) => Value.int .u8 (b.toNat : Int)) W1 w.heap.size 0 dk).drewN k) ∧
      ∀ j c, (byteCells (decDigits u))[j]? = some c → ((putRow (fun (b : UInt8) => Value.int .u8 (b.toNat : Int)) W1 w.heap.size 0 dk).drewN k).cell? ((⟨w.heap.size, 0, none⟩ : Addr).add j) = some c) := fun k dk v' hF => by
    refine ⟨?_, fun j c hj => ?_⟩
    · obtain ⟨os, eo⟩ := fin_at w (.cells zeros24 227) dk k 0
      rw [← hW1, eo]
      exact below_grow w.heap.size w (Nat.le_refl _) k os
    · have hjl : j < (decDigits u).length := by
        have h5 := (List.getElem?_eq_some_iff.1 hj).1
        rwa [byteCells_length] at h5
      have e5 : (byteCells (decDigits u))[j]? = some (Value.int .u8 ((decDigits u)[j].toNat : Int)) := by simp [byteCells, hjl]
      rw [e5] at hj
      cases hj
      rw [row_is_numeral hF j hjl, add_plain, World.cell?_drewN]
      exact cell?_putRow (fun (b : UInt8) => Value.int .u8 (b.toNat : Int)) _ w.heap.size 0 _ dk hH0 (by rw [hF.size, Array.size_replicate]) j (by rw [hF.size]; rw [decDigits_length] at hjl; exact hjl)
  have hdl := decDigits_length u
  have HW1 := hidE hW1
  have HO := hidE (And.intro hown hB)
  clear hW1 hb1 hH0 htab hal hown
  obtain ⟨nd, hnd⟩ : ∃ m, nDigits u = m := ⟨_, rfl⟩
  obtain ⟨ds, hds⟩ : ∃ d, decDigits u = d := ⟨_, rfl⟩
  rw [hnd, hds] at hdl
  rw [hnd] at hsl hnd20 HFM HND
  rw [hnd, hds] at HR
  rw [hds]
  clear hnd hds
  go_enter Tryz.func253, Tryz.ntmps253
  go_wp2_with fail
  show Calls Tryz.prog 164 _ (w.alloc (.cells zeros24 227)) _
  rw [HW1.out]
  refine HND.out.mono ?_
  rintro e w1 ⟨rfl, hw1⟩
  rw [hw1]
  clear HND HW1 hw1
  go_wp2_with fail
  refine HFM.out.mono ?_
  rintro e w2 ⟨rfl, k, v', dk, rfl, hF⟩
  obtain ⟨hb2, hc2⟩ := HR.out k dk v' hF
  generalize (putRow (fun (b : UInt8) => Value.int .u8 (b.toNat : Int)) W1 w.heap.size 0 dk).drewN k = W2 at hb2 hc2 ⊢
  have hown2 := own_below HO.out.1 hb2
  have hB2 : base ≤ W2.heap.size := Nat.le_trans HO.out.2 hb2.size
  have HB2 := hidE hb2
  clear hb2 HFM HR hF
  go_wp2_with (at_builtin; refine append_row _ rfl _ _ rfl base n v xs rfl hown2 ⟨w.heap.size, 0, none⟩ nd 24 ds rfl hdl hc2 (by omega) hB2 ?_; intro v3 w3 ht)
  have HT := hidE (ht.from HB2.out)
  clear ht
  go_ret
  exact ⟨_, rfl, HT.out⟩
theorem appendUint_any (u : Nat) (hu64 : u < 18446744073709551616) (base n : Nat) (v : Value) (xs : List Value) (w : World) (hown : w.ownsRow base 5 1 v n xs) (hB : base ≤ w.heap.size) (hn : n ≤ 1000000000000)
    (htab : TabIs Tryz.prog w "internal/strconv.uint64pow10" .u64 pow10Tab) :
    Calls Tryz.prog 253 #[v, .int .u64 u, .int .i64 10] w fun e w' => ∃ v', e = .returned v' ∧ Told base n xs v w (decDigits u) v' w' := by
  by_cases h : u < 100
  · exact appendUint_small u h base n v xs w hown hB hn
  · exact appendUint_big u (by omega) hu64 base n v xs w hown hB hn htab
set_option maxRecDepth 100000 in
set_option maxHeartbeats 4000000 in
theorem appendInt_in (i : Int) (h0 : -9223372036854775808 ≤ i) (h1 : i ≤ 9223372036854775807) (base n : Nat) (v : Value) (xs : List Value) (w : World) (hown : w.ownsRow base 5 1 v n xs) (hB : base ≤ w.heap.size) (hn : n ≤ 1000000000) (htab : TabBelow Tryz.prog base w "internal/strconv.uint64pow10" .u64 pow10Tab) :
    Calls Tryz.prog 239 #[v, .int .i64 i, .int .i64 10] w fun e w' => ∃ v', e = .returned v' ∧ Told base n xs v w (itoa i) v' w' := by
  by_cases hneg : i < 0
  · obtain ⟨u, rfl⟩ : ∃ u : Nat, i = -(u : Int) := ⟨i.natAbs, by omega⟩
    have hu1 : 1 ≤ u := by omega
    have hu64 : u < 18446744073709551616 := by omega
    have hwr : IntKind.u64.wrap (-IntKind.u64.wrap (-(u : Int))) = (u : Int) := by rw [IntKind.wrap_u64, IntKind.wrap_u64]; omega
    rw [itoa_neg u hu1]
    obtain ⟨W1, hW1⟩ : ∃ W1, w.alloc (.cells #[.int .u8 45] 5) = W1 := ⟨_, rfl⟩
    have hb1 : Below w.heap.size w W1 := hW1 ▸ (Below.refl _ _).alloc (Nat.le_refl _) _
    have hown1 := own_below hown hb1
    have hB1 : base ≤ W1.heap.size := Nat.le_trans hB hb1.size
    have hc1 : ∀ j c, (byteCells [45])[j]? = some c → W1.cell? ((⟨w.heap.size, 0, none⟩ : Addr).add j) = some c := fun j c hj => by
      rw [← hW1]; exact cell_one_new w (.int .u8 45) 5 j c hj
    have HX := hidE (And.intro hb1 (And.intro htab (And.intro hown1 hB1)))
    have HW1 := hidE hW1
    clear hW1 hb1 htab hown
    go_enter Tryz.func239, Tryz.ntmps239
    go_wp2_with (at_builtin; rw [HW1.out]; refine append_row W1 rfl _ _ rfl base n v xs rfl hown1 ⟨w.heap.size, 0, none⟩ 1 1 [45] rfl rfl hc1 (by omega) hB1 ?_; intro v1 w1 ht)
    have hbw : Below base w w1 := (HX.out.1.mono hB).trans (ht.below hown1 hB1)
    have HC := hidE (appendUint_any u hu64 base (n + 1) v1 (xs ++ byteCells [45]) w1 ht.own (Nat.le_trans hB1 ht.grown.size) (by omega) (HX.out.2.1 w1 hbw))
    have HT := hidE ht
    clear ht hbw hown1 hc1
    refine HC.out.mono ?_
    rintro e w2 ⟨v2, rfl, ht2⟩
    have HT2 : Hid (Told base n xs v w (45 :: decDigits u) v2 w2) := (HT.out.trans (bs := [45]) ht2).from HX.out.1
    clear ht2 HC
    go_wp2_with fail
    go_ret
    exact ⟨_, rfl, HT2.out⟩
  · obtain ⟨u, rfl⟩ : ∃ u : Nat, i = (u : Int) := ⟨i.toNat, by omega⟩
    have hu64 : u < 18446744073709551616 := by omega
    have hwr : IntKind.u64.wrap (u : Int) = (u : Int) := by rw [IntKind.wrap_u64]; omega
    rw [itoa_nonneg u]
    have HC := hidE (appendUint_any u hu64 base n v xs w hown hB (by omega) (htab w (Below.refl _ _)))
    clear hown htab
    go_enter Tryz.func239, Tryz.ntmps239
    go_wp2_with fail
    refine HC.out.mono ?_
    rintro e w' ⟨v', rfl, ht⟩
    have HT := hidE ht
    clear ht HC
    go_wp2_with fail
    go_ret
    exact ⟨_, rfl, HT.out⟩
theorem intOk_all (i : Int) (h0 : -9223372036854775808 ≤ i) (h1 : i ≤ 9223372036854775807) : IntOk i := by
  intro base n v xs w hown hB hn htb
  have HC := hidE (appendInt_in i h0 h1 base n v xs w hown hB hn htb.2)
  clear hown
  go_enter Tryz.func202, Tryz.ntmps202
  go_wp2_with fail
  refine HC.out.mono ?_
  rintro e w' ⟨v', rfl, ht⟩
  have HT := hidE ht
  clear ht HC
  go_wp2_with fail
  go_ret
  exact ⟨_, rfl, HT.out⟩
end Go.Proofs.YthfilnflgahcjaaGreatDoor

namespace Go.Proofs.YthfilnflgahcjaaGreatDoor
open Go.RowKit Go.Shelf Go.Lib
set_option linter.unusedVariables false
/-- The operations that hand the row on, with what each puts behind it; the rows that are built for it, with their bytes. -/
structure Chain where
  pos : List Nat
  add : List (List UInt8)
  side : List (Nat × List UInt8)
namespace Chain
def row (C : Chain) (v : Value) (vs : Nat → Value) : Nat → Value
  | 0 => v
  | k + 1 => vs (C.pos.getD k 0)
def sofar (C : Chain) (k : Nat) : List UInt8 := (C.add.take k).flatten
/-- How far it has come. -/
def Far (C : Chain) (base n : Nat) (v : Value) (xs : List Value) (w0 : World) (l : Nat → Bool) (vs : Nat → Value) (w : World) : Prop :=
  ∃ k, k ≤ C.pos.length ∧ (∀ j, j < C.pos.length → l (C.pos.getD j 0) = decide (j < k)) ∧ Told base n xs v w0 (C.sofar k) (C.row v vs k) w ∧
    ∀ s ∈ C.side, l s.1 = true → ∃ t, vs s.1 = .slice (some ⟨t, 0, none⟩) s.2.length s.2.length ∧ (∀ j u, (byteCells s.2)[j]? = some u → w.cell? ⟨t, j, none⟩ = some u) ∧ some t ≠ (C.row v vs k).ownBlock ∧ t < w.heap.size
/-- The places are apart. -/
def apart (C : Chain) : Bool := decide (C.pos.Nodup ∧ (C.side.map (·.1)).Nodup ∧ ∀ s ∈ C.side, s.1 ∉ C.pos) && decide (C.add.length = C.pos.length)
end Chain
theorem nodup_inj {α : Type} {l : List α} (h : l.Nodup) {i j : Nat} (hi : i < l.length) (hj : j < l.length) (e : l[i] = l[j]) : i = j := by
  rcases Nat.lt_trichotomy i j with h1 | h1 | h1
  · exact absurd e (List.pairwise_iff_getElem.1 h i j hi hj h1)
  · exact h1
  · exact absurd e.symm (List.pairwise_iff_getElem.1 h j i hj hi h1)
variable {base n : Nat} {v : Value} {xs : List Value} {w0 : World}
theorem Chain.row_upd {C : Chain} {vs : Nat → Value} {i k : Nat} {u : Value} (hi : i ∉ C.pos) (hk : k ≤ C.pos.length) : C.row v (upd vs i u) k = C.row v vs k := by
  cases k with
  | zero => rfl
  | succ k =>
    show upd vs i u (C.pos.getD k 0) = vs (C.pos.getD k 0)
    refine upd_other _ _ fun e => hi ?_
    rw [← e, List.getD_eq_getElem?_getD, List.getElem?_eq_getElem (by omega)]
    exact List.getElem_mem _
theorem Chain.get_mem {C : Chain} {j : Nat} (h : j < C.pos.length) : C.pos.getD j 0 ∈ C.pos := by
  rw [List.getD_eq_getElem?_getD, List.getElem?_eq_getElem h]; exact List.getElem_mem _
theorem Chain.get_ne {C : Chain} (hn : C.pos.Nodup) {i j : Nat} (hi : i < C.pos.length) (hj : j < C.pos.length) (h : i ≠ j) : C.pos.getD i 0 ≠ C.pos.getD j 0 := by
  rw [List.getD_eq_getElem?_getD, List.getElem?_eq_getElem hi, List.getD_eq_getElem?_getD, List.getElem?_eq_getElem hj]
  intro e
  exact h (nodup_inj hn hi hj e)
/-- An operation beside the row: nothing turns. -/
theorem Chain.Far.beside {C : Chain} {l : Nat → Bool} {vs : Nat → Value} {w : World} (h : C.Far base n v xs w0 l vs w) {i : Nat} (hi : i ∉ C.pos) (hs : ∀ s ∈ C.side, s.1 ≠ i) (u : Value) : C.Far base n v xs w0 (upd l i true) (upd vs i u) w := by
  obtain ⟨k, hk, hl, ht, hside⟩ := h
  refine ⟨k, hk, fun j hj => ?_, ?_, fun s hm hls => ?_⟩
  · rw [upd_other _ _ (fun e => hi (by rw [← e]; exact get_mem hj))]; exact hl j hj
  · rw [Chain.row_upd hi hk]; exact ht
  · rw [upd_other _ _ (hs s hm)] at hls
    obtain ⟨t, h1, h2, h3, h4⟩ := hside s hm hls
    exact ⟨t, by rw [upd_other _ _ (hs s hm)]; exact h1, h2, by rw [Chain.row_upd hi hk]; exact h3, h4⟩
/-- A row is built for it. -/
theorem Chain.Far.built {C : Chain} {l : Nat → Bool} {vs : Nat → Value} {w : World} (hap : C.apart = true) (h : C.Far base n v xs w0 l vs w) {s : Nat × List UInt8} (hm : s ∈ C.side) :
    C.Far base n v xs w0 (upd l s.1 true) (upd vs s.1 (.slice (some ⟨w.heap.size, 0, none⟩) s.2.length s.2.length)) (w.alloc (.cells (byteCells s.2).toArray 5)) := by
  simp only [Chain.apart, Bool.and_eq_true, decide_eq_true_eq] at hap
  obtain ⟨⟨h1, h2, h3⟩, _⟩ := hap
  have hi := h3 s hm
  obtain ⟨k, hk, hl, ht, hside⟩ := h
  have hb : Below w.heap.size w (w.alloc (.cells (byteCells s.2).toArray 5)) := (Below.refl _ _).alloc (Nat.le_refl _) _
  have hsz : (w.alloc (.cells (byteCells s.2).toArray 5)).heap.size = w.heap.size + 1 := by simp
  refine ⟨k, hk, fun j hj => ?_, ?_, fun q hq hlq => ?_⟩
  · rw [upd_other _ _ (fun e => hi (by rw [← e]; exact get_mem hj))]; exact hl j hj
  · rw [Chain.row_upd hi hk]; exact ht.upto hb
  · rw [Chain.row_upd hi hk]
    by_cases e : q.1 = s.1
    · obtain rfl : q = s := by
        have hp := List.pairwise_map.1 h2
        rcases List.mem_iff_getElem.1 hq with ⟨i1, b1, e1⟩
        rcases List.mem_iff_getElem.1 hm with ⟨i2, b2, e2⟩
        have : i1 = i2 := by
          have hh : (C.side.map (·.1))[i1]'(by simpa using b1) = (C.side.map (·.1))[i2]'(by simpa using b2) := by simp [e1, e2, e]
          exact nodup_inj h2 _ _ hh
        subst this
        rw [← e1, ← e2]
      refine ⟨w.heap.size, by rw [upd_same], fun j u hu => ?_, fun e => ?_, by omega⟩
      · exact cell_new _ _ _ j u (by simpa using hu)
      · have := (ht.own.lt _ e.symm).2
        omega
    · rw [upd_other _ _ e] at hlq
      obtain ⟨t, g1, g2, g3, g4⟩ := hside q hq hlq
      exact ⟨t, by rw [upd_other _ _ e]; exact g1, fun j u hu => (hb.cell (p := ⟨t, j, none⟩) g4).trans (g2 j u hu), g3, by omega⟩
/-- Where the row is, when the next operation of the chain comes up. -/
theorem Chain.Far.at {C : Chain} {l : Nat → Bool} {vs : Nat → Value} {w : World} (h : C.Far base n v xs w0 l vs w) {j : Nat} (hj : j < C.pos.length) (h0 : l (C.pos.getD j 0) = false) (h1 : j = 0 ∨ l (C.pos.getD (j - 1) 0) = true) :
    Told base n xs v w0 (C.sofar j) (C.row v vs j) w ∧ ∀ s ∈ C.side, l s.1 = true → ∃ t, vs s.1 = .slice (some ⟨t, 0, none⟩) s.2.length s.2.length ∧ (∀ j u, (byteCells s.2)[j]? = some u → w.cell? ⟨t, j, none⟩ = some u) := by
  obtain ⟨k, hk, hl, ht, hside⟩ := h
  have a1 := hl j hj
  rw [h0] at a1
  have a2 : ¬ j < k := by simpa using a1.symm
  have : k = j := by
    rcases h1 with rfl | h1
    · omega
    · have a3 := hl (j - 1) (by omega)
      rw [h1] at a3
      have a4 : j - 1 < k := by simpa using a3.symm
      omega
  subst this
  exact ⟨ht, fun s hm hls => by obtain ⟨t, g1, g2, _⟩ := hside s hm hls; exact ⟨t, g1, g2⟩⟩
/-- The row is handed on. -/
theorem Chain.Far.on {C : Chain} {l : Nat → Bool} {vs : Nat → Value} {w w' : World} {u : Value} (hap : C.apart = true) (h : C.Far base n v xs w0 l vs w) {j : Nat} (hj : j < C.pos.length) (h0 : l (C.pos.getD j 0) = false) (h1 : j = 0 ∨ l (C.pos.getD (j - 1) 0) = true)
    (hu : Told base (n + (C.sofar j).length) (xs ++ byteCells (C.sofar j)) (C.row v vs j) w (C.add.getD j []) u w') : C.Far base n v xs w0 (upd l (C.pos.getD j 0) true) (upd vs (C.pos.getD j 0) u) w' := by
  have hap0 := hap
  simp only [Chain.apart, Bool.and_eq_true, decide_eq_true_eq] at hap
  obtain ⟨⟨n1, n2, n3⟩, n4⟩ := hap
  obtain ⟨k, hk, hl, ht, hside⟩ := h
  have a1 := hl j hj
  rw [h0] at a1
  have a2 : ¬ j < k := by simpa using a1.symm
  have : k = j := by
    rcases h1 with rfl | h1
    · omega
    · have a3 := hl (j - 1) (by omega)
      rw [h1] at a3
      have a4 : j - 1 < k := by simpa using a3.symm
      omega
  subst this
  have hso : C.sofar (k + 1) = C.sofar k ++ C.add.getD k [] := by
    unfold Chain.sofar
    rw [List.take_add_one, List.flatten_append, List.getD_eq_getElem?_getD, List.getElem?_eq_getElem (by omega)]
    simp only [Option.toList_some, List.flatten_cons, List.flatten_nil, List.append_nil, Option.getD_some]
  have hro : C.row v (upd vs (C.pos.getD k 0) u) (k + 1) = u := by show upd vs _ u _ = u; rw [upd_same]
  refine ⟨k + 1, by omega, fun i hi => ?_, ?_, fun s hm hls => ?_⟩
  · by_cases e : i = k
    · subst e; rw [upd_same]; simp
    · rw [upd_other _ _ (Chain.get_ne n1 hi hj e), hl i hi]
      simp only [decide_eq_decide]; omega
  · rw [hro, hso]; exact ht.trans hu
  · have hne : s.1 ≠ C.pos.getD k 0 := fun e => n3 s hm (by rw [e]; exact get_mem hj)
    rw [upd_other _ _ hne] at hls
    obtain ⟨t, g1, g2, g3, g4⟩ := hside s hm hls
    have hblk : w'.heap[t]? = w.heap[t]? := hu.grown.block t g4 g3
    refine ⟨t, by rw [upd_other _ _ hne]; exact g1, fun i c hc => (World.cell?_of_block (a := ⟨t, i, none⟩) hblk).trans (g2 i c hc), ?_, Nat.lt_of_lt_of_le g4 hu.grown.size⟩
    rw [hro]
    intro e
    rcases hu.place with p | ⟨g, p1, p2⟩
    · exact g3 (e.trans p)
    · rw [p1] at e
      have : t = g := by simpa using e
      omega
theorem Chain.Far.start {C : Chain} {vs : Nat → Value} (hown : w0.ownsRow base 5 1 v n xs) : C.Far base n v xs w0 (fun _ => false) vs w0.drew :=
  ⟨0, Nat.zero_le _, fun j _ => by simp, (told_nil hown).upto (Below.refl _ _).drew, fun s _ h => by cases h⟩
theorem Chain.Far.end {C : Chain} {l : Nat → Bool} {vs : Nat → Value} {w : World} (h : C.Far base n v xs w0 l vs w) (hl : ∀ j, j < C.pos.length → l (C.pos.getD j 0) = true) : Told base n xs v w0 (C.sofar C.pos.length) (C.row v vs C.pos.length) w := by
  obtain ⟨k, hk, g, ht, _⟩ := h
  have : k = C.pos.length := by
    by_cases h0 : C.pos.length = 0
    · omega
    · have a := g (C.pos.length - 1) (by omega)
      rw [hl _ (by omega)] at a
      have : C.pos.length - 1 < k := by simpa using a.symm
      omega
  subst this
  exact ht
end Go.Proofs.YthfilnflgahcjaaGreatDoor

