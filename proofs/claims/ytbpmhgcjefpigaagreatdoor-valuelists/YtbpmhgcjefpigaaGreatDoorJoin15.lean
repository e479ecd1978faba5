/- What is told byte by byte: letters, bare keys, rows of bytes that grow. Rows of bytes that grow: what is said of them, and the smallest that make them grow. What is in a list or a map, told. The statement that tells a list, operation by operation, in whatever order. -/
import Derived.Test.YtbpmhgcjefpigaaGreatDoorJoin14
import Derived.Lib.AppendStr
import Derived.Lib.BufferKept
import Derived.Test.YtbpmhgcjefpigaaGreatDoorJoin13
import Derived.Deep.AppendLies
namespace Go.Proofs.YtbpmhgcjefpigaaGreatDoor
open Go.RowKit Go.Shelf
set_option linter.unusedVariables false
def letterB (m : Nat) : Bool := m == 95 || (decide (65 ≤ m) && decide (m ≤ 90)) || (decide (97 ≤ m) && decide (m ≤ 122))
theorem letter_any (m : Nat) (w : World) : Calls Tryz.prog 106 #[.int .u8 (m : Int)] w fun e w' => e = .returned (.bool (letterB m)) ∧ w' = w := by
 go_enter Tryz.func106, Tryz.ntmps106
 by_cases h1 : m = 95
 ·subst h1
  go_wp2_with fail
  go_ret
  exact ⟨rfl, rfl⟩
 have a1 : ¬ (m : Int) = 95 := by omega
 by_cases h2 : 65 ≤ m
 ·have a2 : (65 : Int) ≤ m := by omega
  by_cases h3 : m ≤ 90
  ·have a3 : (m : Int) ≤ 90 := by omega
   go_wp2_with fail
   go_ret
   exact ⟨by simp [letterB, h2, h3], rfl⟩
  ·have a3 : ¬ (m : Int) ≤ 90 := by omega
   by_cases h4 : 97 ≤ m
   ·have a4 : (97 : Int) ≤ m := by omega
    go_wp2_with fail
    go_ret
    refine ⟨congrArg (fun b => Ending.returned (.bool b)) (?_ : ((m : Int) == 95 || decide ((m : Int) ≤ 122)) = letterB m), rfl⟩
    rw [Bool.eq_iff_iff]
    simp [letterB]
    omega
   ·have a4 : ¬ (97 : Int) ≤ m := by omega
    go_wp2_with fail
    go_ret
    refine ⟨congrArg (fun b => Ending.returned (.bool b)) (?_ : ((m : Int) == 95) = letterB m), rfl⟩
    rw [Bool.eq_iff_iff]
    simp [letterB]
    omega
 ·have a2 : ¬ (65 : Int) ≤ m := by omega
  have a4 : ¬ (97 : Int) ≤ m := by omega
  go_wp2_with fail
  go_ret
  refine ⟨congrArg (fun b => Ending.returned (.bool b)) (?_ : ((m : Int) == 95) = letterB m), rfl⟩
  rw [Bool.eq_iff_iff]
  simp [letterB]
  omega
def bareAt (s : ByteArray) (j : Nat) : Bool := letterB (s.get! j).toNat || (decide (0 < j) && (decide (48 ≤ (s.get! j).toNat) && decide ((s.get! j).toNat ≤ 57)))
def bareB (s : ByteArray) : Bool := (List.range s.size).all (bareAt s) && decide (0 < s.size)
theorem bare_step {s : ByteArray} {j : Nat} (h : (List.range j).all (bareAt s) = true) (h' : bareAt s j = true) : (List.range (j + 1)).all (bareAt s) = true := by
 rw [List.range_succ, List.all_append, h]; simp [h']
theorem bare_not {s : ByteArray} {j : Nat} (hj : j < s.size) (h' : bareAt s j = false) : bareB s = false := by
 unfold bareB
 rw [Bool.and_eq_false_iff]
 left
 rw [List.all_eq_false]
 exact ⟨j, List.mem_range.2 hj, by simp [h']⟩
set_option maxHeartbeats 1000000 in
theorem bare_any (s : ByteArray) (hs : s.size ≤ maxLen) (w : World) : Calls Tryz.prog 83 #[.string s] w fun e w' => e = .returned (.bool (bareB s)) ∧ w' = w := by
 unfold maxLen at hs
 go_enter Tryz.func83, Tryz.ntmps83
 go_wp2_with fail
 go_loopw [6] (fun i wr => ∃ j : Nat, j ≤ s.size ∧ i = .int .i64 j ∧ wr = w ∧ (List.range j).all (bareAt s) = true) (fun i _ => s.size - (intOf i).toNat)
 case atStart => exact ⟨0, Nat.zero_le _, rfl, rfl, rfl⟩
 case round =>
  obtain ⟨j, hj, rfl, rfl, hno⟩ := hrel
  have HNO := hidE hno
  clear hno
  by_cases hlt : j < s.size
  ·have hb : s[j] = s.get! j := by simp [ByteArray.get!, ByteArray.getElem_eq_getElem_data, hlt]
   have HAT : Hid (∀ m, (s.get! j).toNat = m → bareAt s j = (letterB m || (decide (0 < j) && (decide (48 ≤ m) && decide (m ≤ 57))))) := fun m h => by subst h; rfl
   go_wp2_with fail
   refine (letter_any _ wr).mono ?_
   rintro e _ ⟨rfl, rfl⟩
   obtain ⟨m, hm⟩ : ∃ m, (s.get! j).toNat = m := ⟨_, rfl⟩
   have HA := hidE (HAT.out m hm)
   rw [hm]
   have hbm : (s[j]).toNat = m := by rw [hb]; exact hm
   clear HAT
   cases hl : letterB m with
   | true =>
    have HL := hidE hl
    clear hl
    go_wp2_with fail
    go_roundw
    case rel =>
     refine ⟨j + 1, by omega, by go_num, trivial, bare_step HNO.out ?_⟩
     rw [HA.out, HL.out]; rfl
    case measure => simp [intOf]; omega
   | false =>
    have HL := hidE hl
    clear hl
    by_cases h0 : j = 0
    ·have HR : Hid (bareB s = false) := bare_not hlt (by rw [HA.out, HL.out, h0]; rfl)
     have h0' : ((j : Int) == 0) = true := by simp [h0]
     go_wp2_with fail
     go_ret
     exact ⟨by rw [HR.out]; rfl, rfl⟩
    ·have h0' : ((j : Int) == 0) = false := by simp [h0]
     by_cases h1 : m < 48
     ·have h1' : (m : Int) < 48 := by omega
      have HR : Hid (bareB s = false) := bare_not hlt (by rw [HA.out, HL.out]; simp; omega)
      go_wp2_with fail
      go_ret
      exact ⟨by rw [HR.out]; rfl, rfl⟩
     ·have h1' : ¬ (m : Int) < 48 := by omega
      by_cases h2 : 57 < m
      ·have h2' : (57 : Int) < m := by omega
       have HR : Hid (bareB s = false) := bare_not hlt (by rw [HA.out, HL.out]; simp; omega)
       go_wp2_with fail
       go_ret
       exact ⟨by rw [HR.out]; rfl, rfl⟩
      ·have h2' : ¬ (57 : Int) < m := by omega
       go_wp2_with fail
       go_roundw
       case rel =>
        refine ⟨j + 1, by omega, by go_num, trivial, bare_step HNO.out ?_⟩
        rw [HA.out, HL.out]
        simp
        omega
       case measure => simp [intOf]; omega
  ·have hjs : j = s.size := by omega
   go_wp2_with fail
   go_ret
   refine ⟨congrArg (fun b => Ending.returned (.bool b)) (?_ : (!s.toList.isEmpty) = bareB s), rfl⟩
   have hn := HNO.out
   rw [hjs] at hn
   unfold bareB
   rw [hn, ByteArray.toList_eq, Bool.true_and, Bool.eq_iff_iff]
   have hz : s.size = s.data.toList.length := rfl
   rw [hz]
   cases s.data.toList <;> simp
end Go.Proofs.YtbpmhgcjefpigaaGreatDoor

namespace Go.Proofs.YtbpmhgcjefpigaaGreatDoor
open Go.RowKit Go.Shelf Go.Lib
set_option linter.unusedVariables false
theorem Tryz.info5 : (Tryz.prog.info? 5).map (fun i => (i.zero, i.size, i.bytes)) = some (some (.int .u8 0), 1, 1) := by kernel_rfl
theorem kept_of_grown {base n : Nat} {v : Value} {xs : List Value} {w w' : World} (hown : w.ownsRow base 5 1 v n xs) (hg : w.grownBy w' v.ownBlock) : OthersKept 5 none w w' := fun k o hk _ hne => by
 have hk' : k < w.heap.size := (Array.getElem?_eq_some_iff.1 hk).1
 by_cases e : some k = v.ownBlock
 ·obtain ⟨_, ⟨h1, _⟩ | ⟨g, cap, cur, h1, _, h2, _⟩⟩ := hown
  ·rw [h1] at e; cases e
  ·rw [h1] at e
   have : k = g := by simpa [Value.ownBlock] using e
   rw [this, h2] at hk
   exact absurd (Option.some.inj hk).symm (hne _ _)
 ·exact (hg.block k hk' e).trans hk
theorem below_of_grown {base n : Nat} {v : Value} {xs : List Value} {w w' : World} (hown : w.ownsRow base 5 1 v n xs) (hB : base ≤ w.heap.size) (hg : w.grownBy w' v.ownBlock) : Below base w w' :=
 (Below.refl base w).grown hg hB fun q h => (hown.lt q h).1
structure Told (base n : Nat) (xs : List Value) (v : Value) (w : World) (bs : List UInt8) (v' : Value) (w' : World) : Prop where
 own : w'.ownsRow base 5 1 v' (n + bs.length) (xs ++ byteCells bs)
 grown : w.grownBy w' v.ownBlock
 place : v'.ownBlock = v.ownBlock ∨ ∃ g, v'.ownBlock = some g ∧ w.heap.size ≤ g
theorem told_nil {base n : Nat} {v : Value} {xs : List Value} {w : World} (hown : w.ownsRow base 5 1 v n xs) : Told base n xs v w [] v w :=
 ⟨by simpa [byteCells] using hown, ⟨rfl, rfl, rfl, Nat.le_refl _, fun _ _ _ => rfl⟩, .inl rfl⟩
theorem Told.trans {base n : Nat} {xs : List Value} {w w1 w2 : World} {bs cs : List UInt8} {v v1 v2 : Value} (h : Told base n xs v w bs v1 w1) (h' : Told base (n + bs.length) (xs ++ byteCells bs) v1 w1 cs v2 w2) : Told base n xs v w (bs ++ cs) v2 w2 := by
 have hle := h.grown.size
 refine ⟨by have := h'.own; rw [List.append_assoc, Nat.add_assoc] at this; simpa [byteCells] using this, ⟨h'.grown.os.trans h.grown.os, h'.grown.tape.trans h.grown.tape, h'.grown.output.trans h.grown.output, Nat.le_trans hle h'.grown.size, fun k hk hne => ?_⟩, ?_⟩
 ·refine (h'.grown.block k (Nat.lt_of_lt_of_le hk hle) fun e => ?_).trans (h.grown.block k hk hne)
  rcases h.place with g | ⟨g, e1, e2⟩
  ·exact hne (e.trans g)
  ·rw [e1] at e
   have : k = g := by simpa using e
   omega
 ·rcases h'.place with g | ⟨g, e1, e2⟩
  ·rw [g]; exact h.place
  ·exact .inr ⟨g, e1, by omega⟩
theorem Told.below {base n : Nat} {xs : List Value} {w w1 : World} {bs : List UInt8} {v v1 : Value} (h : Told base n xs v w bs v1 w1) (hown : w.ownsRow base 5 1 v n xs) (hB : base ≤ w.heap.size) : Below base w w1 := below_of_grown hown hB h.grown
theorem Told.kept {base n : Nat} {xs : List Value} {w w1 : World} {bs : List UInt8} {v v1 : Value} (h : Told base n xs v w bs v1 w1) (hown : w.ownsRow base 5 1 v n xs) : OthersKept 5 none w w1 := kept_of_grown hown h.grown
theorem own_below {base n : Nat} {xs : List Value} {v : Value} {w w1 : World} (hown : w.ownsRow base 5 1 v n xs) (hb : Below w.heap.size w w1) : w1.ownsRow base 5 1 v n xs := by
 obtain ⟨g1, ⟨g2, g3⟩ | ⟨g, cap, cur, g2, g3, g4, g5⟩⟩ := hown
 ·exact ⟨g1, .inl ⟨g2, g3⟩⟩
 ·exact ⟨g1, .inr ⟨g, cap, cur, g2, g3, (hb.block g (Array.getElem?_eq_some_iff.1 g4).1).trans g4, g5⟩⟩
theorem Told.from {base n : Nat} {xs : List Value} {w w1 w2 : World} {bs : List UInt8} {v v1 : Value} (hb : Below w.heap.size w w1) (h : Told base n xs v w1 bs v1 w2) : Told base n xs v w bs v1 w2 :=
 ⟨h.own, ⟨h.grown.os.trans hb.os, h.grown.tape.trans hb.tape, h.grown.output.trans hb.output, Nat.le_trans hb.size h.grown.size, fun k hk hne => (h.grown.block k (Nat.lt_of_lt_of_le hk hb.size) hne).trans (hb.block k hk)⟩,
  h.place.imp id fun ⟨g, e1, e2⟩ => ⟨g, e1, Nat.le_trans hb.size e2⟩⟩
theorem Told.upto {base n : Nat} {xs : List Value} {w w1 w2 : World} {bs : List UInt8} {v v1 : Value} (h : Told base n xs v w bs v1 w1) (hb : Below w1.heap.size w1 w2) : Told base n xs v w bs v1 w2 :=
 ⟨own_below h.own hb, ⟨hb.os.trans h.grown.os, hb.tape.trans h.grown.tape, hb.output.trans h.grown.output, Nat.le_trans h.grown.size hb.size, fun k hk hne => (hb.block k (Nat.lt_of_lt_of_le hk h.grown.size)).trans (h.grown.block k hk hne)⟩, h.place⟩
theorem append_place {ty : TypeId} {base n : Nat} {v v' : Value} {xs : List Value} {w w' : World} {s : ByteArray} (hown : w.ownsRow base 5 1 v n xs) (h0 : 0 < s.size) (hn : n + s.size ≤ 100000000000000)
  (hrun : (Builtin.append_ #[67, 9] ty #[v, .string s]).run Tryz.prog w = .ok v' w') : v'.ownBlock = v.ownBlock ∨ ∃ g, v'.ownBlock = some g ∧ w.heap.size ≤ g := by
 obtain ⟨i0, hi, hz0, hz1, hz2⟩ := info_parts Tryz.info5
 have hxl : xs.length = n := by simpa using hown.1
 rcases hown.2 with ⟨rfl, rfl⟩ | ⟨g, cap, cur, rfl, hbg, hg, hnc, hcm, hcs, htake⟩
 ·rw [run_append_nil_string (P := Tryz.prog) w 67 9 ty 5 i0 (.int .u8 0) Tryz.underlying67 Tryz.underlying9 hi hz0 s h0 (by omega) (by rw [hz2]; omega)] at hrun
  cases hrun
  exact .inr ⟨_, rfl, Nat.le_refl _⟩
 ·by_cases hroom : n + s.size ≤ cap
  ·rw [run_append_room_string (P := Tryz.prog) w 67 9 ty 5 i0 Tryz.underlying67 Tryz.underlying9 hi hz1 g n cap cur hg s hroom (by omega)] at hrun
   cases hrun
   exact .inl rfl
  ·rw [run_append_grow_string (P := Tryz.prog) w 67 9 ty 5 i0 (.int .u8 0) Tryz.underlying67 Tryz.underlying9 hi hz0 ⟨g, 0, none⟩ n cap xs (by rw [hz1]; simpa using hxl) (hown.cells (g := g) rfl) s (by omega) (by omega) (by rw [hz2]; exact growslice_fits (by omega) (by omega))] at hrun
   cases hrun
   exact .inr ⟨_, rfl, Nat.le_refl _⟩
theorem append_text {ops : Array Oper} {rest : List Oper} {o : Oper} {a : Act} {Q : Exit → Act → World → Prop} (w : World) (hgd : o.guard = none) (sl x : Operand)
  (ho : o.op = .call { callee := .builtin .append, args := #[sl, x], argTypes := #[67, 9] }) (base n : Nat) (v : Value) (xs : List Value) (hs : a.eval sl = v) (hown : w.ownsRow base 5 1 v n xs) (s : ByteArray) (hx : a.eval x = .string s)
  (h0 : 0 < s.size) (hn : n + s.size ≤ 100000000000000) (hB : base ≤ w.heap.size)
  (h : ∀ v' w', Told base n xs v w s.data.toList v' w' → wpList Tryz.prog ops Q rest (a.put o.dst v') w') : wpList Tryz.prog ops Q (o :: rest) a w := by
 refine wpList_plain hgd fun K hK => ?_
 obtain ⟨i0, hi, hz0, hz1, hz2⟩ := info_parts Tryz.info5
 obtain ⟨v', w', hr, h2, h3, h4⟩ := run_append_own_string (P := Tryz.prog) w base 67 9 o.type 5 i0 Tryz.underlying67 Tryz.underlying9 hi hz0 hz1 hz2 v n xs hown s (by unfold maxLen; omega) (by omega) hB
 unfold Oper.wp execOp
 simp only [ho, resolve, invoke, builtin, Sem.run_bind, Sem.run_pure, Result.andThen_ok, List.map_toArray, List.map_cons, List.map_nil, hs, hx, hr]
 exact hK _ _ (h v' w' ⟨h2, h3, append_place hown h0 hn hr⟩)
def boolBytes (b : Bool) : List UInt8 := if b then [116, 114, 117, 101] else [102, 97, 108, 115, 101]
set_option maxRecDepth 100000 in
theorem appendBool_in (b : Bool) (base n : Nat) (v : Value) (xs : List Value) (w : World) (hown : w.ownsRow base 5 1 v n xs) (hB : base ≤ w.heap.size) (hn : n ≤ 1000000000000) :
  Calls Tryz.prog 116 #[v, .bool b] w fun e w' => ∃ v', e = .returned v' ∧ Told base n xs v w (boolBytes b) v' w' := by
 go_enter Tryz.func116, Tryz.ntmps116
 cases b with
 | true =>
  go_wp2_with (at_builtin; refine append_text w rfl _ _ rfl base n v xs rfl hown ⟨#[116, 114, 117, 101]⟩ rfl (by decide) (by show n + 4 ≤ _; omega) hB ?_; intro v' w' g1)
  have HT : Hid (Told base n xs v w (boolBytes true) v' w') := g1
  go_ret
  exact ⟨_, rfl, HT.out⟩
 | false =>
  go_wp2_with (at_builtin; refine append_text w rfl _ _ rfl base n v xs rfl hown ⟨#[102, 97, 108, 115, 101]⟩ rfl (by decide) (by show n + 5 ≤ _; omega) hB ?_; intro v' w' g1)
  have HT : Hid (Told base n xs v w (boolBytes false) v' w') := g1
  go_ret
  exact ⟨_, rfl, HT.out⟩
theorem appendBool_any (b : Bool) (base n : Nat) (v : Value) (xs : List Value) (w : World) (hown : w.ownsRow base 5 1 v n xs) (hB : base ≤ w.heap.size) (hn : n ≤ 1000000000000) :
  Calls Tryz.prog 98 #[v, .bool b] w fun e w' => ∃ v', e = .returned v' ∧ Told base n xs v w (boolBytes b) v' w' := by
 have HC := hidE (appendBool_in b base n v xs w hown hB hn)
 clear hown
 go_enter Tryz.func98, Tryz.ntmps98
 go_wp2_with fail
 refine HC.out.mono ?_
 rintro e w' ⟨v', rfl, ht⟩
 have HT := hidE ht
 clear ht HC
 go_wp2_with fail
 go_ret
 exact ⟨_, rfl, HT.out⟩
end Go.Proofs.YtbpmhgcjefpigaaGreatDoor

namespace Go.Proofs.YtbpmhgcjefpigaaGreatDoor
open Go.RowKit Go.Shelf Go.Lib
set_option linter.unusedVariables false
set_option linter.unusedSimpArgs false
structure TB (base : Nat) (w : World) : Prop where
 utf : ∀ w', Below base w w' → Tabs w'
 pow : TabBelow Tryz.prog base w "internal/strconv.uint64pow10" .u64 pow10Tab
theorem TB.on {base : Nat} {w w' : World} (h : TB base w) (hb : Below base w w') : TB base w' := ⟨fun w2 h2 => h.utf w2 (hb.trans h2), h.pow.on hb⟩
theorem Told.box {base n : Nat} {xs : List Value} {w w1 : World} {bs : List UInt8} {v v1 : Value} (h : Told base n xs v w bs v1 w1) (hown : w.ownsRow base 5 1 v n xs) {q : Nat} {c : Array Value} {fz : Nat × Nat} (hq : w.heap[q]? = some (.cells c 26 fz)) : w1.heap[q]? = some (.cells c 26 fz) :=
 h.kept hown q _ hq (by simp) (fun c fz e => by cases e)
theorem box_cell {w : World} {q : Nat} {c : Array Value} {fz : Nat × Nat} (hq : w.heap[q]? = some (.cells c 26 fz)) {i : Nat} {u : Value} (hi : c[i]? = some u) : w.cell? ⟨q, i, none⟩ = some u := by
 unfold World.cell?; simp only [hq]; simpa using hi
theorem told_len {s : ByteArray} : s.data.toList.length = s.size := rfl
theorem boxes {base n : Nat} {xs : List Value} {w w1 : World} {bs : List UInt8} {v v1 : Value} (h : Told base n xs v w bs v1 w1) (hown : w.ownsRow base 5 1 v n xs) {q : Nat} {a0 a1 a2 a3 a4 a5 : Value} {fz : Nat × Nat} (hq : w.heap[q]? = some (.cells #[a0, a1, a2, a3, a4, a5] 26 fz)) :
  w1.cell? ⟨q, 0, none⟩ = some a0 ∧ w1.cell? ⟨q, 1, none⟩ = some a1 ∧ w1.cell? ⟨q, 2, none⟩ = some a2 ∧ w1.cell? ⟨q, 3, none⟩ = some a3 ∧ w1.cell? ⟨q, 4, none⟩ = some a4 ∧ w1.cell? ⟨q, 5, none⟩ = some a5 :=
 have h := h.box hown hq
 ⟨box_cell h rfl, box_cell h rfl, box_cell h rfl, box_cell h rfl, box_cell h rfl, box_cell h rfl⟩
end Go.Proofs.YtbpmhgcjefpigaaGreatDoor

namespace Go.Proofs.YtbpmhgcjefpigaaGreatDoor
open Go.RowKit Go.Shelf Go.WideShapes Go.Lib
set_option linter.unusedVariables false
set_option linter.unusedSimpArgs false
noncomputable def RT9 : Array Oper := regionAt Tryz.f76 9
def ancT9 (i : Nat) : List Nat := ([[], [], [0, 1], [], [0, 1, 2, 3], [], [0, 1, 2, 3, 4, 5], [0, 1, 2, 3, 4, 5, 6]] : List (List Nat)).getD i []
def gT9 (v : Value) (p0 : Int) (p1 : Bool) (p2 : Int) (p3 : ByteArray) (pa : Option Addr) (pn pc : Nat) (pb : Option Addr) (pm pd : Nat) (i : Nat) (u : Value) : Prop := ([fun u => u = (v), fun u => ∃ t, u = .slice (some ⟨t, 0, none⟩) 1 1, fun _ => True, fun u => u = (.agg #[.int .i64 p0, .bool p1, .int .i64 p2, .string p3, .slice pa pn pc, .slice pb pm pd]), fun _ => True, fun u => ∃ t, u = .slice (some ⟨t, 0, none⟩) 1 1, fun _ => True, fun _ => True] : List (Value → Prop)).getD i (fun _ => True) u
structure ST9 (q base n : Nat) (v : Value) (xs : List Value) (p0 : Int) (p1 : Bool) (p2 : Int) (p3 : ByteArray) (pa : Option Addr) (pn pc : Nat) (pb : Option Addr) (pm pd : Nat) (A : List UInt8) (w0 : World) (l : Nat → Bool) (vs : Nat → Value) (w : World) : Prop where
 told : l 6 = false → Told base n xs v w0 (if l 4 then [91] ++ A else if l 2 then [91] else []) (if l 4 then vs 4 else if l 2 then vs 2 else v) w
 opened : l 1 = true → l 2 = false → ∃ t, vs 1 = .slice (some ⟨t, 0, none⟩) 1 1 ∧ w.cell? ⟨t, 0, none⟩ = some (.int .u8 91)
 closed : l 5 = true → l 6 = false → ∃ t, vs 5 = .slice (some ⟨t, 0, none⟩) 1 1 ∧ w.cell? ⟨t, 0, none⟩ = some (.int .u8 93) ∧ some t ≠ Value.ownBlock (if l 4 then vs 4 else if l 2 then vs 2 else v)
 done : l 6 = true → Told base n xs v w0 ([91] ++ A ++ [93]) (vs 6) w
 last : l 7 = true → vs 7 = vs 6
theorem ST9.lift {q base n : Nat} {v : Value} {xs : List Value} {p0 : Int} {p1 : Bool} {p2 : Int} {p3 : ByteArray} {pa : Option Addr} {pn pc : Nat} {pb : Option Addr} {pm pd : Nat} {A : List UInt8} {w0 : World} {l : Nat → Bool} {vs : Nat → Value} {w : World} (h : ST9 q base n v xs p0 p1 p2 p3 pa pn pc pb pm pd A w0 l vs w) {i : Nat} (u : Value) (hi : i = 0 ∨ i = 3) : ST9 q base n v xs p0 p1 p2 p3 pa pn pc pb pm pd A w0 (upd l i true) (upd vs i u) w := by
 have e1 : upd l i true 1 = l 1 := upd_other _ _ (by omega)
 have e2 : upd l i true 2 = l 2 := upd_other _ _ (by omega)
 have e4 : upd l i true 4 = l 4 := upd_other _ _ (by omega)
 have e5 : upd l i true 5 = l 5 := upd_other _ _ (by omega)
 have e6 : upd l i true 6 = l 6 := upd_other _ _ (by omega)
 have e7 : upd l i true 7 = l 7 := upd_other _ _ (by omega)
 have f1 : upd vs i u 1 = vs 1 := upd_other _ _ (by omega)
 have f2 : upd vs i u 2 = vs 2 := upd_other _ _ (by omega)
 have f4 : upd vs i u 4 = vs 4 := upd_other _ _ (by omega)
 have f5 : upd vs i u 5 = vs 5 := upd_other _ _ (by omega)
 have f6 : upd vs i u 6 = vs 6 := upd_other _ _ (by omega)
 have f7 : upd vs i u 7 = vs 7 := upd_other _ _ (by omega)
 exact ⟨by rw [e6, e4, e2, f4, f2]; exact h.told, by rw [e1, e2, f1]; exact h.opened, by rw [e5, e6, f5, e4, e2, f4, f2]; exact h.closed, by rw [e6, f6]; exact h.done, by rw [e7, f7, f6]; exact h.last⟩
structure BT9 (q base n : Nat) (v : Value) (xs : List Value) (p0 : Int) (p1 : Bool) (p2 : Int) (p3 : ByteArray) (pa : Option Addr) (pn pc : Nat) (pb : Option Addr) (pm pd : Nat) (A : List UInt8) (w0 : World) (c : Act) : Prop where
 t0 : c.eval (.tmp 0) = v
 t3 : c.eval (.tmp 3) = .pointer (some ⟨q, 0, none⟩)
 size : c.tmps.size = 63
structure WT9 (q base n : Nat) (v : Value) (xs : List Value) (p0 : Int) (p1 : Bool) (p2 : Int) (p3 : ByteArray) (pa : Option Addr) (pn pc : Nat) (pb : Option Addr) (pm pd : Nat) (A : List UInt8) (w0 : World) : Prop where
 box : w0.heap[q]? = some (.cells #[.int .i64 p0, .bool p1, .int .i64 p2, .string p3, .slice pa pn pc, .slice pb pm pd] 26 (0, 0))
 own : w0.ownsRow base 5 1 v n xs
 few : n + A.length ≤ 1000000000
 low : base ≤ w0.heap.size
 call : ∀ u xs' m w, w.ownsRow base 5 1 u m xs' → base ≤ w.heap.size → Below base w0 w → m ≤ n + 1 → Calls Tryz.prog 100 #[u, .agg #[.int .i64 p0, .bool p1, .int .i64 p2, .string p3, .slice pa pn pc, .slice pb pm pd]] w fun e w' => ∃ v', e = .returned v' ∧ Told base m xs' u w A v' w'
def stepT9 (q base n : Nat) (v : Value) (xs : List Value) (p0 : Int) (p1 : Bool) (p2 : Int) (p3 : ByteArray) (pa : Option Addr) (pn pc : Nat) (pb : Option Addr) (pm pd : Nat) (A : List UInt8) (w0 : World) (Q : Exit → Act → World → Prop) (i : Nat) : Prop := ∀ (l : Nat → Bool) (c : Act) (w : World), (BT9 q base n v xs p0 p1 p2 p3 pa pn pc pb pm pd A w0 c) → (WT9 q base n v xs p0 p1 p2 p3 pa pn pc pb pm pd A w0) → (l i = false) → (∀ k, l k = true → ∀ j ∈ ancT9 k, l j = true) → (∀ j ∈ ancT9 i, l j = true ∧ gT9 v p0 p1 p2 p3 pa pn pc pb pm pd j (val RT9 c j)) → (ST9 q base n v xs p0 p1 p2 p3 pa pn pc pb pm pd A w0 l (val RT9 c) w) → Steps' Tryz.prog RT9 Q (gT9 v p0 p1 p2 p3 pa pn pc pb pm pd) (ST9 q base n v xs p0 p1 p2 p3 pa pn pc pb pm pd A w0) i l c w
theorem wnT9 {i : Nat} {o : Oper} {c : Act} (ho : RT9[i]? = some o) (h : o.guard = none) : Region.wanted o (yielded RT9 c.tmps) = true := want_none h
section
variable (q base n : Nat) (v : Value) (xs : List Value) (p0 : Int) (p1 : Bool) (p2 : Int) (p3 : ByteArray) (pa : Option Addr) (pn pc : Nat) (pb : Option Addr) (pm pd : Nat) (A : List UInt8) (w0 : World) (Q : Exit → Act → World → Prop)
set_option maxRecDepth 10000 in
theorem oT9_0 : stepT9 q base n v xs p0 p1 p2 p3 pa pn pc pb pm pd A w0 Q 0 := by
 intro l c w hb hW hli hcl hA hS
 have ho : RT9[0]? = some (⟨some 27, .move (.tmp 0), 67, "text.go:48", #[], none⟩ : Oper) := by kernel_rfl
 have e0 := hb.t0
 have hw := wnT9 (c := c) ho rfl
 have ec : ∀ v, c.eval (.const v) = v := fun _ => rfl
 have ef : ∀ f, c.eval (.func f) = .func (.func f) #[] #[] := fun _ => rfl
 refine steps_value (d := 27) ho rfl (by rw [hb.size]; decide) hw (v := v) ?_ rfl (hS.lift _ (by decide))
 generalize c.eval = ρ at *
 clear hA hb hW hw ho hS hcl hli
 go_simp
set_option maxRecDepth 10000 in
theorem oT9_1 : stepT9 q base n v xs p0 p1 p2 p3 pa pn pc pb pm pd A w0 Q 1 := by
 intro l c w hb hW hli hcl hA hS
 have ho : RT9[1]? = some (⟨some 28, .buildSlice 67 1 #[(0, .const (Value.int .u8 91))], 67, "text.go:48", #[], none⟩ : Oper) := by kernel_rfl
 have hw := wnT9 (c := c) ho rfl
 have ec : ∀ v, c.eval (.const v) = v := fun _ => rfl
 have ef : ∀ f, c.eval (.func f) = .func (.func f) #[] #[] := fun _ => rfl
 have n2 : l 2 = false := by
  cases h : l 2 with
  | false => rfl
  | true => have := hcl 2 h 1 (by decide); rw [hli] at this; cases this
 have n4 : l 4 = false := by
  cases h : l 4 with
  | false => rfl
  | true => have := hcl 4 h 1 (by decide); rw [hli] at this; cases this
 have n6 : l 6 = false := by
  cases h : l 6 with
  | false => rfl
  | true => have := hcl 6 h 1 (by decide); rw [hli] at this; cases this
 have htd := hS.told n6
 have hba : Below w.heap.size w (w.alloc (.cells #[.int .u8 91] 5)) := (Below.refl _ _).alloc (Nat.le_refl _) _
 refine steps_value (d := 28) ho rfl (by rw [hb.size]; decide) hw (v := .slice (some ⟨w.heap.size, 0, none⟩) 1 1) (w' := w.alloc (.cells #[.int .u8 91] 5)) ?_ ⟨_, rfl⟩ ?_
 ·generalize c.eval = ρ at *
  clear hA hb hW hw ho hS hcl hli htd
  go_simp
 ·have hne : some w.heap.size ≠ Value.ownBlock (if l 4 then val RT9 c 4 else if l 2 then val RT9 c 2 else v) := fun e => by
   have := (htd.own.lt _ e.symm).2
   omega
  refine ⟨fun _ => ?_, fun _ _ => ⟨w.heap.size, by rw [upd_same], cell_new _ _ _ 0 _ rfl⟩, fun h5 _ => ?_, fun h => ?_, fun h => ?_⟩
  ·rw [upd_other _ _ (show (4 : Nat) ≠ 1 by decide), upd_other _ _ (show (2 : Nat) ≠ 1 by decide), upd_other _ _ (show (4 : Nat) ≠ 1 by decide), upd_other _ _ (show (2 : Nat) ≠ 1 by decide)]
   exact htd.upto hba
  ·rw [upd_other _ _ (by decide)] at h5
   obtain ⟨t, h1, h2, h3⟩ := hS.closed h5 n6
   rw [upd_other _ _ (show (4 : Nat) ≠ 1 by decide), upd_other _ _ (show (2 : Nat) ≠ 1 by decide), upd_other _ _ (show (4 : Nat) ≠ 1 by decide), upd_other _ _ (show (2 : Nat) ≠ 1 by decide), upd_other _ _ (show (5 : Nat) ≠ 1 by decide)]
   exact ⟨t, h1, (hba.cell (p := ⟨t, 0, none⟩) (lt_of_cell h2)).trans h2, h3⟩
  ·rw [upd_other _ _ (by decide), n6] at h; cases h
  ·rw [upd_other _ _ (by decide)] at h
   have := hcl 7 h 6 (by decide)
   rw [n6] at this; cases this
set_option maxRecDepth 10000 in
theorem oT9_2 : stepT9 q base n v xs p0 p1 p2 p3 pa pn pc pb pm pd A w0 Q 2 := by
 intro l c w hb hW hli hcl hA hS
 have ho : RT9[2]? = some (⟨some 29, .call { callee := .builtin .append, args := #[.tmp 27, .tmp 28], argTypes := #[67, 67] }, 67, "text.go:48", #[⟨0, .data⟩, ⟨1, .data⟩], none⟩ : Oper) := by kernel_rfl
 have e27 : c.eval (.tmp 27) = v := by have h := (hA 0 (by decide)).2; rw [val_eq (show slotOf RT9 0 = some 27 by kernel_rfl)] at h; exact h
 have e28 : c.eval (.tmp 28) = val RT9 c 1 := (val_eq (show slotOf RT9 1 = some 28 by kernel_rfl)).symm
 have hw := wnT9 (c := c) ho rfl
 have ec : ∀ v, c.eval (.const v) = v := fun _ => rfl
 have ef : ∀ f, c.eval (.func f) = .func (.func f) #[] #[] := fun _ => rfl
 have n4 : l 4 = false := by
  cases h : l 4 with
  | false => rfl
  | true => have := hcl 4 h 2 (by decide); rw [hli] at this; cases this
 have n6 : l 6 = false := by
  cases h : l 6 with
  | false => rfl
  | true => have := hcl 6 h 2 (by decide); rw [hli] at this; cases this
 have htd := hS.told n6
 rw [n4, hli] at htd
 simp only [Bool.false_eq_true, if_false] at htd
 obtain ⟨t, ht, hcell⟩ := hS.opened (hA 1 (by decide)).1 hli
 obtain ⟨i0, hi, hz0, hz1, hz2⟩ := info_parts Tryz.info5
 have hown : w.ownsRow base 5 1 v n xs := by have := htd.own; simpa [byteCells] using this
 have hle := htd.grown.size
 refine steps_law (d := 29) ho rfl (by rw [hb.size]; decide) fun K hK => ?_
 refine step_append_lies w rfl (.tmp 27) (.tmp 28) 67 rfl base 5 i0 (.int .u8 0) 1 1 Tryz.underlying67 hi hz0 hz1 hz2 rfl (by decide) v n xs e27 hown ⟨t, 0, none⟩ 1 1 [.int .u8 91] (e28.trans ht) rfl ?_ ?_ (by decide) (by have := hW.few; unfold maxLen; omega) (by have := hW.few; omega) (Nat.le_trans hW.low hle) w.heap.size rfl ?_
 ·intro j u hj
  match j, hj with
  | 0, hj =>
   simp only [List.getElem?_cons_zero, Option.some.injEq] at hj
   subst hj
   rw [Lib.add_plain]; exact hcell
 ·intro u hu
  simp only [List.mem_cons, List.not_mem_nil, or_false] at hu
  subst hu; rfl
 ·intro g cap w' g1 g2 g3 g4
  have hnew : Told base n xs v w [91] (.slice (some ⟨g, 0, none⟩) (n + 1) cap) w' := ⟨g1, g2, g3.elim (fun e => .inl e.symm) fun e => .inr ⟨g, rfl, by omega⟩⟩
  have hall : Told base n xs v w0 [91] (.slice (some ⟨g, 0, none⟩) (n + 1) cap) w' := by
   have h1 : Told base n xs v w0 [] v w := htd
   have h2 := h1.trans (v2 := .slice (some ⟨g, 0, none⟩) (n + 1) cap) (w2 := w') (cs := [91]) (by simpa [byteCells] using hnew)
   simpa using h2
  refine hK _ _ trivial ⟨fun _ => ?_, fun _ h => ?_, fun h5 _ => ?_, fun h => ?_, fun h => ?_⟩
  ·rw [upd_other _ _ (show (4 : Nat) ≠ 2 by decide), n4, upd_same, upd_same]
   exact hall
  ·rw [upd_same] at h; cases h
  ·rw [upd_other _ _ (by decide)] at h5
   obtain ⟨t5, h1, h2, h3⟩ := hS.closed h5 n6
   rw [n4, hli] at h3
   rw [upd_other _ _ (show (4 : Nat) ≠ 2 by decide), n4, upd_same, upd_same, upd_other _ _ (show (5 : Nat) ≠ 2 by decide)]
   refine ⟨t5, h1, (World.cell?_of_block (g2.block t5 (lt_of_cell h2) h3)).trans h2, fun e => ?_⟩
   have e' : t5 = g := by simpa [Value.ownBlock] using e
   have := lt_of_cell h2
   have h2' : t5 < w.heap.size := this
   rcases g3 with g3 | g3
   ·exact h3 (by rw [e']; exact g3.symm)
   ·omega
  ·rw [upd_other _ _ (by decide), n6] at h; cases h
  ·rw [upd_other _ _ (by decide)] at h
   have := hcl 7 h 6 (by decide)
   rw [n6] at this; cases this
set_option maxRecDepth 10000 in
theorem oT9_3 : stepT9 q base n v xs p0 p1 p2 p3 pa pn pc pb pm pd A w0 Q 3 := by
 intro l c w hb hW hli hcl hA hS
 have ho : RT9[3]? = some (⟨some 30, .load 26 (.tmp 3), 26, "text.go:48", #[], none⟩ : Oper) := by kernel_rfl
 have e3 := hb.t3
 have hw := wnT9 (c := c) ho rfl
 have ec : ∀ v, c.eval (.const v) = v := fun _ => rfl
 have ef : ∀ f, c.eval (.func f) = .func (.func f) #[] #[] := fun _ => rfl
 have n4 : l 4 = false := by
  cases h : l 4 with
  | false => rfl
  | true => have := hcl 4 h 3 (by decide); rw [hli] at this; cases this
 have n6 : l 6 = false := by
  cases h : l 6 with
  | false => rfl
  | true => have := hcl 6 h 3 (by decide); rw [hli] at this; cases this
 obtain ⟨y0, y1, y2, y3, y4, y5⟩ := boxes (hS.told n6) hW.own hW.box
 refine steps_value (d := 30) ho rfl (by rw [hb.size]; decide) hw (v := .agg #[.int .i64 p0, .bool p1, .int .i64 p2, .string p3, .slice pa pn pc, .slice pb pm pd]) ?_ rfl (hS.lift _ (by decide))
 generalize c.eval = ρ at *
 clear hA hb hW hw ho hS hcl hli
 go_simp
set_option maxRecDepth 10000 in
theorem oT9_4 : stepT9 q base n v xs p0 p1 p2 p3 pa pn pc pb pm pd A w0 Q 4 := by
 intro l c w hb hW hli hcl hA hS
 have ho : RT9[4]? = some (⟨some 31, .call { callee := .value (.func 100), args := #[.tmp 29, .tmp 30], argTypes := #[67, 26] }, 67, "text.go:48", #[⟨2, .data⟩, ⟨3, .data⟩, ⟨2, .chain⟩], none⟩ : Oper) := by kernel_rfl
 have e29 : c.eval (.tmp 29) = val RT9 c 2 := (val_eq (show slotOf RT9 2 = some 29 by kernel_rfl)).symm
 have e30 : c.eval (.tmp 30) = .agg #[.int .i64 p0, .bool p1, .int .i64 p2, .string p3, .slice pa pn pc, .slice pb pm pd] := by have h := (hA 3 (by decide)).2; rw [val_eq (show slotOf RT9 3 = some 30 by kernel_rfl)] at h; exact h
 have hw := wnT9 (c := c) ho rfl
 have ec : ∀ v, c.eval (.const v) = v := fun _ => rfl
 have ef : ∀ f, c.eval (.func f) = .func (.func f) #[] #[] := fun _ => rfl
 have n6 : l 6 = false := by
  cases h : l 6 with
  | false => rfl
  | true => have := hcl 6 h 4 (by decide); rw [hli] at this; cases this
 have h2 : l 2 = true := (hA 2 (by decide)).1
 have htd := hS.told n6
 rw [hli, h2] at htd
 simp only [Bool.false_eq_true, if_false, if_true] at htd
 have hle := htd.grown.size
 refine steps_call (d := 31) ho rfl (by rw [hb.size]; decide) hw (f := 100) (args := #[val RT9 c 2, .agg #[.int .i64 p0, .bool p1, .int .i64 p2, .string p3, .slice pa pn pc, .slice pb pm pd]]) ?_ ?_
 ·generalize val RT9 c 2 = z at *
  generalize c.eval = ρ at *
  clear hA hb hW hw ho hS hcl hli htd
  go_simp
 ·refine (hW.call _ _ _ w htd.own (Nat.le_trans hW.low hle) (htd.below hW.own hW.low) (Nat.le_refl _)).mono ?_
  rintro e w' ⟨v', rfl, ht⟩
  refine ⟨v', rfl, trivial, ⟨fun _ => ?_, fun _ h => ?_, fun h5 _ => ?_, fun h => ?_, fun h => ?_⟩⟩
  ·rw [upd_same, upd_same]
   exact htd.trans ht
  ·rw [upd_other _ _ (by decide), h2] at h; cases h
  ·rw [upd_other _ _ (by decide)] at h5
   obtain ⟨t5, h1, h4, h3⟩ := hS.closed h5 n6
   rw [hli, h2] at h3
   rw [upd_same, upd_same, upd_other _ _ (show (5 : Nat) ≠ 4 by decide)]
   refine ⟨t5, h1, (World.cell?_of_block (ht.grown.block t5 (lt_of_cell h4) h3)).trans h4, fun e => ?_⟩
   have h4' : t5 < w.heap.size := lt_of_cell h4
   rcases ht.place with g3 | ⟨g, g3, g5⟩
   ·exact h3 (e.trans g3)
   ·have e2 : some t5 = some g := e.trans g3
    have : t5 = g := by simpa using e2
    omega
  ·rw [upd_other _ _ (by decide), n6] at h; cases h
  ·rw [upd_other _ _ (by decide)] at h
   have := hcl 7 h 6 (by decide)
   rw [n6] at this; cases this
set_option maxRecDepth 10000 in
theorem oT9_5 : stepT9 q base n v xs p0 p1 p2 p3 pa pn pc pb pm pd A w0 Q 5 := by
 intro l c w hb hW hli hcl hA hS
 have ho : RT9[5]? = some (⟨some 32, .buildSlice 67 1 #[(0, .const (Value.int .u8 93))], 67, "text.go:48", #[], none⟩ : Oper) := by kernel_rfl
 have hw := wnT9 (c := c) ho rfl
 have ec : ∀ v, c.eval (.const v) = v := fun _ => rfl
 have ef : ∀ f, c.eval (.func f) = .func (.func f) #[] #[] := fun _ => rfl
 have n6 : l 6 = false := by
  cases h : l 6 with
  | false => rfl
  | true => have := hcl 6 h 5 (by decide); rw [hli] at this; cases this
 have htd := hS.told n6
 have hba : Below w.heap.size w (w.alloc (.cells #[.int .u8 93] 5)) := (Below.refl _ _).alloc (Nat.le_refl _) _
 refine steps_value (d := 32) ho rfl (by rw [hb.size]; decide) hw (v := .slice (some ⟨w.heap.size, 0, none⟩) 1 1) (w' := w.alloc (.cells #[.int .u8 93] 5)) ?_ ⟨_, rfl⟩ ?_
 ·generalize c.eval = ρ at *
  clear hA hb hW hw ho hS hcl hli htd
  go_simp
 ·have hne : some w.heap.size ≠ Value.ownBlock (if l 4 then val RT9 c 4 else if l 2 then val RT9 c 2 else v) := fun e => by
   have := (htd.own.lt _ e.symm).2
   omega
  refine ⟨fun _ => ?_, fun h1 h2 => ?_, fun _ _ => ⟨w.heap.size, by rw [upd_same], cell_new _ _ _ 0 _ rfl, ?_⟩, fun h => ?_, fun h => ?_⟩
  ·rw [upd_other _ _ (show (4 : Nat) ≠ 5 by decide), upd_other _ _ (show (2 : Nat) ≠ 5 by decide), upd_other _ _ (show (4 : Nat) ≠ 5 by decide), upd_other _ _ (show (2 : Nat) ≠ 5 by decide)]
   exact htd.upto hba
  ·rw [upd_other _ _ (by decide)] at h1 h2
   obtain ⟨t, h3, h4⟩ := hS.opened h1 h2
   rw [upd_other _ _ (by decide)]
   exact ⟨t, h3, (hba.cell (p := ⟨t, 0, none⟩) (lt_of_cell h4)).trans h4⟩
  ·rw [upd_other _ _ (show (4 : Nat) ≠ 5 by decide), upd_other _ _ (show (2 : Nat) ≠ 5 by decide), upd_other _ _ (show (4 : Nat) ≠ 5 by decide), upd_other _ _ (show (2 : Nat) ≠ 5 by decide)]
   exact hne
  ·rw [upd_other _ _ (by decide), n6] at h; cases h
  ·rw [upd_other _ _ (by decide)] at h
   have := hcl 7 h 6 (by decide)
   rw [n6] at this; cases this
set_option maxRecDepth 10000 in
theorem oT9_6 : stepT9 q base n v xs p0 p1 p2 p3 pa pn pc pb pm pd A w0 Q 6 := by
 intro l c w hb hW hli hcl hA hS
 have ho : RT9[6]? = some (⟨some 33, .call { callee := .builtin .append, args := #[.tmp 31, .tmp 32], argTypes := #[67, 67] }, 67, "text.go:48", #[⟨4, .data⟩, ⟨5, .data⟩, ⟨4, .chain⟩], none⟩ : Oper) := by kernel_rfl
 have e31 : c.eval (.tmp 31) = val RT9 c 4 := (val_eq (show slotOf RT9 4 = some 31 by kernel_rfl)).symm
 have e32 : c.eval (.tmp 32) = val RT9 c 5 := (val_eq (show slotOf RT9 5 = some 32 by kernel_rfl)).symm
 have hw := wnT9 (c := c) ho rfl
 have ec : ∀ v, c.eval (.const v) = v := fun _ => rfl
 have ef : ∀ f, c.eval (.func f) = .func (.func f) #[] #[] := fun _ => rfl
 have h4 : l 4 = true := (hA 4 (by decide)).1
 have h2 : l 2 = true := (hA 2 (by decide)).1
 have htd := hS.told hli
 rw [h4] at htd
 simp only [if_true] at htd
 obtain ⟨t, ht, hcell, hne⟩ := hS.closed (hA 5 (by decide)).1 hli
 obtain ⟨i0, hi, hz0, hz1, hz2⟩ := info_parts Tryz.info5
 have hle := htd.grown.size
 have hlen : ([91] ++ A).length = A.length + 1 := by simp
 refine steps_law (d := 33) ho rfl (by rw [hb.size]; decide) fun K hK => ?_
 refine step_append_lies w rfl (.tmp 31) (.tmp 32) 67 rfl base 5 i0 (.int .u8 0) 1 1 Tryz.underlying67 hi hz0 hz1 hz2 rfl (by decide) _ (n + ([91] ++ A).length) _ e31 htd.own ⟨t, 0, none⟩ 1 1 [.int .u8 93] (e32.trans ht) rfl ?_ ?_ (by decide) (by have := hW.few; rw [hlen]; unfold maxLen; omega) (by have := hW.few; rw [hlen]; omega) (Nat.le_trans hW.low hle) w.heap.size rfl ?_
 ·intro j u hj
  match j, hj with
  | 0, hj =>
   simp only [List.getElem?_cons_zero, Option.some.injEq] at hj
   subst hj
   rw [Lib.add_plain]; exact hcell
 ·intro u hu
  simp only [List.mem_cons, List.not_mem_nil, or_false] at hu
  subst hu; rfl
 ·intro g cap w' g1 g2 g3 g4
  have hnew : Told base (n + ([91] ++ A).length) (xs ++ byteCells ([91] ++ A)) (val RT9 c 4) w [93] (.slice (some ⟨g, 0, none⟩) (n + ([91] ++ A).length + 1) cap) w' := ⟨g1, g2, g3.elim (fun e => .inl e.symm) fun e => .inr ⟨g, rfl, by omega⟩⟩
  refine hK _ _ trivial ⟨fun h => ?_, fun _ h => ?_, fun _ h => ?_, fun _ => ?_, fun h => ?_⟩
  ·rw [upd_same] at h; cases h
  ·rw [upd_other _ _ (by decide), h2] at h; cases h
  ·rw [upd_same] at h; cases h
  ·rw [upd_same]
   exact htd.trans hnew
  ·rw [upd_other _ _ (by decide)] at h
   have := hcl 7 h 6 (by decide)
   rw [hli] at this; cases this
set_option maxRecDepth 10000 in
theorem oT9_7 : stepT9 q base n v xs p0 p1 p2 p3 pa pn pc pb pm pd A w0 Q 7 := by
 intro l c w hb hW hli hcl hA hS
 have ho : RT9[7]? = some (⟨some 4, .assign (.tmp 33), 67, "text.go:48", #[⟨6, .data⟩, ⟨6, .chain⟩, ⟨0, .phase⟩, ⟨1, .phase⟩, ⟨2, .phase⟩, ⟨3, .phase⟩, ⟨4, .phase⟩, ⟨5, .phase⟩, ⟨6, .phase⟩], none⟩ : Oper) := by kernel_rfl
 have e33 : c.eval (.tmp 33) = val RT9 c 6 := (val_eq (show slotOf RT9 6 = some 33 by kernel_rfl)).symm
 have hw := wnT9 (c := c) ho rfl
 have ec : ∀ v, c.eval (.const v) = v := fun _ => rfl
 have ef : ∀ f, c.eval (.func f) = .func (.func f) #[] #[] := fun _ => rfl
 have h6 : l 6 = true := (hA 6 (by decide)).1
 have h2 : l 2 = true := (hA 2 (by decide)).1
 refine steps_value (d := 4) ho rfl (by rw [hb.size]; decide) hw (v := val RT9 c 6) (w' := w) ?_ trivial ⟨fun h => ?_, fun _ h => ?_, fun _ h => ?_, fun _ => ?_, fun _ => ?_⟩
 ·generalize val RT9 c 6 = z at *
  generalize c.eval = ρ at *
  clear hA hb hW hw ho hS hcl hli
  go_simp
 ·rw [upd_other _ _ (by decide), h6] at h; cases h
 ·rw [upd_other _ _ (by decide), h2] at h; cases h
 ·rw [upd_other _ _ (by decide), h6] at h; cases h
 ·rw [upd_other _ _ (by decide)]; exact hS.done h6
 ·rw [upd_same, upd_other _ _ (by decide)]
end
set_option maxRecDepth 100000 in
theorem allT9 (q base n : Nat) (v : Value) (xs : List Value) (p0 : Int) (p1 : Bool) (p2 : Int) (p3 : ByteArray) (pa : Option Addr) (pn pc : Nat) (pb : Option Addr) (pm pd : Nat) (A : List UInt8) (w0 : World) (Q : Exit → Act → World → Prop) (hW : WT9 q base n v xs p0 p1 p2 p3 pa pn pc pb pm pd A w0) : ∀ i, i < 8 → (fun i => ∀ l c w, BT9 q base n v xs p0 p1 p2 p3 pa pn pc pb pm pd A w0 c → l i = false → (∀ k, l k = true → ∀ j ∈ ancT9 k, l j = true) → (∀ j ∈ ancT9 i, l j = true ∧ gT9 v p0 p1 p2 p3 pa pn pc pb pm pd j (val RT9 c j)) → ST9 q base n v xs p0 p1 p2 p3 pa pn pc pb pm pd A w0 l (val RT9 c) w → Steps' Tryz.prog RT9 Q (gT9 v p0 p1 p2 p3 pa pn pc pb pm pd) (ST9 q base n v xs p0 p1 p2 p3 pa pn pc pb pm pd A w0) i l c w) i := by
 refine below_succ ?_ (fun l c w hb => oT9_7 q base n v xs p0 p1 p2 p3 pa pn pc pb pm pd A w0 Q l c w hb hW)
 refine below_succ ?_ (fun l c w hb => oT9_6 q base n v xs p0 p1 p2 p3 pa pn pc pb pm pd A w0 Q l c w hb hW)
 refine below_succ ?_ (fun l c w hb => oT9_5 q base n v xs p0 p1 p2 p3 pa pn pc pb pm pd A w0 Q l c w hb hW)
 refine below_succ ?_ (fun l c w hb => oT9_4 q base n v xs p0 p1 p2 p3 pa pn pc pb pm pd A w0 Q l c w hb hW)
 refine below_succ ?_ (fun l c w hb => oT9_3 q base n v xs p0 p1 p2 p3 pa pn pc pb pm pd A w0 Q l c w hb hW)
 refine below_succ ?_ (fun l c w hb => oT9_2 q base n v xs p0 p1 p2 p3 pa pn pc pb pm pd A w0 Q l c w hb hW)
 refine below_succ ?_ (fun l c w hb => oT9_1 q base n v xs p0 p1 p2 p3 pa pn pc pb pm pd A w0 Q l c w hb hW)
 refine below_succ ?_ (fun l c w hb => oT9_0 q base n v xs p0 p1 p2 p3 pa pn pc pb pm pd A w0 Q l c w hb hW)
 exact below_zero
theorem regionT9 (q base n : Nat) (v : Value) (xs : List Value) (p0 : Int) (p1 : Bool) (p2 : Int) (p3 : ByteArray) (pa : Option Addr) (pn pc : Nat) (pb : Option Addr) (pm pd : Nat) (A : List UInt8) (w0 : World) (Q : Exit → Act → World → Prop) (frame : Act) (hb : BT9 q base n v xs p0 p1 p2 p3 pa pn pc pb pm pd A w0 frame) (hW : WT9 q base n v xs p0 p1 p2 p3 pa pn pc pb pm pd A w0)
  (hQ : ∀ c v' W, Same RT9 frame c → c.eval (.tmp 4) = v' → Told base n xs v w0 ([91] ++ A ++ [93]) v' W → Q .normal c W) :
  (Code.region 9 RT9 true).wp Tryz.prog Q frame w0 := by
 refine writes_rule (A := ancT9) (G := gT9 v p0 p1 p2 p3 pa pn pc pb pm pd) (S := ST9 q base n v xs p0 p1 p2 p3 pa pn pc pb pm pd A w0) (by kernel_rfl) (by rw [hb.size]; kernel_rfl) ?_ ?_ ?_
 ·exact ⟨fun _ => (told_nil hW.own).upto (Below.refl _ _).drew, (fun h => by cases h), (fun h => by cases h), (fun h => by cases h), (fun h => by cases h)⟩
 ·intro i hi l c w hS hli hcl hA hst
  exact allT9 q base n v xs p0 p1 p2 p3 pa pn pc pb pm pd A w0 Q hW i (by rwa [show RT9.size = 8 by kernel_rfl] at hi) l c w ⟨(same_eval hS (by kernel_rfl)).trans hb.t0, (same_eval hS (by kernel_rfl)).trans hb.t3, hS.2.1.trans hb.size⟩ hli hcl hA hst
 ·intro l c w hS hall hst
  have hsz : RT9.size = 8 := by kernel_rfl
  have h7 := hst.last (hall 7 (by rw [hsz]; omega)).1
  have h6 := hst.done (hall 6 (by rw [hsz]; omega)).1
  have e7 : c.eval (.tmp 4) = val RT9 c 7 := (val_eq (show slotOf RT9 7 = some 4 by kernel_rfl)).symm
  exact hQ c _ w hS (e7.trans h7) h6
end Go.Proofs.YtbpmhgcjefpigaaGreatDoor

