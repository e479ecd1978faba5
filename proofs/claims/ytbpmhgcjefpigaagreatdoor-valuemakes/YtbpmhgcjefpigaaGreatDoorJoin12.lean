/- What is told byte by byte: letters, bare keys, rows of bytes that grow. Name, at keys in which the sign itself does not stand. Rows of bytes that grow: what is said of them, and the smallest that make them grow. -/
import Derived.Test.YtbpmhgcjefpigaaGreatDoorJoin11
import Derived.Lib.AppendStr
import Derived.Lib.BufferKept
import Derived.Test.YtbpmhgcjefpigaaGreatDoorJoin7
namespace Go.Proofs.YtbpmhgcjefpigaaGreatDoor
open Go.RowKit Go.Shelf
set_option linter.unusedVariables false
def letterB (m : Nat) : Bool := m == 95 || (decide (65 ≤ m) && decide (m ≤ 90)) || (decide (97 ≤ m) && decide (m ≤ 122))
theorem letter_any (m : Nat) (w : World) : Calls Tryz.prog 106 #[.int .u8 (m : Int)] w fun e w' => e = .returned (.bool (letterB m)) ∧ w' = w := by
  go_enter Tryz.func106, Tryz.ntmps106
  by_cases h1 : m = 95
  · subst h1
    go_wp2_with fail
    go_ret
    exact ⟨rfl, rfl⟩
  have a1 : ¬ (m : Int) = 95 := by omega
  by_cases h2 : 65 ≤ m
  · have a2 : (65 : Int) ≤ m := by omega
    by_cases h3 : m ≤ 90
    · have a3 : (m : Int) ≤ 90 := by omega
      go_wp2_with fail
      go_ret
      exact ⟨by simp [letterB, h2, h3], rfl⟩
    · have a3 : ¬ (m : Int) ≤ 90 := by omega
      by_cases h4 : 97 ≤ m
      · have a4 : (97 : Int) ≤ m := by omega
        go_wp2_with fail
        go_ret
        refine ⟨congrArg (fun b => Ending.returned (.bool b)) (?_ : ((m : Int) == 95 || decide ((m : Int) ≤ 122)) = letterB m), rfl⟩
        rw [Bool.eq_iff_iff]
        simp [letterB]
        omega
      · have a4 : ¬ (97 : Int) ≤ m := by omega
        go_wp2_with fail
        go_ret
        refine ⟨congrArg (fun b => Ending.returned (.bool b)) (?_ : ((m : Int) == 95) = letterB m), rfl⟩
        rw [Bool.eq_iff_iff]
        simp [letterB]
        omega
  · have a2 : ¬ (65 : Int) ≤ m := by omega
    have a4 : ¬ (97 : Int) ≤ m := by omega
    go_wp2_with fail
    go_ret
    refine ⟨congrArg (fun b => Ending.returned (.bool b)) (?_ : ((m : Int) == 95) = letterB m), rfl⟩
    rw [Bool.eq_iff_iff]
    simp [letterB]
    omega
/-- May the byte at place j stand in a key that bears no signs? -/
def bareAt (s : ByteArray) (j : Nat) : Bool := letterB (s.get! j).toNat || (decide (0 < j) && (decide (48 ≤ (s.get! j).toNat) && decide ((s.get! j).toNat ≤ 57)))
def bareB (s : ByteArray) : Bool := (List.range s.size).all (bareAt s) && decide (0 < s.size)
theorem bare_step {s : ByteArray} {j : Nat} (h : (List.range j).all (bareAt s) = true) (h' : bareAt s j = true) : (List.range (j + 1)).all (bareAt s) = true := by
  rw [List.range_succ, List.all_append, h]; simp [h']
theorem bare_not {s : ByteArray} {j : Nat} (hj : j < s.size) (h' : bareAt s j = false) : bareB s = false := by
  unfold bareB
  rw [Bool.and_eq_false_iff]
  left
  rw [List.all_eq_false]
  exact ⟨j, List.mem_range.2 hj, by simp [h']⟩
set_option maxHeartbeats 1000000 in
theorem bare_any (s : ByteArray) (hs : s.size ≤ maxLen) (w : World) : Calls Tryz.prog 83 #[.string s] w fun e w' => e = .returned (.bool (bareB s)) ∧ w' = w := by
  unfold maxLen at hs
  go_enter Tryz.func83, Tryz.ntmps83
  go_wp2_with fail
  go_loopw [6] (fun i wr => ∃ j : Nat, j ≤ s.size ∧ i = .int .i64 j ∧ wr = w ∧ (List.range j).all (bareAt s) = true) (fun i _ => s.size - (intOf i).toNat)
  case atStart => exact ⟨0, Nat.zero_le _, rfl, rfl, rfl⟩
  case round =>
    obtain ⟨j, hj, rfl, rfl, hno⟩ := hrel
    have HNO := hidE hno
    clear hno
    by_cases hlt : j < s.size
    · have hb : s[j] = s.get! j := by simp [ByteArray.get!, ByteArray.getElem_eq_getElem_data, hlt]
      have HAT : Hid (∀ m, (s.get! j).toNat = m → bareAt s j = (letterB m || (decide (0 < j) && (decide (48 ≤ m) && decide (m ≤ 57))))) := fun m h => by subst h; rfl
      go_wp2_with fail
      refine (letter_any _ wr).mono ?_
      rintro e _ ⟨rfl, rfl⟩
      obtain ⟨m, hm⟩ : ∃ m, (s.get! j).toNat = m := ⟨_, rfl⟩
      have HA := hidE (HAT.out m hm)
      rw [hm]
      have hbm : (s[j]).toNat = m := by rw [hb]; exact hm
      clear HAT
      cases hl : letterB m with
      | true =>
        have HL := hidE hl
        clear hl
        go_wp2_with fail
        go_roundw
        case rel =>
          refine ⟨j + 1, by omega, by go_num, trivial, bare_step HNO.out ?_⟩
          rw [HA.out, HL.out]; rfl
        case measure => simp [intOf]; omega
      | false =>
        have HL := hidE hl
        clear hl
        by_cases h0 : j = 0
        · have HR : Hid (bareB s = false) := bare_not hlt (by rw [HA.out, HL.out, h0]; rfl)
          have h0' : ((j : Int) == 0) = true := by simp [h0]
          go_wp2_with fail
          go_ret
          exact ⟨by rw [HR.out]; rfl, rfl⟩
        · have h0' : ((j : Int) == 0) = false := by simp [h0]
          by_cases h1 : m < 48
          · have h1' : (m : Int) < 48 := by omega
            have HR : Hid (bareB s = false) := bare_not hlt (by rw [HA.out, HL.out]; simp; omega)
            go_wp2_with fail
            go_ret
            exact ⟨by rw [HR.out]; rfl, rfl⟩
          · have h1' : ¬ (m : Int) < 48 := by omega
            by_cases h2 : 57 < m
            · have h2' : (57 : Int) < m := by omega
              have HR : Hid (bareB s = false) := bare_not hlt (by rw [HA.out, HL.out]; simp; omega)
              go_wp2_with fail
              go_ret
              exact ⟨by rw [HR.out]; rfl, rfl⟩
            · have h2' : ¬ (57 : Int) < m := by omega
              go_wp2_with fail
              go_roundw
              case rel =>
                refine ⟨j + 1, by omega, by go_num, trivial, bare_step HNO.out ?_⟩
                rw [HA.out, HL.out]
                simp
                omega
              case measure => simp [intOf]; omega
    · have hjs : j = s.size := by omega
      go_wp2_with fail
      go_ret
      refine ⟨congrArg (fun b => Ending.returned (.bool b)) (?_ : (!s.toList.isEmpty) = bareB s), rfl⟩
      have hn := HNO.out
      rw [hjs] at hn
      unfold bareB
      rw [hn, ByteArray.toList_eq, Bool.true_and, Bool.eq_iff_iff]
      have hz : s.size = s.data.toList.length := rfl
      rw [hz]
      cases s.data.toList <;> simp
end Go.Proofs.YtbpmhgcjefpigaaGreatDoor

namespace Go.Proofs.YtbpmhgcjefpigaaGreatDoor
open Go.RowKit Go.Shelf
set_option linter.unusedVariables false
theorem replace_in (s : ByteArray) (h : Lib.countByte s.data.toList 96 = 0) (w : World) :
    Calls Tryz.prog 107 #[.string s, .string ⟨#[96]⟩, .string ⟨#[96, 96]⟩, .int .i64 (-1)] w fun e w' => e = .returned (.string s) ∧ w' = w := by
  have HC := hidE (Tryz.strings_Count_one s 96 w)
  rw [h] at HC
  have hne : ((⟨#[96]⟩ : ByteArray).toList == (⟨#[96, 96]⟩ : ByteArray).toList) = false := by rw [ByteArray.toList_eq, ByteArray.toList_eq]; decide
  go_enter Tryz.func107, Tryz.ntmps107
  go_wp2_with fail
  refine HC.out.mono ?_
  rintro e _ ⟨rfl, rfl⟩
  go_wp2_with fail
  go_ret
  exact ⟨rfl, rfl⟩
theorem replace_all (s : ByteArray) (h : Lib.countByte s.data.toList 96 = 0) (w : World) :
    Calls Tryz.prog 84 #[.string s, .string ⟨#[96]⟩, .string ⟨#[96, 96]⟩] w fun e w' => e = .returned (.string s) ∧ w' = w := by
  have HC := hidE (replace_in s h w)
  go_enter Tryz.func84, Tryz.ntmps84
  go_wp2_with fail
  refine HC.out.mono ?_
  rintro e _ ⟨rfl, rfl⟩
  go_wp2_with fail
  go_ret
  exact ⟨rfl, rfl⟩
/-- A key as it is told. -/
def nameB (s : ByteArray) : ByteArray := if bareB s then s else ⟨#[96]⟩ ++ s ++ ⟨#[96]⟩
theorem name_any (s : ByteArray) (hs : s.size ≤ 4611686018427387904) (hv : Lib.validD s.data.toList = true) (h : Lib.countByte s.data.toList 96 = 0) (w : World) (hT : Tabs w) :
    Calls Tryz.prog 45 #[.string s] w fun e w' => e = .returned (.string (nameB s)) ∧ Below w.heap.size w w' := by
  have hs' : s.size ≤ maxLen := by unfold maxLen; omega
  have z1 : ¬ 9223372036854775807 < 1 + s.size := by omega
  have z2 : ¬ 9223372036854775807 < 1 + s.size + 1 := by omega
  have HV := hidE (valid_any s w hs' hT)
  rw [hv] at HV
  go_enter Tryz.func45, Tryz.ntmps45
  go_wp2_with fail
  refine HV.out.mono ?_
  rintro e w1 ⟨rfl, hb⟩
  have HB := hidE hb
  have HC := hidE (bare_any s hs' w1)
  have HR := hidE (replace_all s h w1)
  clear hb hT hs hs' h HV
  go_wp2_with fail
  refine HC.out.mono ?_
  rintro e _ ⟨rfl, rfl⟩
  cases hb : bareB s with
  | true =>
    have HN : Hid (nameB s = s) := by show _ = _; unfold nameB; rw [if_pos hb]
    clear hb
    go_wp2_with fail
    go_ret
    exact ⟨by rw [HN.out]; rfl, HB.out⟩
  | false =>
    have HN : Hid (nameB s = ⟨#[96]⟩ ++ s ++ ⟨#[96]⟩) := by show _ = _; unfold nameB; rw [if_neg (by simp [hb])]
    clear hb
    go_wp2_with fail
    refine HR.out.mono ?_
    rintro e _ ⟨rfl, rfl⟩
    go_wp2_with fail
    go_ret
    exact ⟨by rw [HN.out]; rfl, HB.out⟩
end Go.Proofs.YtbpmhgcjefpigaaGreatDoor

namespace Go.Proofs.YtbpmhgcjefpigaaGreatDoor
open Go.RowKit Go.Shelf Go.Lib
set_option linter.unusedVariables false
theorem Tryz.info5 : (Tryz.prog.info? 5).map (fun i => (i.zero, i.size, i.bytes)) = some (some (.int .u8 0), 1, 1) := by kernel_rfl
theorem kept_of_grown {base n : Nat} {v : Value} {xs : List Value} {w w' : World} (hown : w.ownsRow base 5 1 v n xs) (hg : w.grownBy w' v.ownBlock) : OthersKept 5 none w w' := fun k o hk _ hne => by
  have hk' : k < w.heap.size := (Array.getElem?_eq_some_iff.1 hk).1
  by_cases e : some k = v.ownBlock
  · obtain ⟨_, ⟨h1, _⟩ | ⟨g, cap, cur, h1, _, h2, _⟩⟩ := hown
    · rw [h1] at e; cases e
    · rw [h1] at e
      have : k = g := by simpa [Value.ownBlock] using e
      rw [this, h2] at hk
      exact absurd (Option.some.inj hk).symm (hne _ _)
  · exact (hg.block k hk' e).trans hk
theorem below_of_grown {base n : Nat} {v : Value} {xs : List Value} {w w' : World} (hown : w.ownsRow base 5 1 v n xs) (hB : base ≤ w.heap.size) (hg : w.grownBy w' v.ownBlock) : Below base w w' :=
  (Below.refl base w).grown hg hB fun q h => (hown.lt q h).1
/-- The row holds some bytes more; all else is as it was. -/
structure Told (base n : Nat) (xs : List Value) (v : Value) (w : World) (bs : List UInt8) (v' : Value) (w' : World) : Prop where
  own : w'.ownsRow base 5 1 v' (n + bs.length) (xs ++ byteCells bs)
  grown : w.grownBy w' v.ownBlock
  place : v'.ownBlock = v.ownBlock ∨ ∃ g, v'.ownBlock = some g ∧ w.heap.size ≤ g
theorem told_nil {base n : Nat} {v : Value} {xs : List Value} {w : World} (hown : w.ownsRow base 5 1 v n xs) : Told base n xs v w [] v w :=
  ⟨by simpa [byteCells] using hown, ⟨rfl, rfl, rfl, Nat.le_refl _, fun _ _ _ => rfl⟩, .inl rfl⟩
theorem Told.trans {base n : Nat} {xs : List Value} {w w1 w2 : World} {bs cs : List UInt8} {v v1 v2 : Value} (h : Told base n xs v w bs v1 w1) (h' : Told base (n + bs.length) (xs ++ byteCells bs) v1 w1 cs v2 w2) : Told base n xs v w (bs ++ cs) v2 w2 := by
  have hle := h.grown.size
  refine ⟨by have := h'.own; rw [List.append_assoc, Nat.add_assoc] at this; simpa [byteCells] using this, ⟨h'.grown.os.trans h.grown.os, h'.grown.tape.trans h.grown.tape, h'.grown.output.trans h.grown.output, Nat.le_trans hle h'.grown.size, fun k hk hne => ?_⟩, ?_⟩
  · refine (h'.grown.block k (Nat.lt_of_lt_of_le hk hle) fun e => ?_).trans (h.grown.block k hk hne)
    rcases h.place with g | ⟨g, e1, e2⟩
    · exact hne (e.trans g)
    · rw [e1] at e
      have : k = g := by simpa using e
      omega
  · rcases h'.place with g | ⟨g, e1, e2⟩
    · rw [g]; exact h.place
    · exact .inr ⟨g, e1, by omega⟩
theorem Told.below {base n : Nat} {xs : List Value} {w w1 : World} {bs : List UInt8} {v v1 : Value} (h : Told base n xs v w bs v1 w1) (hown : w.ownsRow base 5 1 v n xs) (hB : base ≤ w.heap.size) : Below base w w1 := below_of_grown hown hB h.grown
theorem Told.kept {base n : Nat} {xs : List Value} {w w1 : World} {bs : List UInt8} {v v1 : Value} (h : Told base n xs v w bs v1 w1) (hown : w.ownsRow base 5 1 v n xs) : OthersKept 5 none w w1 := kept_of_grown hown h.grown
/-- Blocks that were made ahead change nothing. -/
theorem own_below {base n : Nat} {xs : List Value} {v : Value} {w w1 : World} (hown : w.ownsRow base 5 1 v n xs) (hb : Below w.heap.size w w1) : w1.ownsRow base 5 1 v n xs := by
  obtain ⟨g1, ⟨g2, g3⟩ | ⟨g, cap, cur, g2, g3, g4, g5⟩⟩ := hown
  · exact ⟨g1, .inl ⟨g2, g3⟩⟩
  · exact ⟨g1, .inr ⟨g, cap, cur, g2, g3, (hb.block g (Array.getElem?_eq_some_iff.1 g4).1).trans g4, g5⟩⟩
theorem Told.from {base n : Nat} {xs : List Value} {w w1 w2 : World} {bs : List UInt8} {v v1 : Value} (hb : Below w.heap.size w w1) (h : Told base n xs v w1 bs v1 w2) : Told base n xs v w bs v1 w2 :=
  ⟨h.own, ⟨h.grown.os.trans hb.os, h.grown.tape.trans hb.tape, h.grown.output.trans hb.output, Nat.le_trans hb.size h.grown.size, fun k hk hne => (h.grown.block k (Nat.lt_of_lt_of_le hk hb.size) hne).trans (hb.block k hk)⟩,
    h.place.imp id fun ⟨g, e1, e2⟩ => ⟨g, e1, Nat.le_trans hb.size e2⟩⟩
theorem Told.upto {base n : Nat} {xs : List Value} {w w1 w2 : World} {bs : List UInt8} {v v1 : Value} (h : Told base n xs v w bs v1 w1) (hb : Below w1.heap.size w1 w2) : Told base n xs v w bs v1 w2 :=
  ⟨own_below h.own hb, ⟨hb.os.trans h.grown.os, hb.tape.trans h.grown.tape, hb.output.trans h.grown.output, Nat.le_trans h.grown.size hb.size, fun k hk hne => (hb.block k (Nat.lt_of_lt_of_le hk h.grown.size)).trans (h.grown.block k hk hne)⟩, h.place⟩
/-- Where a row lies to which a text was put. -/
theorem append_place {ty : TypeId} {base n : Nat} {v v' : Value} {xs : List Value} {w w' : World} {s : ByteArray} (hown : w.ownsRow base 5 1 v n xs) (h0 : 0 < s.size) (hn : n + s.size ≤ 100000000000000)
    (hrun : (Builtin.append_ #[67, 9] ty #[v, .string s]).run Tryz.prog w = .ok v' w') : v'.ownBlock = v.ownBlock ∨ ∃ g, v'.ownBlock = some g ∧ w.heap.size ≤ g := by
  obtain ⟨i0, hi, hz0, hz1, hz2⟩ := info_parts Tryz.info5
  have hxl : xs.length = n := by simpa using hown.1
  rcases hown.2 with ⟨rfl, rfl⟩ | ⟨g, cap, cur, rfl, hbg, hg, hnc, hcm, hcs, htake⟩
  · rw [run_append_nil_string (P := Tryz.prog) w 67 9 ty 5 i0 (.int .u8 0) Tryz.underlying67 Tryz.underlying9 hi hz0 s h0 (by omega) (by rw [hz2]; omega)] at hrun
    cases hrun
    exact .inr ⟨_, rfl, Nat.le_refl _⟩
  · by_cases hroom : n + s.size ≤ cap
    · rw [run_append_room_string (P := Tryz.prog) w 67 9 ty 5 i0 Tryz.underlying67 Tryz.underlying9 hi hz1 g n cap cur hg s hroom (by omega)] at hrun
      cases hrun
      exact .inl rfl
    · rw [run_append_grow_string (P := Tryz.prog) w 67 9 ty 5 i0 (.int .u8 0) Tryz.underlying67 Tryz.underlying9 hi hz0 ⟨g, 0, none⟩ n cap xs (by rw [hz1]; simpa using hxl) (hown.cells (g := g) rfl) s (by omega) (by omega) (by rw [hz2]; exact growslice_fits (by omega) (by omega))] at hrun
      cases hrun
      exact .inr ⟨_, rfl, Nat.le_refl _⟩
/-- 'append(row, text...)' in the walk. -/
theorem append_text {ops : Array Oper} {rest : List Oper} {o : Oper} {a : Act} {Q : Exit → Act → World → Prop} (w : World) (hgd : o.guard = none) (sl x : Operand)
    (ho : o.op = .call { callee := .builtin .append, args := #[sl, x], argTypes := #[67, 9] }) (base n : Nat) (v : Value) (xs : List Value) (hs : a.eval sl = v) (hown : w.ownsRow base 5 1 v n xs) (s : ByteArray) (hx : a.eval x = .string s)
    (h0 : 0 < s.size) (hn : n + s.size ≤ 100000000000000) (hB : base ≤ w.heap.size)
    (h : ∀ v' w', Told base n xs v w s.data.toList v' w' → wpList Tryz.prog ops Q rest (a.put o.dst v') w') : wpList Tryz.prog ops Q (o :: rest) a w := by
  refine wpList_plain hgd fun K hK => ?_
  obtain ⟨i0, hi, hz0, hz1, hz2⟩ := info_parts Tryz.info5
  obtain ⟨v', w', hr, h2, h3, h4⟩ := run_append_own_string (P := Tryz.prog) w base 67 9 o.type 5 i0 Tryz.underlying67 Tryz.underlying9 hi hz0 hz1 hz2 v n xs hown s (by unfold maxLen; omega) (by omega) hB
  unfold Oper.wp execOp
  simp only [ho, resolve, invoke, builtin, Sem.run_bind, Sem.run_pure, Result.andThen_ok, List.map_toArray, List.map_cons, List.map_nil, hs, hx, hr]
  exact hK _ _ (h v' w' ⟨h2, h3, append_place hown h0 hn hr⟩)
def boolBytes (b : Bool) : List UInt8 := if b then [116, 114, 117, 101] else [102, 97, 108, 115, 101]
set_option maxRecDepth 100000 in
theorem appendBool_in (b : Bool) (base n : Nat) (v : Value) (xs : List Value) (w : World) (hown : w.ownsRow base 5 1 v n xs) (hB : base ≤ w.heap.size) (hn : n ≤ 1000000000000) :
    Calls Tryz.prog 116 #[v, .bool b] w fun e w' => ∃ v', e = .returned v' ∧ Told base n xs v w (boolBytes b) v' w' := by
  go_enter Tryz.func116, Tryz.ntmps116
  cases b with
  | true =>
    go_wp2_with (at_builtin; refine append_text w rfl _ _ rfl base n v xs rfl hown ⟨#[116, 114, 117, 101]⟩ rfl (by decide) (by show n + 4 ≤ _; omega) hB ?_; intro v' w' g1)
    have HT : Hid (Told base n xs v w (boolBytes true) v' w') := g1
    go_ret
    exact ⟨_, rfl, HT.out⟩
  | false =>
    go_wp2_with (at_builtin; refine append_text w rfl _ _ rfl base n v xs rfl hown ⟨#[102, 97, 108, 115, 101]⟩ rfl (by decide) (by show n + 5 ≤ _; omega) hB ?_; intro v' w' g1)
    have HT : Hid (Told base n xs v w (boolBytes false) v' w') := g1
    go_ret
    exact ⟨_, rfl, HT.out⟩
theorem appendBool_any (b : Bool) (base n : Nat) (v : Value) (xs : List Value) (w : World) (hown : w.ownsRow base 5 1 v n xs) (hB : base ≤ w.heap.size) (hn : n ≤ 1000000000000) :
    Calls Tryz.prog 98 #[v, .bool b] w fun e w' => ∃ v', e = .returned v' ∧ Told base n xs v w (boolBytes b) v' w' := by
  have HC := hidE (appendBool_in b base n v xs w hown hB hn)
  clear hown
  go_enter Tryz.func98, Tryz.ntmps98
  go_wp2_with fail
  refine HC.out.mono ?_
  rintro e w' ⟨v', rfl, ht⟩
  have HT := hidE ht
  clear ht HC
  go_wp2_with fail
  go_ret
  exact ⟨_, rfl, HT.out⟩
end Go.Proofs.YtbpmhgcjefpigaaGreatDoor

