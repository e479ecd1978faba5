/- A builder of texts: what is written to it. Keys as layer 1 tells them. Counts as a text. A line of words, written to a builder. The program's Text. -/
import Derived.Test.YthfilnflgahcjaaGreatDoorShelf4
import Derived.Test.YthfilnflgahcjaaGreatDoorJoin2
import Derived.Test.YthfilnflgahcjaaGreatDoorJoin4
import Derived.Test.YthfilnflgahcjaaGreatDoorJoin15
import Derived.Test.YthfilnflgahcjaaGreatDoorJoin8
import Derived.Lib.AppendIntMem
import Derived.Lib.SplitLaws
import Derived.Test.YthfilnflgahcjaaGreatDoorJoin1
import Derived.Lib.ValidLaws
import Derived.Lib.ItoaLen
import Derived.Lib.Join
import Derived.Test.YthfilnflgahcjaaGreatDoorJoin3
namespace Go.Proofs.YthfilnflgahcjaaGreatDoor
open Go.RowKit Go.Shelf
set_option linter.unusedVariables false
set_option linter.unusedSimpArgs false
/-- A builder that was not written to, or was. -/
abbrev BldI (B b : Nat) (l : List UInt8) (w : World) : Prop := Lib.IsBuilder 118 5 B b (Lib.byteCells l) w
/-- What the texts of the program stand on. -/
structure Env2 (w : World) : Prop where
  e : Env w
  ml : ∃ m, w.cell? ⟨2, 0, none⟩ = some (.int .i64 m)
  pow : Lib.TabIs Tryz.prog w "internal/strconv.uint64pow10" .u64 Lib.pow10Tab
theorem Env2.below {w w' : World} (h : Env2 w) (hb : Below w.heap.size w w') : Env2 w' := by
  have h3 := h.e.room
  obtain ⟨m, hm⟩ := h.ml
  exact ⟨h.e.below hb h3, ⟨m, (hb.cell (p := ⟨2, 0, none⟩) (by show 2 < w.heap.size; omega)).trans hm⟩, Lib.tabBelow_of_tabIs h.pow w' hb⟩
theorem w64_range {n : Int} (h : W64 n) : -9223372036854775808 ≤ n ∧ n ≤ 9223372036854775807 := by
  unfold W64 Lit.wf at h
  have e1 : IntKind.i64.min = -9223372036854775808 := by decide
  have e2 : IntKind.i64.max = 9223372036854775807 := by decide
  simp [e1, e2] at h
  omega
end Go.Proofs.YthfilnflgahcjaaGreatDoor

namespace Go.Proofs.YthfilnflgahcjaaGreatDoor
open Go.RowKit Go.Shelf Go.Lib
set_option linter.unusedVariables false
set_option linter.unusedSimpArgs false
def vletB (m : Nat) : Bool := m == 95 || (decide (65 ≤ m) && decide (m ≤ 90)) || (decide (97 ≤ m) && decide (m ≤ 122))
theorem vlet_any (m : Nat) (w : World) : Calls Tryz.prog 142 #[.int .u8 (m : Int)] w fun e w' => e = .returned (.bool (vletB m)) ∧ w' = w := by
  go_enter Tryz.func142, Tryz.ntmps142
  by_cases h1 : m = 95
  · subst h1
    go_wp2_with fail
    go_ret
    exact ⟨rfl, rfl⟩
  have a1 : ¬ (m : Int) = 95 := by omega
  by_cases h2 : 65 ≤ m
  · have a2 : (65 : Int) ≤ m := by omega
    by_cases h3 : m ≤ 90
    · have a3 : (m : Int) ≤ 90 := by omega
      go_wp2_with fail
      go_ret
      exact ⟨by simp [vletB, h2, h3], rfl⟩
    · have a3 : ¬ (m : Int) ≤ 90 := by omega
      by_cases h4 : 97 ≤ m
      · have a4 : (97 : Int) ≤ m := by omega
        go_wp2_with fail
        go_ret
        refine ⟨congrArg (fun b => Ending.returned (.bool b)) (?_ : ((m : Int) == 95 || decide ((m : Int) ≤ 122)) = vletB m), rfl⟩
        rw [Bool.eq_iff_iff]
        simp [vletB]
        omega
      · have a4 : ¬ (97 : Int) ≤ m := by omega
        go_wp2_with fail
        go_ret
        refine ⟨congrArg (fun b => Ending.returned (.bool b)) (?_ : ((m : Int) == 95) = vletB m), rfl⟩
        rw [Bool.eq_iff_iff]
        simp [vletB]
        omega
  · have a2 : ¬ (65 : Int) ≤ m := by omega
    have a4 : ¬ (97 : Int) ≤ m := by omega
    go_wp2_with fail
    go_ret
    refine ⟨congrArg (fun b => Ending.returned (.bool b)) (?_ : ((m : Int) == 95) = vletB m), rfl⟩
    rw [Bool.eq_iff_iff]
    simp [vletB]
    omega
/-- May the byte at place j stand in a key that bears no signs? -/
def vbareAt (s : ByteArray) (j : Nat) : Bool := vletB (s.get! j).toNat || (decide (0 < j) && (decide (48 ≤ (s.get! j).toNat) && decide ((s.get! j).toNat ≤ 57)))
def vbareB (s : ByteArray) : Bool := (List.range s.size).all (vbareAt s) && decide (0 < s.size)
theorem vbare_step {s : ByteArray} {j : Nat} (h : (List.range j).all (vbareAt s) = true) (h' : vbareAt s j = true) : (List.range (j + 1)).all (vbareAt s) = true := by
  rw [List.range_succ, List.all_append, h]; simp [h']
theorem vbare_not {s : ByteArray} {j : Nat} (hj : j < s.size) (h' : vbareAt s j = false) : vbareB s = false := by
  unfold vbareB
  rw [Bool.and_eq_false_iff]
  left
  rw [List.all_eq_false]
  exact ⟨j, List.mem_range.2 hj, by simp [h']⟩
set_option maxHeartbeats 1000000 in
theorem vbare_any (s : ByteArray) (hs : s.size ≤ maxLen) (w : World) : Calls Tryz.prog 117 #[.string s] w fun e w' => e = .returned (.bool (vbareB s)) ∧ w' = w := by
  unfold maxLen at hs
  go_enter Tryz.func117, Tryz.ntmps117
  go_wp2_with fail
  go_loopw [6] (fun i wr => ∃ j : Nat, j ≤ s.size ∧ i = .int .i64 j ∧ wr = w ∧ (List.range j).all (vbareAt s) = true) (fun i _ => s.size - (RowKit.intOf i).toNat)
  case atStart => exact ⟨0, Nat.zero_le _, rfl, rfl, rfl⟩
  case round =>
    obtain ⟨j, hj, rfl, rfl, hno⟩ := hrel
    have HNO := hidE hno
    clear hno
    by_cases hlt : j < s.size
    · have hb : s[j] = s.get! j := by simp [ByteArray.get!, ByteArray.getElem_eq_getElem_data, hlt]
      have HAT : Hid (∀ m, (s.get! j).toNat = m → vbareAt s j = (vletB m || (decide (0 < j) && (decide (48 ≤ m) && decide (m ≤ 57))))) := fun m h => by subst h; rfl
      go_wp2_with fail
      refine (vlet_any _ wr).mono ?_
      rintro e _ ⟨rfl, rfl⟩
      obtain ⟨m, hm⟩ : ∃ m, (s.get! j).toNat = m := ⟨_, rfl⟩
      have HA := hidE (HAT.out m hm)
      rw [hm]
      have hbm : (s[j]).toNat = m := by rw [hb]; exact hm
      clear HAT
      cases hl : vletB m with
      | true =>
        have HL := hidE hl
        clear hl
        go_wp2_with fail
        go_roundw
        case rel =>
          refine ⟨j + 1, by omega, by go_num, trivial, vbare_step HNO.out ?_⟩
          rw [HA.out, HL.out]; rfl
        case measure => simp [RowKit.intOf]; omega
      | false =>
        have HL := hidE hl
        clear hl
        by_cases h0 : j = 0
        · have HR : Hid (vbareB s = false) := vbare_not hlt (by rw [HA.out, HL.out, h0]; rfl)
          have h0' : ((j : Int) == 0) = true := by simp [h0]
          go_wp2_with fail
          go_ret
          exact ⟨by rw [HR.out]; rfl, rfl⟩
        · have h0' : ((j : Int) == 0) = false := by simp [h0]
          by_cases h1 : m < 48
          · have h1' : (m : Int) < 48 := by omega
            have HR : Hid (vbareB s = false) := vbare_not hlt (by rw [HA.out, HL.out]; simp; omega)
            go_wp2_with fail
            go_ret
            exact ⟨by rw [HR.out]; rfl, rfl⟩
          · have h1' : ¬ (m : Int) < 48 := by omega
            by_cases h2 : 57 < m
            · have h2' : (57 : Int) < m := by omega
              have HR : Hid (vbareB s = false) := vbare_not hlt (by rw [HA.out, HL.out]; simp; omega)
              go_wp2_with fail
              go_ret
              exact ⟨by rw [HR.out]; rfl, rfl⟩
            · have h2' : ¬ (57 : Int) < m := by omega
              go_wp2_with fail
              go_roundw
              case rel =>
                refine ⟨j + 1, by omega, by go_num, trivial, vbare_step HNO.out ?_⟩
                rw [HA.out, HL.out]
                simp
                omega
              case measure => simp [RowKit.intOf]; omega
    · have hjs : j = s.size := by omega
      go_wp2_with fail
      go_ret
      refine ⟨congrArg (fun b => Ending.returned (.bool b)) (?_ : (!s.toList.isEmpty) = vbareB s), rfl⟩
      have hn := HNO.out
      rw [hjs] at hn
      unfold vbareB
      rw [hn, ByteArray.toList_eq, Bool.true_and, Bool.eq_iff_iff]
      have hz : s.size = s.data.toList.length := rfl
      rw [hz]
      cases s.data.toList <;> simp
/-- The sign 96 twice. -/
def dblB (l : List UInt8) : List UInt8 := (l.map fun c => if c = 96 then [96, 96] else [c]).flatten
theorem dblB_cons (c : UInt8) (l : List UInt8) : dblB (c :: l) = (if c = 96 then [96, 96] else [c]) ++ dblB l := by simp [dblB]
theorem dblB_len (l : List UInt8) : (dblB l).length ≤ 2 * l.length := by
  induction l with
  | nil => simp [dblB]
  | cons c r ih =>
    rw [dblB_cons]
    simp only [List.length_append, List.length_cons]
    split <;> simp <;> omega
theorem idx_hit (l : List UInt8) : index (96 :: l) [96] = 0 := by
  rw [index, if_pos]; simp
theorem idx_pass {c : UInt8} (h : c ≠ 96) (l : List UInt8) : index (c :: l) [96] = if index l [96] == -1 then -1 else index l [96] + 1 := by
  rw [index, if_neg]
  simp
  exact fun e => h e.symm
theorem replaceK_pass {c : UInt8} (h : c ≠ 96) (l : List UInt8) : ∀ k, replaceK [96] [96, 96] k (c :: l) = c :: replaceK [96] [96, 96] k l
  | 0 => rfl
  | k + 1 => by
    rw [replaceK, replaceK, idx_pass h]
    by_cases e : index l [96] = -1
    · simp [e]
    · have hge := Lib.index_ge l [96]
      have e' : (index l [96] == -1) = false := by simpa using e
      obtain ⟨i, hi⟩ : ∃ i : Nat, index l [96] = i := ⟨(index l [96]).toNat, by omega⟩
      rw [hi] at e' ⊢
      have e2 : (((i : Int) + 1 == -1)) = false := by simp; omega
      rw [e']
      simp only [Bool.false_eq_true, if_false, e2]
      rw [show ((i : Int) + 1).toNat = i + 1 from by omega, Int.toNat_natCast]
      rfl
theorem replace_dbl : ∀ l : List UInt8, replaceK [96] [96, 96] (count l [96]) l = dblB l
  | [] => by rw [show count [] [96] = 0 from rfl]; rfl
  | c :: l => by
    by_cases h : c = 96
    · subst h
      rw [count_cons_eq, Nat.add_comm, replaceK, idx_hit, dblB_cons, if_pos rfl]
      have e : ((0 : Int) == -1) = false := rfl
      rw [e]
      simp only [Bool.false_eq_true, if_false]
      show [] ++ [96, 96] ++ replaceK [96] [96, 96] (count l [96]) l = _
      rw [replace_dbl l]; rfl
    · rw [count_cons_ne c 96 l h, replaceK_pass h, replace_dbl l, dblB_cons, if_neg h]; rfl
theorem replaceAll_dbl (l : List UInt8) : replaceAll l [96] [96, 96] = dblB l := by
  unfold replaceAll replace replaceNum
  rw [if_neg (by decide), if_pos (.inl (by decide))]
  exact replace_dbl l
/-- A key as it is told. -/
def vnameB (s : ByteArray) : ByteArray := if vbareB s then s else ⟨#[96]⟩ ++ ⟨(dblB s.data.toList).toArray⟩ ++ ⟨#[96]⟩
theorem vname_pos (s : ByteArray) : 0 < (vnameB s).size := by
  unfold vnameB
  by_cases h : vbareB s = true
  · rw [if_pos h]
    unfold vbareB at h
    simp at h
    exact h.2
  · rw [if_neg h]
    simp only [ByteArray.size_append]
    have : (⟨#[96]⟩ : ByteArray).size = 1 := rfl
    omega
theorem vname_len (s : ByteArray) : (vnameB s).size ≤ 2 * s.size + 2 := by
  unfold vnameB
  split
  · omega
  · simp only [ByteArray.size_append]
    have h1 : (⟨#[96]⟩ : ByteArray).size = 1 := rfl
    have h2 : (⟨(dblB s.data.toList).toArray⟩ : ByteArray).size = (dblB s.data.toList).length := by simp [ByteArray.size]
    have h3 := dblB_len s.data.toList
    have h4 : s.data.toList.length = s.size := rfl
    omega
set_option maxHeartbeats 1000000 in
theorem vname_any (s : ByteArray) (hs : s.size ≤ 1000000000) (hv : Lib.validD s.data.toList = true) (w : World) (hE : Env2 w) :
    Calls Tryz.prog 73 #[.string s] w fun e w' => e = .returned (.string (vnameB s)) ∧ Below w.heap.size w w' := by
  have hs' : s.size ≤ maxLen := by unfold maxLen; omega
  obtain ⟨m, hm⟩ := hE.ml
  have h2 : 2 < w.heap.size := Nat.lt_of_lt_of_le (by decide) hE.e.room
  have hcb := countB_mul_le ⟨#[96]⟩ (by decide) s.size s (Nat.le_refl _)
  have h1 : (⟨#[96]⟩ : ByteArray).size = 1 := rfl
  have h22 : (⟨#[96, 96]⟩ : ByteArray).size = 2 := rfl
  have HR : Hid (∀ w', Below w.heap.size w w' → Calls Tryz.prog 118 #[.string s, .string ⟨#[96]⟩, .string ⟨#[96, 96]⟩] w' fun e w2 => e = .returned (.string ⟨(dblB s.data.toList).toArray⟩) ∧ Below w'.heap.size w' w2) := fun w' hb => by
    have := Tryz.strings_ReplaceAll s ⟨#[96]⟩ ⟨#[96, 96]⟩ m w' (by omega) ((hb.cell (p := ⟨2, 0, none⟩) h2).trans hm) (by decide) (by rw [h22]; rw [h1] at hcb; omega)
    rw [show (⟨#[96]⟩ : ByteArray).data.toList = [96] from rfl, show (⟨#[96, 96]⟩ : ByteArray).data.toList = [96, 96] from rfl, replaceAll_dbl] at this
    exact this
  have HV := hidE (valid_any s (by omega) w hE.e)
  rw [hv] at HV
  obtain ⟨D, hD⟩ : ∃ D : ByteArray, (⟨(dblB s.data.toList).toArray⟩ : ByteArray) = D := ⟨_, rfl⟩
  have hDs : D.size ≤ 2000000000 := by
    rw [← hD]
    have a := dblB_len s.data.toList
    have b : s.data.toList.length = s.size := rfl
    have c : (⟨(dblB s.data.toList).toArray⟩ : ByteArray).size = (dblB s.data.toList).length := by simp [ByteArray.size]
    omega
  rw [hD] at HR
  have z1 : ¬ 9223372036854775807 < 1 + D.size := by omega
  have z2 : ¬ 9223372036854775807 < 1 + D.size + 1 := by omega
  have HD := hidE hD
  clear hD hcb hm hE h2 h1 h22
  go_enter Tryz.func73, Tryz.ntmps73
  go_wp2_with fail
  refine HV.out.mono ?_
  rintro e w1 ⟨rfl, hb⟩
  have HB := hidE hb
  have HC := hidE (vbare_any s hs' w1)
  clear hb hs hs' HV
  go_wp2_with fail
  refine HC.out.mono ?_
  rintro e _ ⟨rfl, rfl⟩
  cases hb : vbareB s with
  | true =>
    have HN : Hid (vnameB s = s) := by show _ = _; unfold vnameB; rw [if_pos hb]
    clear hb
    go_wp2_with fail
    go_ret
    exact ⟨by rw [HN.out]; rfl, HB.out⟩
  | false =>
    have HN : Hid (vnameB s = ⟨#[96]⟩ ++ D ++ ⟨#[96]⟩) := by show _ = _; unfold vnameB; rw [if_neg (by simp [hb]), HD.out]
    clear hb
    go_wp2_with fail
    refine (HR.out _ HB.out).mono ?_
    rintro e w3 ⟨rfl, hb3⟩
    have HB3 : Hid (Below w.heap.size w w3) := below_on HB.out hb3
    clear hb3
    go_wp2_with fail
    go_ret
    exact ⟨by rw [HN.out]; rfl, HB3.out⟩
end Go.Proofs.YthfilnflgahcjaaGreatDoor

namespace Go.Proofs.YthfilnflgahcjaaGreatDoor
open Go.RowKit Go.Shelf
set_option linter.unusedVariables false
set_option linter.unusedSimpArgs false
/-- Counts that are numbers, with short names. -/
structure StatW (s : StatP) : Prop where
  n : W64 s.nodes
  r : W64 s.rels
  l : ∀ x ∈ s.labels, x.1.size ≤ 3000 ∧ W64 x.2
  t : ∀ x ∈ s.types, x.1.size ≤ 3000 ∧ W64 x.2
  e : ∀ x ∈ s.ends, x.1.size ≤ 3000 ∧ x.2.1.size ≤ 3000 ∧ W64 x.2.2.2
  k : ∀ x ∈ s.keys, x.1.size ≤ 3000 ∧ x.2.1.size ≤ 3000 ∧ W64 x.2.2.1 ∧ W64 x.2.2.2
end Go.Proofs.YthfilnflgahcjaaGreatDoor

namespace Go.Proofs.YthfilnflgahcjaaGreatDoor
open Go.RowKit Go.Shelf
set_option linter.unusedVariables false
set_option linter.unusedSimpArgs false
theorem owns_keep {w w' : World} {B e size n : Nat} {v : Value} {xs : List Value} (h : w.ownsRow B e size v n xs) (hb : Below w.heap.size w w') : w'.ownsRow B e size v n xs := by
  obtain ⟨g1, ⟨g2, g3⟩ | ⟨g, cap, cur, g2, g3, g4, g5⟩⟩ := h
  · exact ⟨g1, .inl ⟨g2, g3⟩⟩
  · exact ⟨g1, .inr ⟨g, cap, cur, g2, g3, (hb.block g (Array.getElem?_eq_some_iff.1 g4).1).trans g4, g5⟩⟩
theorem BldI.keep {B b : Nat} {l : List UInt8} {w w' : World} (h : BldI B b l w) (hb : Below w.heap.size w w') : BldI B b l w' := by
  rcases h with h | h
  · left
    have hlt := h.lt
    obtain ⟨hB, v, hbk, hown, hne⟩ := h
    exact ⟨hB, v, (hb.block b hlt).trans hbk, owns_keep hown hb, hne⟩
  · right
    have hlt := h.lt
    obtain ⟨hB, v, hbk, hown, hne⟩ := h
    exact ⟨hB, v, (hb.block b hlt).trans hbk, owns_keep hown hb, hne⟩
theorem BldI.lt {B b : Nat} {l : List UInt8} {w : World} (h : BldI B b l w) : b < w.heap.size := by
  rcases h with h | h <;> exact Lib.BuilderAt.lt h
end Go.Proofs.YthfilnflgahcjaaGreatDoor

namespace Go.Proofs.YthfilnflgahcjaaGreatDoor
open Go.RowKit Go.Shelf Go.Maps
set_option linter.unusedVariables false
set_option linter.unusedSimpArgs false
attribute [local go_sem] Oper.semAt_some
theorem upC_eqT (w : World) : upC w = fun w' => ∃ u : Up w, w' = u.x := rfl
end Go.Proofs.YthfilnflgahcjaaGreatDoor

