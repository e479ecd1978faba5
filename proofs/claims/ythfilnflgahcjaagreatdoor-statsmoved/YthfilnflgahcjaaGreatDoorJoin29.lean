/- A builder of texts: what is written to it. Keys as layer 1 tells them. Names and numerals, told by the program and by the document. Counts as a text. A line of words, written to a builder. The reference's Text. -/
import Derived.Test.YthfilnflgahcjaaGreatDoorShelf4
import Derived.Test.YthfilnflgahcjaaGreatDoorJoin2
import Derived.Test.YthfilnflgahcjaaGreatDoorJoin4
import Derived.Test.YthfilnflgahcjaaGreatDoorJoin16
import Derived.Test.YthfilnflgahcjaaGreatDoorJoin8
import Derived.Lib.AppendIntMem
import Derived.Lib.SplitLaws
import Derived.Test.YthfilnflgahcjaaGreatDoorJoin1
import Derived.Lib.ValidLaws
import Derived.Lib.ItoaLen
import Derived.Lib.Join
import Derived.Test.YthfilnflgahcjaaGreatDoorJoin3
namespace Go.Proofs.YthfilnflgahcjaaGreatDoor
open Go.RowKit Go.Shelf
set_option linter.unusedVariables false
set_option linter.unusedSimpArgs false
/-- A builder that was not written to, or was. -/
abbrev BldI (B b : Nat) (l : List UInt8) (w : World) : Prop := Lib.IsBuilder 118 5 B b (Lib.byteCells l) w
theorem write_any (B b : Nat) (l : List UInt8) (s : ByteArray) (w : World) (h : BldI B b l w) (hlen : l.length + s.size ≤ 140737488355328) (hBw : B ≤ w.heap.size) :
    Calls Tryz.prog 70 #[.pointer (some ⟨b, 0, none⟩), .string s] w fun e w' => e = .returned (.tuple #[.int .i64 s.size, .nilIface]) ∧ BldI B b (l ++ s.data.toList) w' ∧ Below B w w' := by
  have hl : (Lib.byteCells l).length = l.length := by simp [Lib.byteCells]
  refine (Any.Builder_WriteString (P := Tryz.prog) (ρ := Tryz.lays156_ren) { Tryz.lays156 with } Tryz.Builder_Extra_156 B b (Lib.byteCells l) s w h (by rw [hl]; exact hlen) hBw).mono ?_
  rintro e w' ⟨h1, h2, h3⟩
  refine ⟨h1, .inr ?_, h3⟩
  have : Lib.byteCells (l ++ s.data.toList) = Lib.byteCells l ++ Lib.strCells s := by simp [Lib.byteCells, Lib.strCells]
  rw [this]
  exact h2
/-- The numeral of a whole number. -/
def numT (n : Int) : ByteArray := ⟨(Lib.itoa n).toArray⟩
/-- What the texts of the program stand on. -/
structure Env2 (w : World) : Prop where
  e : Env w
  ml : ∃ m, w.cell? ⟨2, 0, none⟩ = some (.int .i64 m)
  pow : Lib.TabIs Tryz.prog w "internal/strconv.uint64pow10" .u64 Lib.pow10Tab
theorem Env2.below {w w' : World} (h : Env2 w) (hb : Below w.heap.size w w') : Env2 w' := by
  have h3 := h.e.room
  obtain ⟨m, hm⟩ := h.ml
  exact ⟨h.e.below hb h3, ⟨m, (hb.cell (p := ⟨2, 0, none⟩) (by show 2 < w.heap.size; omega)).trans hm⟩, Lib.tabBelow_of_tabIs h.pow w' hb⟩
theorem w64_range {n : Int} (h : W64 n) : -9223372036854775808 ≤ n ∧ n ≤ 9223372036854775807 := by
  unfold W64 Lit.wf at h
  have e1 : IntKind.i64.min = -9223372036854775808 := by decide
  have e2 : IntKind.i64.max = 9223372036854775807 := by decide
  simp [e1, e2] at h
  omega
theorem format_any (n : Int) (hn : W64 n) (w : World) (hE : Env2 w) : Calls Tryz.prog 115 #[.int .i64 n, .int .i64 10] w fun e w' => e = .returned (.string (numT n)) ∧ Below w.heap.size w w' := by
  refine (Tryz.strconv_FormatInt_10 n (w64_range hn).1 (w64_range hn).2 w hE.pow).mono ?_
  rintro e w' ⟨h1, k, os, rfl⟩
  exact ⟨h1, Lib.below_grow _ _ (Nat.le_refl _) _ _⟩
theorem digits_any (n : Int) (hn : W64 n) (w : World) (hE : Env2 w) : Calls Tryz.prog 72 #[.int .i64 n] w fun e w' => e = .returned (.string (numT n)) ∧ Below w.heap.size w w' := by
  have HF := hidE (format_any n hn w hE)
  generalize numT n = t at *
  clear hE
  go_enter Tryz.func72, Tryz.ntmps72
  go_wp2_with fail
  refine HF.out.mono ?_
  rintro e w1 ⟨rfl, hb⟩
  have HB := hidE hb
  clear hb HF
  go_wp2_with fail
  go_ret
  exact ⟨rfl, HB.out⟩
end Go.Proofs.YthfilnflgahcjaaGreatDoor

namespace Go.Proofs.YthfilnflgahcjaaGreatDoor
open Go.RowKit Go.Shelf Go.Lib
set_option linter.unusedVariables false
set_option linter.unusedSimpArgs false
def vletB (m : Nat) : Bool := m == 95 || (decide (65 ≤ m) && decide (m ≤ 90)) || (decide (97 ≤ m) && decide (m ≤ 122))
theorem vlet_any (m : Nat) (w : World) : Calls Tryz.prog 142 #[.int .u8 (m : Int)] w fun e w' => e = .returned (.bool (vletB m)) ∧ w' = w := by
  go_enter Tryz.func142, Tryz.ntmps142
  by_cases h1 : m = 95
  · subst h1
    go_wp2_with fail
    go_ret
    exact ⟨rfl, rfl⟩
  have a1 : ¬ (m : Int) = 95 := by omega
  by_cases h2 : 65 ≤ m
  · have a2 : (65 : Int) ≤ m := by omega
    by_cases h3 : m ≤ 90
    · have a3 : (m : Int) ≤ 90 := by omega
      go_wp2_with fail
      go_ret
      exact ⟨by simp [vletB, h2, h3], rfl⟩
    · have a3 : ¬ (m : Int) ≤ 90 := by omega
      by_cases h4 : 97 ≤ m
      · have a4 : (97 : Int) ≤ m := by omega
        go_wp2_with fail
        go_ret
        refine ⟨congrArg (fun b => Ending.returned (.bool b)) (?_ : ((m : Int) == 95 || decide ((m : Int) ≤ 122)) = vletB m), rfl⟩
        rw [Bool.eq_iff_iff]
        simp [vletB]
        omega
      · have a4 : ¬ (97 : Int) ≤ m := by omega
        go_wp2_with fail
        go_ret
        refine ⟨congrArg (fun b => Ending.returned (.bool b)) (?_ : ((m : Int) == 95) = vletB m), rfl⟩
        rw [Bool.eq_iff_iff]
        simp [vletB]
        omega
  · have a2 : ¬ (65 : Int) ≤ m := by omega
    have a4 : ¬ (97 : Int) ≤ m := by omega
    go_wp2_with fail
    go_ret
    refine ⟨congrArg (fun b => Ending.returned (.bool b)) (?_ : ((m : Int) == 95) = vletB m), rfl⟩
    rw [Bool.eq_iff_iff]
    simp [vletB]
    omega
/-- May the byte at place j stand in a key that bears no signs? -/
def vbareAt (s : ByteArray) (j : Nat) : Bool := vletB (s.get! j).toNat || (decide (0 < j) && (decide (48 ≤ (s.get! j).toNat) && decide ((s.get! j).toNat ≤ 57)))
def vbareB (s : ByteArray) : Bool := (List.range s.size).all (vbareAt s) && decide (0 < s.size)
theorem vbare_step {s : ByteArray} {j : Nat} (h : (List.range j).all (vbareAt s) = true) (h' : vbareAt s j = true) : (List.range (j + 1)).all (vbareAt s) = true := by
  rw [List.range_succ, List.all_append, h]; simp [h']
theorem vbare_not {s : ByteArray} {j : Nat} (hj : j < s.size) (h' : vbareAt s j = false) : vbareB s = false := by
  unfold vbareB
  rw [Bool.and_eq_false_iff]
  left
  rw [List.all_eq_false]
  exact ⟨j, List.mem_range.2 hj, by simp [h']⟩
set_option maxHeartbeats 1000000 in
theorem vbare_any (s : ByteArray) (hs : s.size ≤ maxLen) (w : World) : Calls Tryz.prog 117 #[.string s] w fun e w' => e = .returned (.bool (vbareB s)) ∧ w' = w := by
  unfold maxLen at hs
  go_enter Tryz.func117, Tryz.ntmps117
  go_wp2_with fail
  go_loopw [6] (fun i wr => ∃ j : Nat, j ≤ s.size ∧ i = .int .i64 j ∧ wr = w ∧ (List.range j).all (vbareAt s) = true) (fun i _ => s.size - (RowKit.intOf i).toNat)
  case atStart => exact ⟨0, Nat.zero_le _, rfl, rfl, rfl⟩
  case round =>
    obtain ⟨j, hj, rfl, rfl, hno⟩ := hrel
    have HNO := hidE hno
    clear hno
    by_cases hlt : j < s.size
    · have hb : s[j] = s.get! j := by simp [ByteArray.get!, ByteArray.getElem_eq_getElem_data, hlt]
      have HAT : Hid (∀ m, (s.get! j).toNat = m → vbareAt s j = (vletB m || (decide (0 < j) && (decide (48 ≤ m) && decide (m ≤ 57))))) := fun m h => by subst h; rfl
      go_wp2_with fail
      refine (vlet_any _ wr).mono ?_
      rintro e _ ⟨rfl, rfl⟩
      obtain ⟨m, hm⟩ : ∃ m, (s.get! j).toNat = m := ⟨_, rfl⟩
      have HA := hidE (HAT.out m hm)
      rw [hm]
      have hbm : (s[j]).toNat = m := by rw [hb]; exact hm
      clear HAT
      cases hl : vletB m with
      | true =>
        have HL := hidE hl
        clear hl
        go_wp2_with fail
        go_roundw
        case rel =>
          refine ⟨j + 1, by omega, by go_num, trivial, vbare_step HNO.out ?_⟩
          rw [HA.out, HL.out]; rfl
        case measure => simp [RowKit.intOf]; omega
      | false =>
        have HL := hidE hl
        clear hl
        by_cases h0 : j = 0
        · have HR : Hid (vbareB s = false) := vbare_not hlt (by rw [HA.out, HL.out, h0]; rfl)
          have h0' : ((j : Int) == 0) = true := by simp [h0]
          go_wp2_with fail
          go_ret
          exact ⟨by rw [HR.out]; rfl, rfl⟩
        · have h0' : ((j : Int) == 0) = false := by simp [h0]
          by_cases h1 : m < 48
          · have h1' : (m : Int) < 48 := by omega
            have HR : Hid (vbareB s = false) := vbare_not hlt (by rw [HA.out, HL.out]; simp; omega)
            go_wp2_with fail
            go_ret
            exact ⟨by rw [HR.out]; rfl, rfl⟩
          · have h1' : ¬ (m : Int) < 48 := by omega
            by_cases h2 : 57 < m
            · have h2' : (57 : Int) < m := by omega
              have HR : Hid (vbareB s = false) := vbare_not hlt (by rw [HA.out, HL.out]; simp; omega)
              go_wp2_with fail
              go_ret
              exact ⟨by rw [HR.out]; rfl, rfl⟩
            · have h2' : ¬ (57 : Int) < m := by omega
              go_wp2_with fail
              go_roundw
              case rel =>
                refine ⟨j + 1, by omega, by go_num, trivial, vbare_step HNO.out ?_⟩
                rw [HA.out, HL.out]
                simp
                omega
              case measure => simp [RowKit.intOf]; omega
    · have hjs : j = s.size := by omega
      go_wp2_with fail
      go_ret
      refine ⟨congrArg (fun b => Ending.returned (.bool b)) (?_ : (!s.toList.isEmpty) = vbareB s), rfl⟩
      have hn := HNO.out
      rw [hjs] at hn
      unfold vbareB
      rw [hn, ByteArray.toList_eq, Bool.true_and, Bool.eq_iff_iff]
      have hz : s.size = s.data.toList.length := rfl
      rw [hz]
      cases s.data.toList <;> simp
/-- The sign 96 twice. -/
def dblB (l : List UInt8) : List UInt8 := (l.map fun c => if c = 96 then [96, 96] else [c]).flatten
theorem dblB_cons (c : UInt8) (l : List UInt8) : dblB (c :: l) = (if c = 96 then [96, 96] else [c]) ++ dblB l := by simp [dblB]
theorem dblB_len (l : List UInt8) : (dblB l).length ≤ 2 * l.length := by
  induction l with
  | nil => simp [dblB]
  | cons c r ih =>
    rw [dblB_cons]
    simp only [List.length_append, List.length_cons]
    split <;> simp <;> omega
theorem idx_hit (l : List UInt8) : index (96 :: l) [96] = 0 := by
  rw [index, if_pos]; simp
theorem idx_pass {c : UInt8} (h : c ≠ 96) (l : List UInt8) : index (c :: l) [96] = if index l [96] == -1 then -1 else index l [96] + 1 := by
  rw [index, if_neg]
  simp
  exact fun e => h e.symm
theorem replaceK_pass {c : UInt8} (h : c ≠ 96) (l : List UInt8) : ∀ k, replaceK [96] [96, 96] k (c :: l) = c :: replaceK [96] [96, 96] k l
  | 0 => rfl
  | k + 1 => by
    rw [replaceK, replaceK, idx_pass h]
    by_cases e : index l [96] = -1
    · simp [e]
    · have hge := Lib.index_ge l [96]
      have e' : (index l [96] == -1) = false := by simpa using e
      obtain ⟨i, hi⟩ : ∃ i : Nat, index l [96] = i := ⟨(index l [96]).toNat, by omega⟩
      rw [hi] at e' ⊢
      have e2 : (((i : Int) + 1 == -1)) = false := by simp; omega
      rw [e']
      simp only [Bool.false_eq_true, if_false, e2]
      rw [show ((i : Int) + 1).toNat = i + 1 from by omega, Int.toNat_natCast]
      rfl
theorem replace_dbl : ∀ l : List UInt8, replaceK [96] [96, 96] (count l [96]) l = dblB l
  | [] => by rw [show count [] [96] = 0 from rfl]; rfl
  | c :: l => by
    by_cases h : c = 96
    · subst h
      rw [count_cons_eq, Nat.add_comm, replaceK, idx_hit, dblB_cons, if_pos rfl]
      have e : ((0 : Int) == -1) = false := rfl
      rw [e]
      simp only [Bool.false_eq_true, if_false]
      show [] ++ [96, 96] ++ replaceK [96] [96, 96] (count l [96]) l = _
      rw [replace_dbl l]; rfl
    · rw [count_cons_ne c 96 l h, replaceK_pass h, replace_dbl l, dblB_cons, if_neg h]; rfl
theorem replaceAll_dbl (l : List UInt8) : replaceAll l [96] [96, 96] = dblB l := by
  unfold replaceAll replace replaceNum
  rw [if_neg (by decide), if_pos (.inl (by decide))]
  exact replace_dbl l
/-- A key as it is told. -/
def vnameB (s : ByteArray) : ByteArray := if vbareB s then s else ⟨#[96]⟩ ++ ⟨(dblB s.data.toList).toArray⟩ ++ ⟨#[96]⟩
theorem vname_pos (s : ByteArray) : 0 < (vnameB s).size := by
  unfold vnameB
  by_cases h : vbareB s = true
  · rw [if_pos h]
    unfold vbareB at h
    simp at h
    exact h.2
  · rw [if_neg h]
    simp only [ByteArray.size_append]
    have : (⟨#[96]⟩ : ByteArray).size = 1 := rfl
    omega
theorem vname_len (s : ByteArray) : (vnameB s).size ≤ 2 * s.size + 2 := by
  unfold vnameB
  split
  · omega
  · simp only [ByteArray.size_append]
    have h1 : (⟨#[96]⟩ : ByteArray).size = 1 := rfl
    have h2 : (⟨(dblB s.data.toList).toArray⟩ : ByteArray).size = (dblB s.data.toList).length := by simp [ByteArray.size]
    have h3 := dblB_len s.data.toList
    have h4 : s.data.toList.length = s.size := rfl
    omega
set_option maxHeartbeats 1000000 in
theorem vname_any (s : ByteArray) (hs : s.size ≤ 1000000000) (hv : Lib.validD s.data.toList = true) (w : World) (hE : Env2 w) :
    Calls Tryz.prog 73 #[.string s] w fun e w' => e = .returned (.string (vnameB s)) ∧ Below w.heap.size w w' := by
  have hs' : s.size ≤ maxLen := by unfold maxLen; omega
  obtain ⟨m, hm⟩ := hE.ml
  have h2 : 2 < w.heap.size := Nat.lt_of_lt_of_le (by decide) hE.e.room
  have hcb := countB_mul_le ⟨#[96]⟩ (by decide) s.size s (Nat.le_refl _)
  have h1 : (⟨#[96]⟩ : ByteArray).size = 1 := rfl
  have h22 : (⟨#[96, 96]⟩ : ByteArray).size = 2 := rfl
  have HR : Hid (∀ w', Below w.heap.size w w' → Calls Tryz.prog 118 #[.string s, .string ⟨#[96]⟩, .string ⟨#[96, 96]⟩] w' fun e w2 => e = .returned (.string ⟨(dblB s.data.toList).toArray⟩) ∧ Below w'.heap.size w' w2) := fun w' hb => by
    have := Tryz.strings_ReplaceAll s ⟨#[96]⟩ ⟨#[96, 96]⟩ m w' (by omega) ((hb.cell (p := ⟨2, 0, none⟩) h2).trans hm) (by decide) (by rw [h22]; rw [h1] at hcb; omega)
    rw [show (⟨#[96]⟩ : ByteArray).data.toList = [96] from rfl, show (⟨#[96, 96]⟩ : ByteArray).data.toList = [96, 96] from rfl, replaceAll_dbl] at this
    exact this
  have HV := hidE (valid_any s (by omega) w hE.e)
  rw [hv] at HV
  obtain ⟨D, hD⟩ : ∃ D : ByteArray, (⟨(dblB s.data.toList).toArray⟩ : ByteArray) = D := ⟨_, rfl⟩
  have hDs : D.size ≤ 2000000000 := by
    rw [← hD]
    have a := dblB_len s.data.toList
    have b : s.data.toList.length = s.size := rfl
    have c : (⟨(dblB s.data.toList).toArray⟩ : ByteArray).size = (dblB s.data.toList).length := by simp [ByteArray.size]
    omega
  rw [hD] at HR
  have z1 : ¬ 9223372036854775807 < 1 + D.size := by omega
  have z2 : ¬ 9223372036854775807 < 1 + D.size + 1 := by omega
  have HD := hidE hD
  clear hD hcb hm hE h2 h1 h22
  go_enter Tryz.func73, Tryz.ntmps73
  go_wp2_with fail
  refine HV.out.mono ?_
  rintro e w1 ⟨rfl, hb⟩
  have HB := hidE hb
  have HC := hidE (vbare_any s hs' w1)
  clear hb hs hs' HV
  go_wp2_with fail
  refine HC.out.mono ?_
  rintro e _ ⟨rfl, rfl⟩
  cases hb : vbareB s with
  | true =>
    have HN : Hid (vnameB s = s) := by show _ = _; unfold vnameB; rw [if_pos hb]
    clear hb
    go_wp2_with fail
    go_ret
    exact ⟨by rw [HN.out]; rfl, HB.out⟩
  | false =>
    have HN : Hid (vnameB s = ⟨#[96]⟩ ++ D ++ ⟨#[96]⟩) := by show _ = _; unfold vnameB; rw [if_neg (by simp [hb]), HD.out]
    clear hb
    go_wp2_with fail
    refine (HR.out _ HB.out).mono ?_
    rintro e w3 ⟨rfl, hb3⟩
    have HB3 : Hid (Below w.heap.size w w3) := below_on HB.out hb3
    clear hb3
    go_wp2_with fail
    go_ret
    exact ⟨by rw [HN.out]; rfl, HB3.out⟩
end Go.Proofs.YthfilnflgahcjaaGreatDoor

namespace Go.Proofs.YthfilnflgahcjaaGreatDoor
open Go.RowKit Go.Shelf
set_option linter.unusedVariables false
set_option linter.unusedSimpArgs false
/-- A name as it is told: nothing, if it is no UTF-8. -/
def nameT (s : ByteArray) : ByteArray := if Lib.validD s.data.toList = true then vnameB s else ⟨#[]⟩
theorem nameT_len (s : ByteArray) : (nameT s).size ≤ 2 * s.size + 2 := by
  unfold nameT
  split
  · exact vname_len s
  · exact Nat.zero_le _
theorem nam_any (s : ByteArray) (hs : s.size ≤ 100000) (w : World) (hE : Env2 w) : Calls Tryz.prog 73 #[.string s] w fun e w' => e = .returned (.string (nameT s)) ∧ Below w.heap.size w w' := by
  cases hv : Lib.validD s.data.toList with
  | true =>
    have hn : nameT s = vnameB s := by unfold nameT; rw [if_pos hv]
    rw [hn]
    exact vname_any s (by omega) hv w hE
  | false =>
    have hn : nameT s = ⟨#[]⟩ := by unfold nameT; rw [if_neg (by rw [hv]; decide)]
    rw [hn]
    have HV := hidE (valid_any s (by omega) w hE.e)
    rw [hv] at HV
    clear hv hn hE
    go_enter Tryz.func73, Tryz.ntmps73
    go_wp2_with fail
    refine HV.out.mono ?_
    rintro e w1 ⟨rfl, hb⟩
    have HB := hidE hb
    clear hb HV
    go_wp2_with fail
    go_ret
    exact ⟨rfl, HB.out⟩
end Go.Proofs.YthfilnflgahcjaaGreatDoor

namespace Go.Proofs.YthfilnflgahcjaaGreatDoor
open Go.RowKit Go.Shelf
set_option linter.unusedVariables false
set_option linter.unusedSimpArgs false
theorem numT_len {n : Int} (h : W64 n) : (numT n).size ≤ 21 := by
  have := Lib.itoa_length_le n (w64_range h).1 (w64_range h).2
  have e : (numT n).size = (Lib.itoa n).length := by simp [numT, ByteArray.size]
  omega
/-- A line of words. -/
def lineB (ws : List ByteArray) : List UInt8 := Lib.join (ws.map fun x => x.data.toList) [32] ++ [10]
def wayT (o : Bool) : ByteArray := if o = true then ⟨#[111, 117, 116]⟩ else ⟨#[105, 110]⟩
def labLine (x : ByteArray × Int) : List UInt8 := lineB [⟨#[108, 97, 98, 101, 108]⟩, nameT x.1, numT x.2]
def typLine (x : ByteArray × Int) : List UInt8 := lineB [⟨#[116, 121, 112, 101]⟩, nameT x.1, numT x.2]
def endLine (x : EndR) : List UInt8 := lineB [⟨#[101, 110, 100]⟩, nameT x.1, nameT x.2.1, wayT x.2.2.1, numT x.2.2.2]
def keyLine (x : KeyR) : List UInt8 := lineB [⟨#[107, 101, 121]⟩, nameT x.1, nameT x.2.1, numT x.2.2.1, numT x.2.2.2]
def headL (s : StatP) : List UInt8 := lineB [⟨#[110, 111, 100, 101, 115]⟩, numT s.nodes] ++ lineB [⟨#[114, 101, 108, 115]⟩, numT s.rels]
def txt1 (s : StatP) : List UInt8 := headL s ++ s.labels.flatMap labLine
def txt2 (s : StatP) : List UInt8 := txt1 s ++ s.types.flatMap typLine
def txt3 (s : StatP) : List UInt8 := txt2 s ++ s.ends.flatMap endLine
def textL (s : StatP) : List UInt8 := txt3 s ++ s.keys.flatMap keyLine
/-- Counts that are numbers, with short names. -/
structure StatW (s : StatP) : Prop where
  n : W64 s.nodes
  r : W64 s.rels
  l : ∀ x ∈ s.labels, x.1.size ≤ 3000 ∧ W64 x.2
  t : ∀ x ∈ s.types, x.1.size ≤ 3000 ∧ W64 x.2
  e : ∀ x ∈ s.ends, x.1.size ≤ 3000 ∧ x.2.1.size ≤ 3000 ∧ W64 x.2.2.2
  k : ∀ x ∈ s.keys, x.1.size ≤ 3000 ∧ x.2.1.size ≤ 3000 ∧ W64 x.2.2.1 ∧ W64 x.2.2.2
theorem size_list (a : ByteArray) : a.data.toList.length = a.size := rfl
theorem line2_len (a b : ByteArray) : (lineB [a, b]).length = a.size + b.size + 2 := by
  simp [lineB, Lib.join, List.intercalate, size_list]; omega
theorem line3_len (a b c : ByteArray) : (lineB [a, b, c]).length = a.size + b.size + c.size + 3 := by
  simp [lineB, Lib.join, List.intercalate, size_list]; omega
theorem line5_len (a b c d e : ByteArray) : (lineB [a, b, c, d, e]).length = a.size + b.size + c.size + d.size + e.size + 5 := by
  simp [lineB, Lib.join, List.intercalate, size_list]; omega
theorem wayT_len (o : Bool) : (wayT o).size ≤ 3 := by cases o <;> decide
theorem labLine_len {x : ByteArray × Int} (h : x.1.size ≤ 3000 ∧ W64 x.2) : (labLine x).length ≤ 13000 := by
  unfold labLine
  rw [line3_len]
  have h1 := nameT_len x.1
  have h2 := numT_len h.2
  have h3 : (⟨#[108, 97, 98, 101, 108]⟩ : ByteArray).size = 5 := rfl
  have := h.1
  omega
theorem typLine_len {x : ByteArray × Int} (h : x.1.size ≤ 3000 ∧ W64 x.2) : (typLine x).length ≤ 13000 := by
  unfold typLine
  rw [line3_len]
  have h1 := nameT_len x.1
  have h2 := numT_len h.2
  have h3 : (⟨#[116, 121, 112, 101]⟩ : ByteArray).size = 4 := rfl
  have := h.1
  omega
theorem endLine_len {x : EndR} (h : x.1.size ≤ 3000 ∧ x.2.1.size ≤ 3000 ∧ W64 x.2.2.2) : (endLine x).length ≤ 13000 := by
  unfold endLine
  rw [line5_len]
  have h1 := nameT_len x.1
  have h2 := numT_len h.2.2
  have h4 := nameT_len x.2.1
  have h5 := wayT_len x.2.2.1
  have h3 : (⟨#[101, 110, 100]⟩ : ByteArray).size = 3 := rfl
  have := h.1
  have := h.2.1
  omega
theorem keyLine_len {x : KeyR} (h : x.1.size ≤ 3000 ∧ x.2.1.size ≤ 3000 ∧ W64 x.2.2.1 ∧ W64 x.2.2.2) : (keyLine x).length ≤ 13000 := by
  unfold keyLine
  rw [line5_len]
  have h1 := nameT_len x.1
  have h2 := numT_len h.2.2.1
  have h4 := nameT_len x.2.1
  have h5 := numT_len h.2.2.2
  have h3 : (⟨#[107, 101, 121]⟩ : ByteArray).size = 3 := rfl
  have := h.1
  have := h.2.1
  omega
theorem flat_step {α : Type} {f : α → List UInt8} {xs : List α} {j : Nat} {x : α} (h : xs[j]? = some x) : (xs.take (j + 1)).flatMap f = (xs.take j).flatMap f ++ f x := by
  rw [List.take_add_one, h]; simp
theorem flat_len {α : Type} {f : α → List UInt8} : ∀ (xs : List α), (∀ x ∈ xs, (f x).length ≤ 13000) → (xs.flatMap f).length ≤ 13000 * xs.length
  | [], _ => by simp
  | x :: xs, h => by
    rw [List.flatMap_cons, List.length_append, List.length_cons]
    have := h x List.mem_cons_self
    have := flat_len xs fun y hy => h y (List.mem_cons_of_mem _ hy)
    omega
theorem flat_take_len {α : Type} {f : α → List UInt8} {xs : List α} (j : Nat) (h : ∀ x ∈ xs, (f x).length ≤ 13000) : ((xs.take j).flatMap f).length ≤ 13000 * xs.length := by
  have := flat_len (xs.take j) fun x hx => h x (List.mem_of_mem_take hx)
  have h2 : (xs.take j).length ≤ xs.length := by rw [List.length_take]; omega
  omega
theorem head_len {s : StatP} (h : StatW s) : (headL s).length ≤ 100 := by
  unfold headL
  rw [List.length_append, line2_len, line2_len]
  have h1 := numT_len h.n
  have h2 := numT_len h.r
  have h3 : (⟨#[110, 111, 100, 101, 115]⟩ : ByteArray).size = 5 := rfl
  have h4 : (⟨#[114, 101, 108, 115]⟩ : ByteArray).size = 4 := rfl
  omega
end Go.Proofs.YthfilnflgahcjaaGreatDoor

namespace Go.Proofs.YthfilnflgahcjaaGreatDoor
open Go.RowKit Go.Shelf
set_option linter.unusedVariables false
set_option linter.unusedSimpArgs false
theorem owns_keep {w w' : World} {B e size n : Nat} {v : Value} {xs : List Value} (h : w.ownsRow B e size v n xs) (hb : Below w.heap.size w w') : w'.ownsRow B e size v n xs := by
  obtain ⟨g1, ⟨g2, g3⟩ | ⟨g, cap, cur, g2, g3, g4, g5⟩⟩ := h
  · exact ⟨g1, .inl ⟨g2, g3⟩⟩
  · exact ⟨g1, .inr ⟨g, cap, cur, g2, g3, (hb.block g (Array.getElem?_eq_some_iff.1 g4).1).trans g4, g5⟩⟩
theorem BldI.keep {B b : Nat} {l : List UInt8} {w w' : World} (h : BldI B b l w) (hb : Below w.heap.size w w') : BldI B b l w' := by
  rcases h with h | h
  · left
    have hlt := h.lt
    obtain ⟨hB, v, hbk, hown, hne⟩ := h
    exact ⟨hB, v, (hb.block b hlt).trans hbk, owns_keep hown hb, hne⟩
  · right
    have hlt := h.lt
    obtain ⟨hB, v, hbk, hown, hne⟩ := h
    exact ⟨hB, v, (hb.block b hlt).trans hbk, owns_keep hown hb, hne⟩
theorem BldI.lt {B b : Nat} {l : List UInt8} {w : World} (h : BldI B b l w) : b < w.heap.size := by
  rcases h with h | h <;> exact Lib.BuilderAt.lt h
theorem bld_new (w : World) : BldI w.heap.size w.heap.size [] (w.alloc (.cells #[.pointer none, .slice none 0 0] 118)) :=
  .inl ⟨Nat.le_refl _, .slice none 0 0, World.alloc_heap_new _ _, World.ownsRow_nil _ _ _ _, by simp [Value.ownBlock]⟩
set_option maxRecDepth 100000 in
set_option maxHeartbeats 4000000 in
theorem line_any (B b bk c : Nat) (l : List UInt8) (ws : List ByteArray) (w : World) (hBw : B ≤ w.heap.size) (h : BldI B b l w) (hbk : bk < w.heap.size) (hcells : ∀ (j : Nat) x, ws[j]? = some x → w.cell? ⟨bk, 0 + j, none⟩ = some (.string x)) (hN : ws.length ≤ 5) (hcap : ws.length ≤ c) (hl : l.length ≤ 100000000000) (hs : (lineB ws).length ≤ 100000) :
    Calls Tryz.prog 69 #[.slice (some ⟨bk, 0, none⟩) ws.length c, .pointer (some ⟨b, 0, none⟩)] w fun e w' => e = .returned (.tuple #[]) ∧ BldI B b (l ++ lineB ws) w' ∧ Below B w w' := by
  have hjl : (lineB ws).length = (Lib.join (ws.map (·.data.toList)) (⟨#[32]⟩ : ByteArray).data.toList).length + 1 := by simp [lineB]
  have HJ := hidE (Tryz.strings_Join bk 0 c ws ⟨#[32]⟩ w hcells hbk (by omega) hcap (by omega))
  obtain ⟨J, hJ⟩ : ∃ J : ByteArray, (⟨(Lib.join (ws.map (·.data.toList)) (⟨#[32]⟩ : ByteArray).data.toList).toArray⟩ : ByteArray) = J := ⟨_, rfl⟩
  have HJJ : Hid (lineB ws = (J ++ ⟨#[10]⟩).data.toList) := by
    show _ = _
    rw [← hJ]
    simp [lineB]
  have hzJ : J.size ≤ 100000 := by
    have : J.size = (Lib.join (ws.map (·.data.toList)) (⟨#[32]⟩ : ByteArray).data.toList).length := by rw [← hJ]; simp [ByteArray.size]
    omega
  rw [hJ] at HJ
  have HH := hidE h
  have z1 : ¬ 9223372036854775807 < J.size + 1 := by omega
  clear hcells hJ hjl hs
  generalize ws.length = n at *
  generalize lineB ws = LL at *
  have hz2 : (J ++ ⟨#[10]⟩ : ByteArray).size ≤ 100001 := by rw [ByteArray.size_append]; show J.size + 1 ≤ _; omega
  go_enter Tryz.func69, Tryz.ntmps69
  go_wp2_with fail
  refine HJ.out.mono ?_
  rintro e w1 ⟨rfl, hb1⟩
  have HW := hidE (write_any B b l (J ++ ⟨#[10]⟩) w1 (HH.out.keep hb1) (by omega) (Nat.le_trans hBw hb1.size))
  have HB1 := hidE (hb1.mono hBw)
  clear hb1 HJ h HH hz2
  go_wp2_with fail
  refine HW.out.mono ?_
  rintro e w2 ⟨rfl, h2, hb2⟩
  have H2 := hidE h2
  have HB2 := hidE (HB1.out.trans hb2)
  clear h2 hb2 HW
  go_wp2_with fail
  go_end0
  exact ⟨rfl, by rw [HJJ.out]; exact H2.out, HB2.out⟩
end Go.Proofs.YthfilnflgahcjaaGreatDoor

namespace Go.Proofs.YthfilnflgahcjaaGreatDoor
open Go.RowKit Go.Shelf Go.Maps
set_option linter.unusedVariables false
set_option linter.unusedSimpArgs false
attribute [local go_sem] Oper.semAt_some
theorem txt1_len {s : StatP} (h : StatW s) (hl : s.labels.length ≤ 900000) : (txt1 s).length ≤ 12000000000 := by
  unfold txt1
  rw [List.length_append]
  have h1 := head_len h
  have h2 := flat_len (f := labLine) s.labels fun x hx => labLine_len (h.l x hx)
  omega
theorem txt2_len {s : StatP} (h : StatW s) (hl : s.labels.length ≤ 900000) (ht : s.types.length ≤ 900000) : (txt2 s).length ≤ 24000000000 := by
  unfold txt2
  rw [List.length_append]
  have h1 := txt1_len h hl
  have h2 := flat_len (f := typLine) s.types fun x hx => typLine_len (h.t x hx)
  omega
theorem txt3_len {s : StatP} (h : StatW s) (hl : s.labels.length ≤ 900000) (ht : s.types.length ≤ 900000) (he : s.ends.length ≤ 900000) : (txt3 s).length ≤ 36000000000 := by
  unfold txt3
  rw [List.length_append]
  have h1 := txt2_len h hl ht
  have h2 := flat_len (f := endLine) s.ends fun x hx => endLine_len (h.e x hx)
  omega
end Go.Proofs.YthfilnflgahcjaaGreatDoor

