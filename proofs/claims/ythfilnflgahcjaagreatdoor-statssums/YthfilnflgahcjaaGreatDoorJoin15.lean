/- The shelf's contracts at this dump: whether a text is UTF-8, and where a byte stands. Names: what the library's own variables hold, and which texts are names. A graph that is there: whether it is, whether it has a thing, whether it is full. -/
import Derived.Shelf.Unicode.ValidAny
import Derived.Shelf.Small.Strs
import Derived.Test.YthfilnflgahcjaaGreatDoorProg
import Derived.Test.YthfilnflgahcjaaGreatDoorJoin1
import Derived.Test.YthfilnflgahcjaaGreatDoorJoin10
import Derived.Test.YthfilnflgahcjaaGreatDoorJoin8
namespace Go.Proofs
open Go.Shelf
def Tryz.laysValid_ren : Go.Shelf.Ren := ⟨fun | 196 => 116 | 259 => 141 | n => n, fun | 9 => 9 | 4 => 4 | 3 => 3 | 5 => 5 | 12 => 12 | 119 => 204 | 0 => 0 | 46 => 171 | 139 => 207 | 138 => 206 | 53 => 106 | n => n, fun | 3 => 0 | 4 => 1 | n => n⟩
theorem Tryz.laysValid : Go.Proofs.Lays.n196 Tryz.prog Tryz.laysValid_ren := {
  mixed := by kernel_rfl
  f196 := Tryz.func116.trans (congrArg some (by kernel_rfl))
  f259 := Tryz.func141.trans (congrArg some (by kernel_rfl))
  t0 := Tryz.underlying0
  a0 := Tryz.isAgg0
  z0 := Tryz.sizeOf0
  v0 := Tryz.zeroValue0
  t3 := Tryz.underlying3
  a3 := Tryz.isAgg3
  z3 := Tryz.sizeOf3
  v3 := Tryz.zeroValue3
  t4 := Tryz.underlying4
  a4 := Tryz.isAgg4
  z4 := Tryz.sizeOf4
  v4 := Tryz.zeroValue4
  t5 := Tryz.underlying5
  a5 := Tryz.isAgg5
  z5 := Tryz.sizeOf5
  v5 := Tryz.zeroValue5
  t9 := Tryz.underlying9
  a9 := Tryz.isAgg9
  z9 := Tryz.sizeOf9
  v9 := Tryz.zeroValue9
  t12 := Tryz.underlying12
  a12 := Tryz.isAgg12
  z12 := Tryz.sizeOf12
  v12 := Tryz.zeroValue12
  t46 := Tryz.underlying171
  a46 := Tryz.isAgg171
  z46 := Tryz.sizeOf171
  v46 := Tryz.zeroValue171
  t53 := Tryz.underlying106
  a53 := Tryz.isAgg106
  z53 := Tryz.sizeOf106
  v53 := Tryz.zeroValue106
  t119 := Tryz.underlying204
  a119 := Tryz.isAgg204
  z119 := Tryz.sizeOf204
  t138 := Tryz.underlying206
  a138 := Tryz.isAgg206
  z138 := Tryz.sizeOf206
  v138 := Tryz.zeroValue206
  t139 := Tryz.underlying207
  a139 := Tryz.isAgg207
  z139 := Tryz.sizeOf207
  v139 := Tryz.zeroValue207
  g3 := by kernel_rfl
  g4 := by kernel_rfl }
def Tryz.lays137_ren : Go.Shelf.Ren := ⟨fun | 137 => 157 | 217 => 214 | 266 => 244 | n => n, fun | 9 => 9 | 5 => 5 | 3 => 3 | n => n, fun | n => n⟩
theorem Tryz.lays137 : Go.Proofs.Lays.n137 Tryz.prog Tryz.lays137_ren := {
  mixed := by kernel_rfl
  f137 := Tryz.func157.trans (congrArg some (by kernel_rfl))
  f217 := Tryz.func214.trans (congrArg some (by kernel_rfl))
  f266 := Tryz.func244.trans (congrArg some (by kernel_rfl))
  t3 := Tryz.underlying3
  a3 := Tryz.isAgg3
  z3 := Tryz.sizeOf3
  v3 := Tryz.zeroValue3
  t5 := Tryz.underlying5
  a5 := Tryz.isAgg5
  z5 := Tryz.sizeOf5
  v5 := Tryz.zeroValue5
  t9 := Tryz.underlying9
  a9 := Tryz.isAgg9
  z9 := Tryz.sizeOf9
  v9 := Tryz.zeroValue9 }
open Go.RowKit in
/-- strings.IndexByte: "IndexByte returns the index of the first instance of c in s, or -1 if c is not present in s.": IT RETURNS 'Lib.indexByte s c'; the world is as it was. (LAID: no walk: one application.) -/
theorem Tryz.strings_IndexByte (s : ByteArray) (c : Int) (w : World) :
    Calls Tryz.prog 157 #[.string s, .int .u8 c] w fun e w' => e = .returned (.int .i64 (Lib.indexByte s.data.toList c.toNat.toUInt8)) ∧ w' = w := Any.strings_IndexByte Tryz.lays137 s c w
end Go.Proofs

namespace Go.Proofs.YthfilnflgahcjaaGreatDoor
open Go.RowKit Go.Shelf
set_option linter.unusedVariables false
set_option linter.unusedSimpArgs false
structure Env (w : World) : Prop where
  room : 3 ≤ w.heap.size
  tabs : Lib.Utf8Tabs (Tryz.laysValid_ren.g 3) (Tryz.laysValid_ren.g 4) w
theorem Env.keep {w w' : World} (h : Env w) (hk : ∀ k, k < 3 → w'.heap[k]? = w.heap[k]?) (hs : 3 ≤ w'.heap.size) : Env w' := by
  have hc : ∀ p : Addr, p.block < 3 → w'.cell? p = w.cell? p := fun p hp => World.cell?_of_block (hk _ hp)
  refine ⟨hs, ⟨fun c hb => ?_, fun i hi => ⟨?_, ?_⟩⟩⟩
  · rw [hc _ (by show 0 < 3; decide)]; exact h.tabs.1 c hb
  · rw [hc _ (by show 1 < 3; decide)]; exact (h.tabs.2 i hi).1
  · rw [hc _ (by show 1 < 3; decide)]; exact (h.tabs.2 i hi).2
theorem Env.below {w w' : World} {B : Nat} (h : Env w) (hb : Below B w w') (hB : 3 ≤ B) : Env w' := h.keep (fun k hk => hb.block k (by omega)) (Nat.le_trans h.room hb.size)
theorem valid_any (s : ByteArray) (hs : s.size ≤ 140737488355328) (w : World) (hE : Env w) : Calls Tryz.prog 116 #[.string s] w fun e w' => e = .returned (.bool (Lib.validD s.data.toList)) ∧ Below w.heap.size w w' :=
  Any.utf8_ValidString Tryz.laysValid s w (by omega) hE.tabs
def nameOk (l : List UInt8) : Bool := decide (l.length ≥ 1) && decide (l.length ≤ 64) && Lib.validD l && !l.contains 0
theorem index_ge (l : List UInt8) (c : UInt8) : -1 ≤ Lib.indexByte l c := by
  induction l with
  | nil => simp [Lib.indexByte]
  | cons b l ih =>
    rw [Lib.indexByte]
    split
    · omega
    · split <;> omega
theorem index_neg (l : List UInt8) (c : UInt8) : (Lib.indexByte l c < 0) ↔ l.contains c = false := by
  induction l with
  | nil => simp [Lib.indexByte]
  | cons b l ih =>
    rw [Lib.indexByte, List.contains_cons]
    by_cases h : b = c
    · subst h; simp
    · have h1 : (b == c) = false := beq_eq_false_iff_ne.2 h
      have h2 : (c == b) = false := beq_eq_false_iff_ne.2 (fun e => h e.symm)
      rw [h1, h2]
      simp only [Bool.false_eq_true, if_false, Bool.false_or]
      have := index_ge l c
      rw [← ih]
      split
      · rename_i e; simp only [beq_iff_eq] at e; omega
      · rename_i e; simp only [beq_iff_eq] at e; omega
set_option maxHeartbeats 1000000 in
theorem name_any (s : ByteArray) (hs : s.size ≤ 140737488355328) (w : World) (hE : Env w) : Calls Tryz.prog 136 #[.string s] w fun e w' => e = .returned (.bool (nameOk s.data.toList)) ∧ Below w.heap.size w w' := by
  have HV : Hid (nameOk s.data.toList = (decide (s.size ≥ 1) && decide (s.size ≤ 64) && Lib.validD s.data.toList && !s.data.toList.contains 0)) := by
    show _ = _
    unfold nameOk
    simp
  have HX := hidE (index_neg s.data.toList 0)
  have HU := hidE (valid_any s hs w hE)
  have HI := hidE (fun w => Tryz.strings_IndexByte s 0 w)
  generalize nameOk s.data.toList = v at HV ⊢
  generalize Lib.validD s.data.toList = u at HV HU
  have HI2 : Hid (∀ w, Calls Tryz.prog 157 #[.string s, .int .u8 0] w fun e w' => e = .returned (.int .i64 (Lib.indexByte s.data.toList 0)) ∧ w' = w) := HI.out
  generalize Lib.indexByte s.data.toList 0 = i at HX HI2
  generalize s.data.toList.contains 0 = z at HV HX
  clear HI
  go_enter Tryz.func136, Tryz.ntmps136
  by_cases h0 : s.size = 0
  · have e0 : s.toList.isEmpty = true := by
      rw [ByteArray.toList_eq, List.isEmpty_iff]
      exact List.eq_nil_of_length_eq_zero (by simpa using h0)
    have HE : Hid (v = false) := by show _ = _; rw [HV.out, h0]; simp
    clear h0
    go_wp2_with fail
    go_ret
    rw [HE.out]
    exact ⟨rfl, Below.refl _ _⟩
  · have e0 : s.toList.isEmpty = false := by
      rw [ByteArray.toList_eq, Bool.eq_false_iff, ne_eq, List.isEmpty_iff]
      intro e
      have := congrArg List.length e
      exact h0 (by simpa using this)
    by_cases h1 : s.size ≤ 64
    · have h1' : (s.size : Int) ≤ 64 := by omega
      go_wp2_with fail
      refine HU.out.mono ?_
      rintro e w1 ⟨rfl, hb⟩
      have HB := hidE hb
      clear hb
      cases u with
      | true =>
        have HE : Hid (v = !z) := by
          show _ = _
          rw [HV.out, decide_eq_true h1, decide_eq_true (by omega : s.size ≥ 1)]; simp
        go_wp2_with fail
        refine (HI2.out _).mono ?_
        rintro e w2 ⟨rfl, rfl⟩
        by_cases hi : i < 0
        · have hz : z = false := HX.out.1 hi
          go_wp2_with fail
          go_ret
          rw [HE.out, hz]
          exact ⟨rfl, HB.out⟩
        · have hz : z = true := by
            cases hz : z with
            | true => rfl
            | false => exact absurd (HX.out.2 hz) hi
          go_wp2_with fail
          go_ret
          rw [HE.out, hz]
          refine ⟨?_, HB.out⟩
          show Ending.returned (.bool (decide (i < 0))) = _
          rw [decide_eq_false (by omega)]
          rfl
      | false =>
        have HE : Hid (v = false) := by show _ = _; rw [HV.out]; simp
        go_wp2_with fail
        go_ret
        rw [HE.out]
        exact ⟨rfl, HB.out⟩
    · have h1' : ¬ (s.size : Int) ≤ 64 := by omega
      have HE : Hid (v = false) := by show _ = _; rw [HV.out, decide_eq_false h1]; simp
      go_wp2_with fail
      go_ret
      rw [HE.out]
      exact ⟨rfl, Below.refl _ _⟩
end Go.Proofs.YthfilnflgahcjaaGreatDoor

namespace Go.Proofs.YthfilnflgahcjaaGreatDoor
open Go.RowKit Go.Shelf
set_option linter.unusedVariables false
set_option linter.unusedSimpArgs false
attribute [local go_sem] Oper.semAt_some
def hasB (k : Int) (es : List (Int × Value)) : Bool := es.any fun q => q.1 == k
theorem mi_look {t e : TypeId} {z : Value} (ht : Tryz.prog.underlying t = some (.map 2 e)) (hz : ∀ w, (zeroValue e).run Tryz.prog w = .ok z w) {w : World} {b : Nat} {es : List (Int × Value)} (h : MI w b es) (k : Int) (hk : I64 k) (hu : ∀ p ∈ es, ∀ q ∈ es, p.1 = q.1 → p.2 = q.2) :
    ∃ v, ((∃ q ∈ es, q.1 = k ∧ v = q.2) ∨ v = z) ∧ (Instr.lookup t (.map (some b)) (.int .i64 k) true).run Tryz.prog w = .ok (.tuple #[v, .bool (hasB k es)]) w := by
  by_cases hh : ∃ q ∈ es, q.1 = k
  · obtain ⟨q, hq, rfl⟩ := hh
    have hb : hasB q.1 es = true := List.any_eq_true.2 ⟨q, hq, by simp⟩
    refine ⟨q.2, Or.inl ⟨q, hq, rfl, rfl⟩, ?_⟩
    rw [hb]
    exact (mi_hit (z := z) ht h q.1 q.2 hk hq (fun p hp e => hu p hp q hq e)).1
  · have hb : hasB k es = false := by
      rw [hasB, List.any_eq_false]
      intro q hq
      simp only [beq_iff_eq]
      exact fun e => hh ⟨q, hq, e⟩
    refine ⟨z, Or.inr rfl, ?_⟩
    rw [hb]
    exact (mi_miss ht hz h k hk (fun p hp e => hh ⟨p, hp, e⟩)).1
end Go.Proofs.YthfilnflgahcjaaGreatDoor

