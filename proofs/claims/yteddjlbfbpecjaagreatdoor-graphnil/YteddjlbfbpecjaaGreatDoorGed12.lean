/- The texts of a list in order, and what hands them out, each once. -/
import Derived.Test.YteddjlbfbpecjaaGreatDoorGed11
import Derived.Test.YteddjlbfbpecjaaGreatDoorShelf4
import Derived.Sort.OwnSorted
namespace Go.Proofs.YteddjlbfbpecjaaGreatDoor
open Go.RowKit Go.Shelf Go.Sort
set_option linter.unusedVariables false
set_option linter.unusedSimpArgs false
attribute [local go_sem] Oper.semAt_some
/-- Texts in order, as rows of bytes, and as texts. -/
def sortL (ks : List ByteArray) : List (List UInt8) := (ks.map fun b => b.data.toList).mergeSort fun x y => decide (x ≤ y)
def sortB (ks : List ByteArray) : List ByteArray := (sortL ks).map fun l => ⟨l.toArray⟩
theorem sortL_len (ks : List ByteArray) : (sortL ks).length = ks.length := by simp [sortL]
theorem sortB_len (ks : List ByteArray) : (sortB ks).length = ks.length := by simp [sortB, sortL_len]
theorem strs_enc (ks : List ByteArray) : ks.map Value.string = (ks.map fun b => b.data.toList).map encStr := by simp [encStr, Function.comp_def]
theorem sortB_enc (ks : List ByteArray) : (sortL ks).map encStr = (sortB ks).map Value.string := by simp [sortB, encStr, Function.comp_def]
set_option maxRecDepth 100000 in
set_option maxHeartbeats 2000000 in
theorem sortedS_any (ks : List ByteArray) (hks : ks.length ≤ 100000000) (a : Option Addr) (cap Bs : Nat) (w : World) (hBs : Boxed w Bs 44 (.slice a ks.length cap)) (hcap : ks.length ≤ cap) (hat : TextsIn w.heap.size w a ks) :
    Calls Tryz.prog 136 #[.func (.func 176) #[] #[.pointer (some ⟨Bs, 0, none⟩)]] w fun e w' => ∃ v, e = .returned v ∧ w'.ownsRow w.heap.size 9 1 v ks.length ((sortB ks).map Value.string) ∧ RowKit.Below w.heap.size w w' := by
  have HC := hidE (collectS_any ks hks a cap Bs w hBs hcap hat)
  clear hBs hcap hat
  go_enter Tryz.func136, Tryz.ntmps136
  go_wp2_with fail
  refine HC.out.mono ?_
  rintro e w2 ⟨v, rfl, ho, hb⟩
  have HO := hidE ho
  have HB := hidE hb
  clear HC hb
  rcases ho.2 with ⟨rfl, hz⟩ | ⟨gb, gc, cur, rfl, hbase, hgb, r1, r2, r3, r4⟩
  · have e0 : ks = [] := List.eq_nil_of_length_eq_zero hz
    have HS := hidE (Tryz.slices_Sort_string_none none 0 w2)
    clear ho hz
    go_wp2_with fail
    refine HS.out.mono ?_
    rintro e w3 ⟨rfl, hw3⟩
    rw [hw3]
    clear hw3
    go_wp2_with fail
    go_ret
    refine ⟨_, rfl, ?_, HB.out⟩
    subst e0
    simpa [sortB, sortL] using HO.out
  · have hl : (ks.map fun b => b.data.toList).length = ks.length := by simp
    have hH : Holds encStr w2 gb 0 (ks.map fun b => b.data.toList).toArray := holds_of_block hgb (by rw [hl, ← strs_enc]; simpa using r4)
    have hgl : gb < w2.heap.size := (Array.getElem?_eq_some_iff.1 hgb).1
    have hsz : (ks.map fun b => b.data.toList).length < 4611686018427387904 := by rw [hl]; omega
    have HS := hidE (Tryz.slices_Sort_string gb 0 gc (ks.map fun b => b.data.toList) w2 hH hgl hsz)
    rw [hl] at HS
    have HBL := hidE hgb
    have HR := hidE (And.intro r1 (And.intro r2 r3))
    have HBS := hidE hbase
    clear ho hgb r1 r2 r3 r4 hH hsz hl hbase
    go_wp2_with fail
    refine HS.out.mono ?_
    rintro e w3 ⟨rfl, nn, os, hw3⟩
    have HO3 : Hid (w3.ownsRow w.heap.size 9 1 (.slice (some ⟨gb, 0, none⟩) ks.length gc) ks.length ((sortL ks).map encStr)) := by
      show World.ownsRow _ _ _ _ _ _ _
      rw [hw3]
      have h := ownsRow_sorted (w := w2) (base := w.heap.size) (g := gb) (cap := gc) (n := nn) (e := 9) (os := os) (cur := cur) (ss := ks.map fun b => b.data.toList) (ts := sortL ks) (by simp [sortL]) HBS.out HBL.out (by simpa using HR.out.1) HR.out.2.1 HR.out.2.2
      simp only [List.length_map] at h
      exact h
    have HB3 : Hid (RowKit.Below w.heap.size w w3) := by
      rw [hw3]
      exact HB.out.grown (grownBy_sorted _) HB.out.size (fun j hj => by cases hj; exact HBS.out)
    clear hw3 HBL HR HO HB HS
    go_wp2_with fail
    go_ret
    refine ⟨_, rfl, ?_, HB3.out⟩
    rw [← sortB_enc]
    exact HO3.out
set_option maxRecDepth 100000 in
set_option maxHeartbeats 2000000 in
theorem eachOnce_any (ks : List ByteArray) (hks : ks.length ≤ 100000000) (a : Option Addr) (cap : Nat) (w : World) (hcap : ks.length ≤ cap) (hat : TextsIn w.heap.size w a ks) :
    Calls Tryz.prog 89 #[.slice a ks.length cap] w fun e w' => ∃ g, e = .returned (.func (.func 138) #[] #[.pointer (some ⟨g, 0, none⟩)]) ∧ w.heap.size ≤ g ∧ Rest w' w.heap.size g w' (sortB ks) ∧ g + 1 = w'.heap.size ∧ RowKit.Below w.heap.size w w' := by
  have HV := hidE (valuesS_any a ks.length cap w)
  have hB0 : RowKit.Below w.heap.size w (w.alloc (.cells #[.slice a ks.length cap] 44)) := (RowKit.Below.refl _ _).alloc (Nat.le_refl _) _
  have HS := hidE (sortedS_any ks hks a cap w.heap.size (w.alloc (.cells #[.slice a ks.length cap] 44)) (World.alloc_heap_new _ _) hcap ((hat.below hB0).mono hB0.size))
  have HB0 := hidE hB0
  have hsl := sortB_len ks
  obtain ⟨n, hn⟩ : ∃ n, ks.length = n := ⟨_, rfl⟩
  rw [hn] at HV HS hsl HB0 ⊢
  have HN := hidE hn
  have HSL := hidE hsl
  clear hat hB0 hn hsl hks hcap
  go_enter Tryz.func89, Tryz.ntmps89
  go_wp2_with fail
  refine HV.out.mono ?_
  rintro e w1 ⟨rfl, hw1⟩
  have HS1 : Hid (Calls Tryz.prog 136 #[.func (.func 176) #[] #[.pointer (some ⟨w.heap.size, 0, none⟩)]] w1 fun e w' => ∃ v, e = .returned v ∧ w'.ownsRow w1.heap.size 9 1 v n ((sortB ks).map Value.string) ∧ RowKit.Below w1.heap.size w1 w') := by rw [hw1]; exact HS.out
  have HB1 : Hid (RowKit.Below w.heap.size w w1) := by rw [hw1]; exact HB0.out
  clear hw1 HS HB0 HV
  go_wp2_with fail
  refine HS1.out.mono ?_
  rintro e w2 ⟨v, rfl, ho, hb2⟩
  have HB2 := hidE (below_on HB1.out hb2)
  obtain ⟨ua, uc, rfl⟩ := row_slice ho
  have HO2 := hidE ho
  clear ho hb2 HS1
  go_upto_region 2 with fail
  obtain ⟨W3, hW3⟩ : ∃ W3, w2.alloc (.cells #[.slice ua n uc] 44) = W3 := ⟨_, rfl⟩
  rw [hW3]
  have HB3 : Hid (RowKit.Below w2.heap.size w2 W3) := by rw [← hW3]; exact (RowKit.Below.refl _ _).alloc (Nat.le_refl _) _
  have HR3 : Hid (Rec W3 w2.heap.size #[.slice ua n uc] 44) := by rw [← hW3]; exact rec_new w2 #[.slice ua n uc] 44
  have hz3 : w2.heap.size + 1 = W3.heap.size := by rw [← hW3]; simp
  have HZ3 := hidE hz3
  clear hW3 hz3
  go_wp2_with fail
  go_ret
  refine ⟨_, rfl, HB2.out.size, ⟨?_, rfl, fun _ _ => rfl, RowKit.Below.refl _ _⟩, HZ3.out, below_on HB2.out HB3.out⟩
  rcases HO2.out.2 with ⟨h1, h2⟩ | ⟨gb, gc, cur, h1, hbase, hgb, r1, r2, r3, r4⟩
  · have e0 : sortB ks = [] := List.eq_nil_of_length_eq_zero (by rw [HSL.out]; exact h2)
    injection h1 with e1 e2 e3
    rw [e0]
    subst e2
    exact ⟨ua, uc, HR3.out, .inl rfl, Nat.zero_le _, by rw [e3]; decide⟩
  · have h1' := h1
    injection h1 with e1 e2 e3
    subst e1 e3
    rw [HSL.out]
    have hgl : gb < w2.heap.size := (Array.getElem?_eq_some_iff.1 hgb).1
    refine ⟨_, uc, HR3.out, .inr ⟨gb, 0, rfl, ⟨Nat.le_trans HB1.out.size hbase, hgl⟩, fun i x hx => ?_⟩, r1, by unfold maxLen at r2; omega⟩
    have hc := HO2.out.cells (g := gb) rfl i (.string x) (by rw [List.getElem?_map, hx]; rfl)
    have hadd : (⟨gb, 0, none⟩ : Addr).add i = ⟨gb, i, none⟩ := by unfold Addr.add; split <;> simp_all
    rw [hadd] at hc
    rw [Nat.zero_add]
    exact (HB3.out.cell (p := ⟨gb, i, none⟩) hgl).trans hc
end Go.Proofs.YteddjlbfbpecjaaGreatDoor
