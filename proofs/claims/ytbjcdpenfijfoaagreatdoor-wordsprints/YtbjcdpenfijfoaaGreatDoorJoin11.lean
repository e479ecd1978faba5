/- The document's signs. The document's own: which keys bear no signs. -/
import Derived.Test.YtbjcdpenfijfoaaGreatDoorRtxt
import Derived.Test.YtbjcdpenfijfoaaGreatDoorSign
import Derived.Test.YtbjcdpenfijfoaaGreatDoorRnum
import Derived.Test.YtbjcdpenfijfoaaGreatDoorPspell
namespace Go.Proofs.YtbjcdpenfijfoaaGreatDoor
open Go.RowKit Go.Shelf Go.Lexed
open Go.Lib (byteCells byteCells_length)
set_option linter.unusedVariables false
set_option linter.unusedSimpArgs false
attribute [local go_sem] Oper.semAt_some
def sgL : List ByteArray := [⟨#[60, 62]⟩, ⟨#[60, 61]⟩, ⟨#[62, 61]⟩, ⟨#[40]⟩, ⟨#[41]⟩, ⟨#[91]⟩, ⟨#[93]⟩, ⟨#[123]⟩, ⟨#[125]⟩, ⟨#[44]⟩, ⟨#[46]⟩, ⟨#[58]⟩, ⟨#[124]⟩, ⟨#[61]⟩, ⟨#[60]⟩, ⟨#[62]⟩, ⟨#[43]⟩, ⟨#[45]⟩, ⟨#[42]⟩, ⟨#[47]⟩, ⟨#[37]⟩, ⟨#[36]⟩]
/-- The table of the signs lies at a place. -/
def SignsAt (w : World) (p : Nat) : Prop := ∀ (q : Nat) (K : ByteArray), sgL[q]? = some K → w.cell? ⟨p, q, none⟩ = some (.string K)
set_option maxRecDepth 100000 in
theorem rsigns_any (w : World) : Calls Tryz.prog 58 #[] w fun e w' => e = .returned (.slice (some ⟨w.heap.size, 0, none⟩) 22 22) ∧ Below w.heap.size w w' ∧ w.heap.size < w'.heap.size ∧ SignsAt w' w.heap.size := by
  go_enter Tryz.func58, Tryz.ntmps58
  go_wp2_with fail
  generalize hW1 : World.alloc _ _ = W1
  have HB1 : Hid (Below w.heap.size w W1) := by rw [← hW1]; exact (Below.refl _ _).alloc (Nat.le_refl _) _
  have HT : Hid (SignsAt W1 w.heap.size) := by
    intro q K hq
    rw [← hW1]
    refine cell_new _ _ _ _ _ ?_
    have : (sgL.map Value.string).toArray[q]? = some (.string K) := by rw [List.getElem?_toArray, List.getElem?_map, hq]; rfl
    exact this
  clear hW1
  go_ret
  exact ⟨rfl, HB1.out, lt_of_cell (HT.out 0 _ rfl), HT.out⟩
def sg2 : List ByteArray := [⟨#[60, 62]⟩, ⟨#[60, 61]⟩, ⟨#[62, 61]⟩]
def sg1 : List ByteArray := [⟨#[40]⟩, ⟨#[41]⟩, ⟨#[91]⟩, ⟨#[93]⟩, ⟨#[123]⟩, ⟨#[125]⟩, ⟨#[44]⟩, ⟨#[46]⟩, ⟨#[58]⟩, ⟨#[124]⟩, ⟨#[61]⟩, ⟨#[60]⟩, ⟨#[62]⟩, ⟨#[43]⟩, ⟨#[45]⟩, ⟨#[42]⟩, ⟨#[47]⟩, ⟨#[37]⟩, ⟨#[36]⟩]
def begins (l : List UInt8) (K : ByteArray) : Bool := K.data.toList.isPrefixOf l
set_option maxRecDepth 100000 in
theorem one_first (a : UInt8) : (sg1.find? (begins [a])) = if oneB a then some ⟨#[a]⟩ else none := by
  refine all_bytes (p := fun a => (sg1.find? (begins [a])) = if oneB a then some ⟨#[a]⟩ else none) ?_ a
  decide +kernel
theorem one_more (a : UInt8) (l : List UInt8) : sg1.find? (begins (a :: l)) = sg1.find? (begins [a]) := by
  have h : ∀ K ∈ sg1, begins (a :: l) K = begins [a] K := by
    intro K hK
    simp only [sg1, List.mem_cons, List.not_mem_nil, or_false] at hK
    rcases hK with rfl | rfl | rfl | rfl | rfl | rfl | rfl | rfl | rfl | rfl | rfl | rfl | rfl | rfl | rfl | rfl | rfl | rfl | rfl <;> simp [begins, List.isPrefixOf]
  generalize sg1 = L at h
  induction L with
  | nil => rfl
  | cons K L ih => rw [List.find?_cons, List.find?_cons, h K (by simp), ih fun K' hK => h K' (by simp [hK])]
theorem two_none {a b : UInt8} (l : List UInt8) (h : twoB a b = false) : sg2.find? (begins (a :: b :: l)) = none := by
  rw [List.find?_eq_none]
  intro K hK hp
  have hp' : begins (a :: b :: l) K = true := hp
  simp only [sg2, List.mem_cons, List.not_mem_nil, or_false] at hK
  unfold twoB at h
  rcases hK with rfl | rfl | rfl <;>
  · simp only [begins, List.isPrefixOf, Bool.and_true, Bool.and_eq_true, beq_iff_eq] at hp'
    obtain ⟨rfl, rfl⟩ := hp'
    simp at h
/-- The first sign that a text begins with. -/
theorem sign_first (l : List UInt8) : signB l = (sgL.find? (begins l)).map fun K => (⟨5, K.data.toList, 0⟩, l.drop K.size) := by
  have e : sgL = sg2 ++ sg1 := rfl
  rw [e, List.find?_append]
  match l with
  | [] => rfl
  | [a] =>
    have h2 : sg2.find? (begins [a]) = none := by
      rw [List.find?_eq_none]
      intro K hK hp
      have hp' : begins [a] K = true := hp
      simp only [sg2, List.mem_cons, List.not_mem_nil, or_false] at hK
      rcases hK with rfl | rfl | rfl <;> simp [begins, List.isPrefixOf] at hp'
    rw [h2, one_first, signB]
    cases oneB a <;> rfl
  | a :: b :: r =>
    by_cases ht : twoB a b = true
    · have hab : (a = 60 ∧ b = 62) ∨ (a = 60 ∧ b = 61) ∨ (a = 62 ∧ b = 61) := by
        simpa [twoB, or_assoc] using ht
      rcases hab with ⟨rfl, rfl⟩ | ⟨rfl, rfl⟩ | ⟨rfl, rfl⟩ <;> rfl
    · have ht' : twoB a b = false := by simpa using ht
      rw [two_none r ht', one_more, one_first, signB]
      simp only [ht']
      cases oneB a <;> rfl
/-- .. told one by one. -/
theorem find_step {L : List ByteArray} {p : ByteArray → Bool} {q : Nat} {K : ByteArray} (h : L[q]? = some K) : (L.drop q).find? p = if p K = true then some K else (L.drop (q + 1)).find? p := by
  have hq := (List.getElem?_eq_some_iff.1 h).1
  have hK := (List.getElem?_eq_some_iff.1 h).2
  rw [List.drop_eq_getElem_cons hq, List.find?_cons, hK]
  cases p K <;> rfl
end Go.Proofs.YtbjcdpenfijfoaaGreatDoor

namespace Go.Proofs.YtbjcdpenfijfoaaGreatDoor
open Go.RowKit Go.Shelf
set_option linter.unusedVariables false

set_option maxHeartbeats 2000000 in
theorem refPlain_any (s : ByteArray) (hs : s.size ≤ maxLen) (w : World) : Calls Tryz.prog 49 #[.string s] w fun e w' => e = .returned (.bool (vbareB s)) ∧ w' = w := by
  unfold maxLen at hs
  go_enter Tryz.func49, Tryz.ntmps49
  go_wp2_with fail
  go_loopw [3] (fun i wr => ∃ j : Nat, j ≤ s.size ∧ i = .int .i64 j ∧ wr = w ∧ (List.range j).all (vbareAt s) = true) (fun i _ => s.size - (intOf i).toNat)
  case atStart => exact ⟨0, Nat.zero_le _, rfl, rfl, rfl⟩
  case round =>
    obtain ⟨j, hj, rfl, rfl, hno⟩ := hrel
    have HNO := hidE hno
    clear hno
    by_cases hlt : j < s.size
    · have hb : s[j] = s.get! j := by simp [ByteArray.get!, ByteArray.getElem_eq_getElem_data, hlt]
      obtain ⟨m, hm⟩ : ∃ m, (s.get! j).toNat = m := ⟨_, rfl⟩
      have hbm : (s[j]).toNat = m := by rw [hb]; exact hm
      have HAT : Hid (vbareAt s j = (vletB m || (decide (0 < j) && (decide (48 ≤ m) && decide (m ≤ 57))))) := by show _ = _; unfold vbareAt; rw [hm]
      clear hb hm
      go_upto_region 5 with fail
      clear hbm
      by_cases h97 : 97 ≤ m
      · have a97 : (97 : Int) ≤ m := by omega
        by_cases h122 : m ≤ 122
        · have a122 : (m : Int) ≤ 122 := by omega
          have HL : Hid (vletB m = true) := by show _ = _; simp [vletB, h97, h122]
          go_wp2_with fail
          go_roundw
          case rel => exact ⟨j + 1, by omega, by go_num, trivial, vbare_step HNO.out (by rw [HAT.out, HL.out]; rfl)⟩
          case measure => simp [intOf]; omega
        · have a122 : ¬ (m : Int) ≤ 122 := by omega
          have a65 : (65 : Int) ≤ m := by omega
          have a90 : ¬ (m : Int) ≤ 90 := by omega
          have a95 : ((m : Int) == 95) = false := by simp; omega
          have a48 : ¬ (m : Int) < 48 := by omega
          have a57 : (57 : Int) < m := by omega
          have HR : Hid (vbareB s = false) := vbare_not hlt (by rw [HAT.out]; simp [vletB]; omega)
          by_cases h0 : j = 0
          · have h0' : ((j : Int) == 0) = true := by simp [h0]
            go_wp2_with fail
            go_ret
            exact ⟨by rw [HR.out]; rfl, rfl⟩
          · have h0' : ((j : Int) == 0) = false := by simp [h0]
            go_wp2_with fail
            go_ret
            exact ⟨by rw [HR.out]; rfl, rfl⟩
      · have a97 : ¬ (97 : Int) ≤ m := by omega
        by_cases h65 : 65 ≤ m
        · have a65 : (65 : Int) ≤ m := by omega
          by_cases h90 : m ≤ 90
          · have a90 : (m : Int) ≤ 90 := by omega
            have HL : Hid (vletB m = true) := by show _ = _; simp [vletB, h65, h90]
            go_wp2_with fail
            go_roundw
            case rel => exact ⟨j + 1, by omega, by go_num, trivial, vbare_step HNO.out (by rw [HAT.out, HL.out]; rfl)⟩
            case measure => simp [intOf]; omega
          · have a90 : ¬ (m : Int) ≤ 90 := by omega
            by_cases h95 : m = 95
            · subst h95
              go_wp2_with fail
              go_roundw
              case rel => exact ⟨j + 1, by omega, by go_num, trivial, vbare_step HNO.out (by rw [HAT.out]; rfl)⟩
              case measure => simp [intOf]; omega
            · have a95 : ((m : Int) == 95) = false := by simp; omega
              have a48 : ¬ (m : Int) < 48 := by omega
              have a57 : (57 : Int) < m := by omega
              have HR : Hid (vbareB s = false) := vbare_not hlt (by rw [HAT.out]; simp [vletB]; omega)
              by_cases h0 : j = 0
              · have h0' : ((j : Int) == 0) = true := by simp [h0]
                go_wp2_with fail
                go_ret
                exact ⟨by rw [HR.out]; rfl, rfl⟩
              · have h0' : ((j : Int) == 0) = false := by simp [h0]
                go_wp2_with fail
                go_ret
                exact ⟨by rw [HR.out]; rfl, rfl⟩
        · have a65 : ¬ (65 : Int) ≤ m := by omega
          have a95 : ((m : Int) == 95) = false := by simp; omega
          by_cases h0 : j = 0
          · have h0' : ((j : Int) == 0) = true := by simp [h0]
            have HR : Hid (vbareB s = false) := vbare_not hlt (by rw [HAT.out]; simp [vletB]; omega)
            go_wp2_with fail
            go_ret
            exact ⟨by rw [HR.out]; rfl, rfl⟩
          · have h0' : ((j : Int) == 0) = false := by simp [h0]
            by_cases h48 : m < 48
            · have a48 : (m : Int) < 48 := by omega
              have HR : Hid (vbareB s = false) := vbare_not hlt (by rw [HAT.out]; simp [vletB]; omega)
              go_wp2_with fail
              go_ret
              exact ⟨by rw [HR.out]; rfl, rfl⟩
            · have a48 : ¬ (m : Int) < 48 := by omega
              by_cases h57 : 57 < m
              · have a57 : (57 : Int) < m := by omega
                have HR : Hid (vbareB s = false) := vbare_not hlt (by rw [HAT.out]; simp [vletB]; omega)
                go_wp2_with fail
                go_ret
                exact ⟨by rw [HR.out]; rfl, rfl⟩
              · have a57 : ¬ (57 : Int) < m := by omega
                go_wp2_with fail
                go_roundw
                case rel => exact ⟨j + 1, by omega, by go_num, trivial, vbare_step HNO.out (by rw [HAT.out]; simp [vletB]; omega)⟩
                case measure => simp [intOf]; omega
    · have hjs : j = s.size := by omega
      go_wp2_with fail
      go_ret
      refine ⟨congrArg (fun b => Ending.returned (.bool b)) (?_ : (!s.toList.isEmpty) = vbareB s), rfl⟩
      have hn := HNO.out
      rw [hjs] at hn
      unfold vbareB
      rw [hn, ByteArray.toList_eq, Bool.true_and, Bool.eq_iff_iff]
      have hz : s.size = s.data.toList.length := rfl
      rw [hz]
      cases s.data.toList <;> simp
end Go.Proofs.YtbjcdpenfijfoaaGreatDoor

