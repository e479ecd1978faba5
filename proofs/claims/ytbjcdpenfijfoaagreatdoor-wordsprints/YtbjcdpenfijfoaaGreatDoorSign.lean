/- Signs, as the program asks for them. -/
import Derived.Test.YtbjcdpenfijfoaaGreatDoorNote
namespace Go.Proofs.YtbjcdpenfijfoaaGreatDoor
open Go.RowKit Go.Shelf Go.Lexed
set_option linter.unusedVariables false
set_option linter.unusedSimpArgs false
theorem not_text {s : ByteArray} {l : List UInt8} (h : s.data.toList ≠ l) : (s.toList == l) = false := by
  rw [ByteArray.toList_eq]; exact beq_eq_false_iff_ne.2 h
theorem is_text {s : ByteArray} {l : List UInt8} (h : s.data.toList = l) : s = bsOf l := by rw [← h, of_bs]
/-- All signs. -/
def signsL : List (List UInt8) := [[40], [41], [91], [93], [123], [125], [44], [46], [58], [124], [61], [60, 62], [60], [60, 61], [62], [62, 61], [43], [45], [42], [47], [37], [36]]
set_option maxRecDepth 20000 in
theorem one_sign (a : UInt8) : oneB a = true → [a] ∈ signsL := by
  refine all_bytes (p := fun a => oneB a = true → [a] ∈ signsL) ?_ a
  decide
theorem sign_mem {l : List UInt8} (h : signOk l = true) : l ∈ signsL := by
  match l, h with
  | [a], h => exact one_sign a h
  | [a, b], h =>
    have h' : a = 60 ∧ b = 62 ∨ a = 60 ∧ b = 61 ∨ a = 62 ∧ b = 61 := by simpa [signOk, twoB, or_assoc] using h
    rcases h' with ⟨rfl, rfl⟩ | ⟨rfl, rfl⟩ | ⟨rfl, rfl⟩ <;> decide
theorem mem_sign : ∀ l ∈ signsL, signOk l = true := by decide
set_option maxHeartbeats 2000000 in
theorem sign_no (s : ByteArray) (w : World) (h : signOk s.data.toList = false) : Calls Tryz.prog 59 #[.string s] w fun e w' => e = .returned (.bool false) ∧ w' = w := by
  have hn : ∀ l ∈ signsL, s.data.toList ≠ l := fun l hl e => by
    rw [e, mem_sign l hl] at h; cases h
  have n0 := not_text (hn [40] (by decide))
  have n1 := not_text (hn [41] (by decide))
  have n2 := not_text (hn [91] (by decide))
  have n3 := not_text (hn [93] (by decide))
  have n4 := not_text (hn [123] (by decide))
  have n5 := not_text (hn [125] (by decide))
  have n6 := not_text (hn [44] (by decide))
  have n7 := not_text (hn [46] (by decide))
  have n8 := not_text (hn [58] (by decide))
  have n9 := not_text (hn [124] (by decide))
  have n10 := not_text (hn [61] (by decide))
  have n11 := not_text (hn [60, 62] (by decide))
  have n12 := not_text (hn [60] (by decide))
  have n13 := not_text (hn [60, 61] (by decide))
  have n14 := not_text (hn [62] (by decide))
  have n15 := not_text (hn [62, 61] (by decide))
  have n16 := not_text (hn [43] (by decide))
  have n17 := not_text (hn [45] (by decide))
  have n18 := not_text (hn [42] (by decide))
  have n19 := not_text (hn [47] (by decide))
  have n20 := not_text (hn [37] (by decide))
  have n21 := not_text (hn [36] (by decide))
  clear hn h
  go_enter Tryz.func59, Tryz.ntmps59
  go_wp2_with fail
  go_ret
  exact ⟨rfl, rfl⟩
theorem sign_0 (w : World) : Calls Tryz.prog 59 #[.string ⟨#[40]⟩] w fun e w' => e = .returned (.bool true) ∧ w' = w := by
  go_enter Tryz.func59, Tryz.ntmps59
  go_wp2_with fail
  go_ret
  exact ⟨rfl, rfl⟩
theorem sign_1 (w : World) : Calls Tryz.prog 59 #[.string ⟨#[41]⟩] w fun e w' => e = .returned (.bool true) ∧ w' = w := by
  go_enter Tryz.func59, Tryz.ntmps59
  go_wp2_with fail
  go_ret
  exact ⟨rfl, rfl⟩
theorem sign_2 (w : World) : Calls Tryz.prog 59 #[.string ⟨#[91]⟩] w fun e w' => e = .returned (.bool true) ∧ w' = w := by
  go_enter Tryz.func59, Tryz.ntmps59
  go_wp2_with fail
  go_ret
  exact ⟨rfl, rfl⟩
theorem sign_3 (w : World) : Calls Tryz.prog 59 #[.string ⟨#[93]⟩] w fun e w' => e = .returned (.bool true) ∧ w' = w := by
  go_enter Tryz.func59, Tryz.ntmps59
  go_wp2_with fail
  go_ret
  exact ⟨rfl, rfl⟩
theorem sign_4 (w : World) : Calls Tryz.prog 59 #[.string ⟨#[123]⟩] w fun e w' => e = .returned (.bool true) ∧ w' = w := by
  go_enter Tryz.func59, Tryz.ntmps59
  go_wp2_with fail
  go_ret
  exact ⟨rfl, rfl⟩
theorem sign_5 (w : World) : Calls Tryz.prog 59 #[.string ⟨#[125]⟩] w fun e w' => e = .returned (.bool true) ∧ w' = w := by
  go_enter Tryz.func59, Tryz.ntmps59
  go_wp2_with fail
  go_ret
  exact ⟨rfl, rfl⟩
theorem sign_6 (w : World) : Calls Tryz.prog 59 #[.string ⟨#[44]⟩] w fun e w' => e = .returned (.bool true) ∧ w' = w := by
  go_enter Tryz.func59, Tryz.ntmps59
  go_wp2_with fail
  go_ret
  exact ⟨rfl, rfl⟩
theorem sign_7 (w : World) : Calls Tryz.prog 59 #[.string ⟨#[46]⟩] w fun e w' => e = .returned (.bool true) ∧ w' = w := by
  go_enter Tryz.func59, Tryz.ntmps59
  go_wp2_with fail
  go_ret
  exact ⟨rfl, rfl⟩
theorem sign_8 (w : World) : Calls Tryz.prog 59 #[.string ⟨#[58]⟩] w fun e w' => e = .returned (.bool true) ∧ w' = w := by
  go_enter Tryz.func59, Tryz.ntmps59
  go_wp2_with fail
  go_ret
  exact ⟨rfl, rfl⟩
theorem sign_9 (w : World) : Calls Tryz.prog 59 #[.string ⟨#[124]⟩] w fun e w' => e = .returned (.bool true) ∧ w' = w := by
  go_enter Tryz.func59, Tryz.ntmps59
  go_wp2_with fail
  go_ret
  exact ⟨rfl, rfl⟩
theorem sign_10 (w : World) : Calls Tryz.prog 59 #[.string ⟨#[61]⟩] w fun e w' => e = .returned (.bool true) ∧ w' = w := by
  go_enter Tryz.func59, Tryz.ntmps59
  go_wp2_with fail
  go_ret
  exact ⟨rfl, rfl⟩
theorem sign_11 (w : World) : Calls Tryz.prog 59 #[.string ⟨#[60, 62]⟩] w fun e w' => e = .returned (.bool true) ∧ w' = w := by
  go_enter Tryz.func59, Tryz.ntmps59
  go_wp2_with fail
  go_ret
  exact ⟨rfl, rfl⟩
theorem sign_12 (w : World) : Calls Tryz.prog 59 #[.string ⟨#[60]⟩] w fun e w' => e = .returned (.bool true) ∧ w' = w := by
  go_enter Tryz.func59, Tryz.ntmps59
  go_wp2_with fail
  go_ret
  exact ⟨rfl, rfl⟩
theorem sign_13 (w : World) : Calls Tryz.prog 59 #[.string ⟨#[60, 61]⟩] w fun e w' => e = .returned (.bool true) ∧ w' = w := by
  go_enter Tryz.func59, Tryz.ntmps59
  go_wp2_with fail
  go_ret
  exact ⟨rfl, rfl⟩
theorem sign_14 (w : World) : Calls Tryz.prog 59 #[.string ⟨#[62]⟩] w fun e w' => e = .returned (.bool true) ∧ w' = w := by
  go_enter Tryz.func59, Tryz.ntmps59
  go_wp2_with fail
  go_ret
  exact ⟨rfl, rfl⟩
theorem sign_15 (w : World) : Calls Tryz.prog 59 #[.string ⟨#[62, 61]⟩] w fun e w' => e = .returned (.bool true) ∧ w' = w := by
  go_enter Tryz.func59, Tryz.ntmps59
  go_wp2_with fail
  go_ret
  exact ⟨rfl, rfl⟩
theorem sign_16 (w : World) : Calls Tryz.prog 59 #[.string ⟨#[43]⟩] w fun e w' => e = .returned (.bool true) ∧ w' = w := by
  go_enter Tryz.func59, Tryz.ntmps59
  go_wp2_with fail
  go_ret
  exact ⟨rfl, rfl⟩
theorem sign_17 (w : World) : Calls Tryz.prog 59 #[.string ⟨#[45]⟩] w fun e w' => e = .returned (.bool true) ∧ w' = w := by
  go_enter Tryz.func59, Tryz.ntmps59
  go_wp2_with fail
  go_ret
  exact ⟨rfl, rfl⟩
theorem sign_18 (w : World) : Calls Tryz.prog 59 #[.string ⟨#[42]⟩] w fun e w' => e = .returned (.bool true) ∧ w' = w := by
  go_enter Tryz.func59, Tryz.ntmps59
  go_wp2_with fail
  go_ret
  exact ⟨rfl, rfl⟩
theorem sign_19 (w : World) : Calls Tryz.prog 59 #[.string ⟨#[47]⟩] w fun e w' => e = .returned (.bool true) ∧ w' = w := by
  go_enter Tryz.func59, Tryz.ntmps59
  go_wp2_with fail
  go_ret
  exact ⟨rfl, rfl⟩
theorem sign_20 (w : World) : Calls Tryz.prog 59 #[.string ⟨#[37]⟩] w fun e w' => e = .returned (.bool true) ∧ w' = w := by
  go_enter Tryz.func59, Tryz.ntmps59
  go_wp2_with fail
  go_ret
  exact ⟨rfl, rfl⟩
theorem sign_21 (w : World) : Calls Tryz.prog 59 #[.string ⟨#[36]⟩] w fun e w' => e = .returned (.bool true) ∧ w' = w := by
  go_enter Tryz.func59, Tryz.ntmps59
  go_wp2_with fail
  go_ret
  exact ⟨rfl, rfl⟩
theorem sign_any (s : ByteArray) (w : World) : Calls Tryz.prog 59 #[.string s] w fun e w' => e = .returned (.bool (signOk s.data.toList)) ∧ w' = w := by
  cases h : signOk s.data.toList with
  | false => exact sign_no s w h
  | true =>
    have hm := sign_mem h
    simp only [signsL, List.mem_cons, List.not_mem_nil, or_false] at hm
    rcases hm with h | h | h | h | h | h | h | h | h | h | h | h | h | h | h | h | h | h | h | h | h | h
    · rw [is_text h]; exact sign_0 w
    · rw [is_text h]; exact sign_1 w
    · rw [is_text h]; exact sign_2 w
    · rw [is_text h]; exact sign_3 w
    · rw [is_text h]; exact sign_4 w
    · rw [is_text h]; exact sign_5 w
    · rw [is_text h]; exact sign_6 w
    · rw [is_text h]; exact sign_7 w
    · rw [is_text h]; exact sign_8 w
    · rw [is_text h]; exact sign_9 w
    · rw [is_text h]; exact sign_10 w
    · rw [is_text h]; exact sign_11 w
    · rw [is_text h]; exact sign_12 w
    · rw [is_text h]; exact sign_13 w
    · rw [is_text h]; exact sign_14 w
    · rw [is_text h]; exact sign_15 w
    · rw [is_text h]; exact sign_16 w
    · rw [is_text h]; exact sign_17 w
    · rw [is_text h]; exact sign_18 w
    · rw [is_text h]; exact sign_19 w
    · rw [is_text h]; exact sign_20 w
    · rw [is_text h]; exact sign_21 w
end Go.Proofs.YtbjcdpenfijfoaaGreatDoor
