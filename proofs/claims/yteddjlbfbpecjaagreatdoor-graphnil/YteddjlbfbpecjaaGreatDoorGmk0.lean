/- A graph of nothing: it may be, and is made. -/
import Derived.Test.YteddjlbfbpecjaaGreatDoorNoth
namespace Go.Proofs.YteddjlbfbpecjaaGreatDoor
open Go.RowKit Go.Shelf
set_option linter.unusedVariables false
set_option linter.unusedSimpArgs false
attribute [local go_sem] Oper.semAt_some
def ZG : Array Value := #[.slice none 0 0, .slice none 0 0, .int .i64 0, .int .i64 0]
/-- A box that holds a graph of nothing. -/
theorem box_zg {w W1 : World} (h : w.alloc (.cells #[.slice none 0 0, .slice none 0 0, .int .i64 0, .int .i64 0] 25) = W1) : Below w.heap.size w W1 ∧ W1.cell? ⟨w.heap.size, 0, none⟩ = some (.slice none 0 0) ∧ W1.cell? ⟨w.heap.size, 1, none⟩ = some (.slice none 0 0) ∧ W1.cell? ⟨w.heap.size, 2, none⟩ = some (.int .i64 0) ∧ W1.cell? ⟨w.heap.size, 3, none⟩ = some (.int .i64 0) := by
  subst h
  exact ⟨(Below.refl _ _).alloc (Nat.le_refl _) _, cell_new _ _ _ _ _ rfl, cell_new _ _ _ _ _ rfl, cell_new _ _ _ _ _ rfl, cell_new _ _ _ _ _ rfl⟩
set_option maxRecDepth 100000 in
theorem few_zero (w : World) : Calls Tryz.prog 93 #[.agg #[.slice none 0 0, .slice none 0 0, .int .i64 0, .int .i64 0]] w fun e w' => e = .returned (.bool true) ∧ Below w.heap.size w w' := by
  go_enter Tryz.func93, Tryz.ntmps93
  go_upto_region 1 with fail
  generalize hW1 : World.alloc _ _ = W1
  obtain ⟨hb, a0, a1, a2, a3⟩ := box_zg hW1
  have HB1 := hidE hb
  clear hb hW1
  go_wp2_with fail
  go_ret
  exact ⟨rfl, HB1.out⟩
set_option maxRecDepth 100000 in
theorem rising_n (f : Value) (w : World) : Calls Tryz.prog 142 #[.slice none 0 0, f, .int .i64 0] w fun e w' => e = .returned (.bool true) ∧ w' = w := by
  go_enter Tryz.func142, Tryz.ntmps142
  go_wp2_with fail
  go_loopw [13] (fun x wz0 => x = .int .i64 0 ∧ wz0 = w) (fun _ _ => 0)
  case atStart => exact ⟨rfl, rfl⟩
  case round =>
    obtain ⟨rfl, hw0⟩ := hrel
    have HW0 := hidE hw0
    rw [hw0]
    clear hw0
    go_wp2_with fail
    go_ret
    exact ⟨rfl, rfl⟩
set_option maxRecDepth 100000 in
theorem rising_r (f : Value) (w : World) : Calls Tryz.prog 143 #[.slice none 0 0, f, .int .i64 0] w fun e w' => e = .returned (.bool true) ∧ w' = w := by
  go_enter Tryz.func143, Tryz.ntmps143
  go_wp2_with fail
  go_loopw [13] (fun x wz0 => x = .int .i64 0 ∧ wz0 = w) (fun _ _ => 0)
  case atStart => exact ⟨rfl, rfl⟩
  case round =>
    obtain ⟨rfl, hw0⟩ := hrel
    have HW0 := hidE hw0
    rw [hw0]
    clear hw0
    go_wp2_with fail
    go_ret
    exact ⟨rfl, rfl⟩
set_option maxRecDepth 100000 in
theorem numbers_zero (w : World) : Calls Tryz.prog 94 #[.agg #[.slice none 0 0, .slice none 0 0, .int .i64 0, .int .i64 0]] w fun e w' => e = .returned (.bool true) ∧ Below w.heap.size w w' := by
  go_enter Tryz.func94, Tryz.ntmps94
  go_upto_region 1 with fail
  generalize hW1 : World.alloc _ _ = W1
  obtain ⟨hb, a0, a1, a2, a3⟩ := box_zg hW1
  have HB1 := hidE hb
  clear hb hW1
  go_wp2_with fail
  refine (rising_n _ _).mono ?_
  rintro e w2 ⟨rfl, hw⟩
  rw [hw]
  clear hw
  go_wp2_with fail
  refine (rising_r _ _).mono ?_
  rintro e w3 ⟨rfl, hw⟩
  rw [hw]
  clear hw
  go_wp2_with fail
  go_ret
  exact ⟨rfl, HB1.out⟩
set_option maxRecDepth 100000 in
theorem labels_zero (w : World) : Calls Tryz.prog 95 #[.agg #[.slice none 0 0, .slice none 0 0, .int .i64 0, .int .i64 0]] w fun e w' => e = .returned (.bool true) ∧ Below w.heap.size w w' := by
  go_enter Tryz.func95, Tryz.ntmps95
  go_upto_region 1 with fail
  generalize hW1 : World.alloc _ _ = W1
  obtain ⟨hb, a0, a1, a2, a3⟩ := box_zg hW1
  have HB1 := hidE hb
  clear hb hW1
  go_wp2_with fail
  go_loopw [8] (fun x wz0 => x = .int .i64 0 ∧ wz0 = W1) (fun _ _ => 0)
  case atStart => exact ⟨rfl, rfl⟩
  case round =>
    obtain ⟨rfl, hw0⟩ := hrel
    have HW0 := hidE hw0
    rw [hw0]
    clear hw0
    go_wp2_with fail
    go_ret
    exact ⟨rfl, HB1.out⟩
set_option maxRecDepth 100000 in
theorem props_zero (w : World) : Calls Tryz.prog 96 #[.agg #[.slice none 0 0, .slice none 0 0, .int .i64 0, .int .i64 0]] w fun e w' => e = .returned (.bool true) ∧ Below w.heap.size w w' := by
  go_enter Tryz.func96, Tryz.ntmps96
  go_upto_region 1 with fail
  generalize hW1 : World.alloc _ _ = W1
  obtain ⟨hb, a0, a1, a2, a3⟩ := box_zg hW1
  have HB1 := hidE hb
  clear hb hW1
  go_wp2_with fail
  go_loopw [10] (fun x wz0 => x = .int .i64 0 ∧ wz0 = W1) (fun _ _ => 0)
  case atStart => exact ⟨rfl, rfl⟩
  case round =>
    obtain ⟨rfl, hw0⟩ := hrel
    have HW0 := hidE hw0
    rw [hw0]
    clear hw0
    go_wp2_with fail
    go_loopw [22] (fun x wz1 => x = .int .i64 0 ∧ wz1 = W1) (fun _ _ => 0)
    case atStart => exact ⟨rfl, rfl⟩
    case round =>
      obtain ⟨rfl, hw1⟩ := hrel
      have HW1 := hidE hw1
      rw [hw1]
      clear hw1
      go_wp2_with fail
      go_ret
      exact ⟨rfl, HB1.out⟩
set_option maxRecDepth 100000 in
theorem types_zero (w : World) : Calls Tryz.prog 97 #[.agg #[.slice none 0 0, .slice none 0 0, .int .i64 0, .int .i64 0]] w fun e w' => e = .returned (.bool true) ∧ Below w.heap.size w w' := by
  go_enter Tryz.func97, Tryz.ntmps97
  go_upto_region 1 with fail
  generalize hW1 : World.alloc _ _ = W1
  obtain ⟨hb, a0, a1, a2, a3⟩ := box_zg hW1
  have HB1 := hidE hb
  clear hb hW1
  go_wp2_with fail
  go_loopw [8] (fun x wz0 => x = .int .i64 0 ∧ wz0 = W1) (fun _ _ => 0)
  case atStart => exact ⟨rfl, rfl⟩
  case round =>
    obtain ⟨rfl, hw0⟩ := hrel
    have HW0 := hidE hw0
    rw [hw0]
    clear hw0
    go_wp2_with fail
    go_ret
    exact ⟨rfl, HB1.out⟩
def ruL : List Value := [.func (.func 93) #[] #[], .func (.func 94) #[] #[], .func (.func 95) #[] #[], .func (.func 96) #[] #[], .func (.func 97) #[] #[], .func (.func 98) #[] #[]]
set_option maxRecDepth 100000 in
theorem rules_any (w : World) : Calls Tryz.prog 34 #[] w fun e w' => e = .returned (.slice (some ⟨w.heap.size, 0, none⟩) 6 6) ∧ Below w.heap.size w w' ∧ ∀ q v, ruL[q]? = some v → w'.cell? ⟨w.heap.size, q, none⟩ = some v := by
  go_enter Tryz.func34, Tryz.ntmps34
  go_wp2_with fail
  generalize hW1 : World.alloc _ _ = W1
  have HB1 : Hid (Below w.heap.size w W1) := by rw [← hW1]; exact (Below.refl _ _).alloc (Nat.le_refl _) _
  have HT : Hid (∀ q v, ruL[q]? = some v → W1.cell? ⟨w.heap.size, q, none⟩ = some v) := by
    intro q v hq
    rw [← hW1]
    refine cell_new _ _ _ _ _ ?_
    have : ruL.toArray[q]? = some v := by rw [List.getElem?_toArray, hq]
    exact this
  clear hW1
  go_ret
  exact ⟨rfl, HB1.out, HT.out⟩
set_option maxRecDepth 100000 in
theorem ends_zero (w : World) : Calls Tryz.prog 98 #[.agg #[.slice none 0 0, .slice none 0 0, .int .i64 0, .int .i64 0]] w fun e w' => e = .returned (.bool true) ∧ Below w.heap.size w w' := by
  have hmm : ∀ W : World, (Instr.makeMap 188 none).run Tryz.prog W = .ok (.map (some W.heap.size)) (W.alloc (.map #[] 0)) := fun W => rfl
  go_enter Tryz.func98, Tryz.ntmps98
  go_upto_region 1 with fail
  generalize hW1 : World.alloc _ _ = W1
  obtain ⟨hb, a0, a1, a2, a3⟩ := box_zg hW1
  have HB1 := hidE hb
  have HA0 := hidE a0
  have HA1 := hidE a1
  clear hb hW1 a0 a1 a2 a3
  go_upto_region 2 with fail
  generalize hW2 : World.alloc _ _ = W2
  have HC2 : Hid (Below W1.heap.size W1 W2) := by rw [← hW2]; exact (Below.refl _ _).alloc (Nat.le_refl _) _
  clear hW2
  have HB2 := hidE (below_on HB1.out HC2.out)
  have b0 := cell_below HC2.out (Nat.le_refl _) HA0.out
  have b1 := cell_below HC2.out (Nat.le_refl _) HA1.out
  go_wp2_with fail
  go_loopw [16] (fun x wz0 => x = .int .i64 0 ∧ wz0 = W2) (fun _ _ => 0)
  case atStart => exact ⟨rfl, rfl⟩
  case round =>
    obtain ⟨rfl, hw0⟩ := hrel
    have HW0 := hidE hw0
    rw [hw0]
    clear hw0
    go_wp2_with fail
    go_loopw [28] (fun x wz1 => x = .int .i64 0 ∧ wz1 = W2) (fun _ _ => 0)
    case atStart => exact ⟨rfl, rfl⟩
    case round =>
      obtain ⟨rfl, hw1⟩ := hrel
      have HW1 := hidE hw1
      rw [hw1]
      clear hw1
      go_wp2_with fail
      go_ret
      exact ⟨rfl, HB2.out⟩
set_option maxRecDepth 100000 in
set_option maxHeartbeats 2000000 in
theorem check_zero (w : World) : Calls Tryz.prog 11 #[.agg #[.slice none 0 0, .slice none 0 0, .int .i64 0, .int .i64 0]] w fun e w' => e = .returned (.int .i64 0) ∧ Below w.heap.size w w' := by
  go_enter Tryz.func11, Tryz.ntmps11
  go_upto_region 1 with fail
  generalize hW1 : World.alloc _ _ = W1
  obtain ⟨hb, a0, a1, a2, a3⟩ := box_zg hW1
  have HB1 := hidE hb
  have HA : Hid (∀ W, Below W1.heap.size W1 W → W.cell? ⟨w.heap.size, 0, none⟩ = some (.slice none 0 0) ∧ W.cell? ⟨w.heap.size, 1, none⟩ = some (.slice none 0 0) ∧ W.cell? ⟨w.heap.size, 2, none⟩ = some (.int .i64 0) ∧ W.cell? ⟨w.heap.size, 3, none⟩ = some (.int .i64 0)) := fun W h => ⟨cell_below h (Nat.le_refl _) a0, cell_below h (Nat.le_refl _) a1, cell_below h (Nat.le_refl _) a2, cell_below h (Nat.le_refl _) a3⟩
  clear hb hW1 a0 a1 a2 a3
  go_wp2_with fail
  refine (rules_any _).mono ?_
  rintro e w2 ⟨rfl, hb2, ht2⟩
  have HC2 := hidE hb2
  have HT := hidE ht2
  obtain ⟨p, hp⟩ : ∃ p, W1.heap.size = p := ⟨_, rfl⟩
  rw [hp] at HT ⊢
  clear hb2 ht2 hp
  go_wp2_with fail
  go_loopw [7] (fun x wr => ∃ q : Nat, q ≤ 6 ∧ x = .int .i64 q ∧ Below w2.heap.size w2 wr) (fun x _ => 6 - (intOf x).toNat)
  case atStart => exact ⟨0, by omega, rfl, Below.refl _ _⟩
  case round =>
    obtain ⟨q, hq, rfl, hb⟩ := hrel
    have HB := hidE hb
    obtain ⟨a0, a1, a2, a3⟩ := HA.out wr (below_on HC2.out hb)
    clear hb
    have hcs : q = 0 ∨ q = 1 ∨ q = 2 ∨ q = 3 ∨ q = 4 ∨ q = 5 ∨ q = 6 := by omega
    rcases hcs with rfl | rfl | rfl | rfl | rfl | rfl | rfl
    · have k0 := cell_below HB.out (Nat.le_refl _) (HT.out 0 _ rfl)
      go_wp2_with fail
      refine (few_zero _).mono ?_
      rintro e w3 ⟨rfl, hb3⟩
      have HB3 := hidE (below_on HB.out hb3)
      clear hb3 a0 a1 a2 a3 k0
      go_wp2_with fail
      go_roundw
      case rel => exact ⟨1, by omega, rfl, HB3.out⟩
      case measure => simp [intOf]
    · have k0 := cell_below HB.out (Nat.le_refl _) (HT.out 1 _ rfl)
      go_wp2_with fail
      refine (numbers_zero _).mono ?_
      rintro e w3 ⟨rfl, hb3⟩
      have HB3 := hidE (below_on HB.out hb3)
      clear hb3 a0 a1 a2 a3 k0
      go_wp2_with fail
      go_roundw
      case rel => exact ⟨2, by omega, rfl, HB3.out⟩
      case measure => simp [intOf]
    · have k0 := cell_below HB.out (Nat.le_refl _) (HT.out 2 _ rfl)
      go_wp2_with fail
      refine (labels_zero _).mono ?_
      rintro e w3 ⟨rfl, hb3⟩
      have HB3 := hidE (below_on HB.out hb3)
      clear hb3 a0 a1 a2 a3 k0
      go_wp2_with fail
      go_roundw
      case rel => exact ⟨3, by omega, rfl, HB3.out⟩
      case measure => simp [intOf]
    · have k0 := cell_below HB.out (Nat.le_refl _) (HT.out 3 _ rfl)
      go_wp2_with fail
      refine (props_zero _).mono ?_
      rintro e w3 ⟨rfl, hb3⟩
      have HB3 := hidE (below_on HB.out hb3)
      clear hb3 a0 a1 a2 a3 k0
      go_wp2_with fail
      go_roundw
      case rel => exact ⟨4, by omega, rfl, HB3.out⟩
      case measure => simp [intOf]
    · have k0 := cell_below HB.out (Nat.le_refl _) (HT.out 4 _ rfl)
      go_wp2_with fail
      refine (types_zero _).mono ?_
      rintro e w3 ⟨rfl, hb3⟩
      have HB3 := hidE (below_on HB.out hb3)
      clear hb3 a0 a1 a2 a3 k0
      go_wp2_with fail
      go_roundw
      case rel => exact ⟨5, by omega, rfl, HB3.out⟩
      case measure => simp [intOf]
    · have k0 := cell_below HB.out (Nat.le_refl _) (HT.out 5 _ rfl)
      go_wp2_with fail
      refine (ends_zero _).mono ?_
      rintro e w3 ⟨rfl, hb3⟩
      have HB3 := hidE (below_on HB.out hb3)
      clear hb3 a0 a1 a2 a3 k0
      go_wp2_with fail
      go_roundw
      case rel => exact ⟨6, by omega, rfl, HB3.out⟩
      case measure => simp [intOf]
    · go_wp2_with fail
      go_ret
      exact ⟨rfl, below_on HB1.out (below_on HC2.out HB.out)⟩
end Go.Proofs.YteddjlbfbpecjaaGreatDoor
