/- The parts of a graph of nothing. A graph of nothing, made: what it holds. -/
import Derived.Test.YteddjlbfbpecjaaGreatDoorJoin8
namespace Go.Proofs.YteddjlbfbpecjaaGreatDoor
open Go.RowKit Go.Shelf
set_option linter.unusedVariables false
set_option linter.unusedSimpArgs false
attribute [local go_sem] Oper.semAt_some
set_option maxRecDepth 100000 in
set_option maxHeartbeats 2000000 in
theorem parts_zero (w : World) : Calls Tryz.prog 39 #[.agg #[.slice none 0 0, .slice none 0 0, .int .i64 0, .int .i64 0]] w fun e w' => e = .returned (.agg #[.map (some (w.heap.size + 2)), .map (some (w.heap.size + 3)), .int .i64 0, .int .i64 0]) ∧ Below w.heap.size w w' ∧ MI w' (w.heap.size + 2) [] ∧ MI w' (w.heap.size + 3) [] := by
  have hm1 : ∀ W : World, (Instr.makeMap 68 none).run Tryz.prog W = .ok (.map (some W.heap.size)) (W.alloc (.map #[] 0)) := fun W => rfl
  have hm2 : ∀ W : World, (Instr.makeMap 69 none).run Tryz.prog W = .ok (.map (some W.heap.size)) (W.alloc (.map #[] 0)) := fun W => rfl
  go_enter Tryz.func39, Tryz.ntmps39
  go_upto_region 1 with fail
  generalize hW1 : World.alloc _ _ = W1
  have HB1 : Hid (Below w.heap.size w W1) := by rw [← hW1]; exact ((Below.refl _ _).alloc (Nat.le_refl _) _).alloc (by simp) _
  have HR1 : Hid (Rec W1 w.heap.size #[.slice none 0 0, .slice none 0 0, .int .i64 0, .int .i64 0] 25) := by rw [← hW1]; exact (rec_new _ _ _).alloc _
  have HR2 : Hid (Rec W1 (w.heap.size + 1) #[.map none, .map none, .int .i64 0, .int .i64 0] 71) := by
    rw [← hW1]
    have := rec_new (w.alloc (.cells #[.slice none 0 0, .slice none 0 0, .int .i64 0, .int .i64 0] 25)) #[.map none, .map none, .int .i64 0, .int .i64 0] 71
    rwa [show (w.alloc (.cells #[.slice none 0 0, .slice none 0 0, .int .i64 0, .int .i64 0] 25)).heap.size = w.heap.size + 1 by simp] at this
  have hs1 : W1.heap.size = w.heap.size + 2 := by rw [← hW1]; simp
  clear hW1
  have a2 := HR1.out.cell 2 rfl
  have a3 := HR1.out.cell 3 rfl
  go_upto_region 2 with fail
  generalize hW2 : World.alloc _ _ = W2
  have HB2 : Hid (Below w.heap.size w W2) := by rw [← hW2]; exact ((HB1.out.alloc (by omega) _).alloc (by simp; omega) _).alloc (by simp; omega) _
  have HS1 : Hid (Rec W2 w.heap.size #[.slice none 0 0, .slice none 0 0, .int .i64 0, .int .i64 0] 25) := by rw [← hW2]; exact ((HR1.out.alloc _).alloc _).alloc _
  have HS2 : Hid (Rec W2 (w.heap.size + 1) #[.map none, .map none, .int .i64 0, .int .i64 0] 71) := by rw [← hW2]; exact ((HR2.out.alloc _).alloc _).alloc _
  have HM1 : Hid (MI W2 (w.heap.size + 2) []) := by
    have h := mi_none W1
    rw [hs1] at h
    rw [← hW2]
    exact (h.block (Below.heap_alloc _ _ _ h.lt)).block (Below.heap_alloc _ _ _ (by simp; omega))
  have HM2 : Hid (MI W2 (w.heap.size + 2 + 1) []) := by
    have h := mi_none (W1.alloc (.map #[] 0))
    rw [World.size_alloc, hs1] at h
    rw [← hW2]
    exact h.block (Below.heap_alloc _ _ _ h.lt)
  have HS3 : Hid (Rec W2 (w.heap.size + 2 + 1 + 1) #[.map (some (w.heap.size + 2)), .map (some (w.heap.size + 2 + 1)), .int .i64 0, .int .i64 0] 71) := by
    rw [← hW2]
    have h := rec_new ((W1.alloc (.map #[] 0)).alloc (.map #[] 0)) #[.map (some (w.heap.size + 2)), .map (some (w.heap.size + 2 + 1)), .int .i64 0, .int .i64 0] 71
    rwa [World.size_alloc, World.size_alloc, hs1] at h
  clear hW2 a2 a3
  have a0 := HS1.out.cell 0 rfl
  have a1 := HS1.out.cell 1 rfl
  have c0 := HS3.out.cell 0 rfl
  have c1 := HS3.out.cell 1 rfl
  have c2 := HS3.out.cell 2 rfl
  have c3 := HS3.out.cell 3 rfl
  have y0 := HS2.out.z 0
  have y1 := HS2.out.z 1
  have y2 := HS2.out.z 2
  have y3 := HS2.out.z 3
  have b0 := HS2.out.cell 0 rfl
  have b1 := HS2.out.cell 1 rfl
  have b2 := HS2.out.cell 2 rfl
  have b3 := HS2.out.cell 3 rfl
  go_wp2_with fail
  go_loopw [18] (fun x wz0 => x = .int .i64 0 ∧ wz0 = W2) (fun _ _ => 0)
  case atStart => exact ⟨rfl, rfl⟩
  case round =>
    obtain ⟨rfl, hw0⟩ := hrel
    have HW0 := hidE hw0
    rw [hw0]
    clear hw0
    go_wp2_with fail
    go_loopw [31] (fun x wz1 => x = .int .i64 0 ∧ wz1 = W2) (fun _ _ => 0)
    case atStart => exact ⟨rfl, rfl⟩
    case round =>
      obtain ⟨rfl, hw1⟩ := hrel
      have HW1 := hidE hw1
      rw [hw1]
      clear hw1
      go_wp2_with fail
      generalize hW9 : World.setCell _ _ _ = W9
      have HR9 : Hid (Rec W9 (w.heap.size + 1) #[.map (some (w.heap.size + 2)), .map (some (w.heap.size + 2 + 1)), .int .i64 0, .int .i64 0] 71) := by rw [← hW9]; exact (((HS2.out.set 0 _).set 1 _).set 2 _).set 3 _
      have HB9 : Hid (Below w.heap.size w W9) := by rw [← hW9]; exact (((HB2.out.setCell (Nat.le_succ _) _).setCell (Nat.le_succ _) _).setCell (Nat.le_succ _) _).setCell (Nat.le_succ _) _
      have HK : Hid (∀ i, i ≠ w.heap.size + 1 → W9.heap[i]? = W2.heap[i]?) := fun i hi => by
        rw [← hW9]
        exact (Below.heap_setCell _ _ _ _ hi).trans ((Below.heap_setCell _ _ _ _ hi).trans ((Below.heap_setCell _ _ _ _ hi).trans (Below.heap_setCell _ _ _ _ hi)))
      clear hW9
      have q0 := HR9.out.cell 0 rfl
      have q1 := HR9.out.cell 1 rfl
      have q2 := HR9.out.cell 2 rfl
      have q3 := HR9.out.cell 3 rfl
      refine bodyPost_ret (v := .agg #[.map (some (w.heap.size + 2)), .map (some (w.heap.size + 2 + 1)), .int .i64 0, .int .i64 0]) ?_ rfl ⟨rfl, HB9.out, HM1.out.block (HK.out _ (by omega)), HM2.out.block (HK.out _ (by omega))⟩
      simp [results, Tryz.results39, go_sem, q0, q1, q2, q3]
end Go.Proofs.YteddjlbfbpecjaaGreatDoor

namespace Go.Proofs.YteddjlbfbpecjaaGreatDoor
open Go.RowKit Go.Shelf
set_option linter.unusedVariables false
set_option linter.unusedSimpArgs false
attribute [local go_sem] Oper.semAt_some
/-- Where a graph lies: its block, and its four maps. -/
structure GP where
  g : Nat
  n : Nat
  r : Nat
  f : Nat
  t : Nat
/-- They are apart, and none lies below B. -/
def GP.Ok (p : GP) (B : Nat) : Prop := B ≤ p.g ∧ B ≤ p.n ∧ B ≤ p.r ∧ B ≤ p.f ∧ B ≤ p.t ∧ p.g ≠ p.n ∧ p.g ≠ p.r ∧ p.g ≠ p.f ∧ p.g ≠ p.t ∧ p.n ≠ p.r ∧ p.n ≠ p.f ∧ p.n ≠ p.t ∧ p.r ≠ p.f ∧ p.r ≠ p.t ∧ p.f ≠ p.t
def GP.cells (p : GP) (nn nr : Int) : Array Value := #[.map (some p.n), .map (some p.r), .int .i64 nn, .int .i64 nr, .map (some p.f), .map (some p.t)]
def GP.val (p : GP) : Value := .pointer (some ⟨p.g, 0, none⟩)
/-- What a graph holds. -/
structure GS (w : World) (p : GP) (nn nr : Int) (N R F T : List (Int × Value)) : Prop where
  obj : Rec w p.g (p.cells nn nr) 74
  n : MI w p.n N
  r : MI w p.r R
  f : MI w p.f F
  t : MI w p.t T
theorem GS.below {w w' : World} {p : GP} {nn nr : Int} {N R F T : List (Int × Value)} (h : GS w p nn nr N R F T) (hb : Below w.heap.size w w') : GS w' p nn nr N R F T :=
  ⟨h.obj.below hb h.obj.lt, h.n.below hb (Nat.le_refl _), h.r.below hb (Nat.le_refl _), h.f.below hb (Nat.le_refl _), h.t.below hb (Nat.le_refl _)⟩
set_option maxRecDepth 100000 in
set_option maxHeartbeats 2000000 in
theorem make_zero (w : World) : Calls Tryz.prog 13 #[.agg #[.slice none 0 0, .slice none 0 0, .int .i64 0, .int .i64 0]] w fun e w' => ∃ p : GP, e = .returned (.tuple #[p.val, .int .i64 0]) ∧ Below w.heap.size w w' ∧ p.Ok w.heap.size ∧ GS w' p 0 0 [] [] [] [] := by
  have hm3 : ∀ W : World, (Instr.makeMap 72 none).run Tryz.prog W = .ok (.map (some W.heap.size)) (W.alloc (.map #[] 0)) := fun W => rfl
  go_enter Tryz.func13, Tryz.ntmps13
  go_upto_region 1 with fail
  generalize hW1 : World.alloc _ _ = W1
  have HB1 : Hid (Below w.heap.size w W1) := by rw [← hW1]; exact (Below.refl _ _).alloc (Nat.le_refl _) _
  have HR1 : Hid (Rec W1 w.heap.size #[.slice none 0 0, .slice none 0 0, .int .i64 0, .int .i64 0] 25) := by rw [← hW1]; exact rec_new _ _ _
  have hs1 : w.heap.size < W1.heap.size := by rw [← hW1]; simp
  clear hW1
  have a0 := HR1.out.cell 0 rfl
  have a1 := HR1.out.cell 1 rfl
  have a2 := HR1.out.cell 2 rfl
  have a3 := HR1.out.cell 3 rfl
  go_wp2_with fail
  refine (check_zero _).mono ?_
  rintro e w2 ⟨rfl, hb2⟩
  have HB2 := hidE (below_on HB1.out hb2)
  have HR2 := hidE (HR1.out.below hb2 hs1)
  have hs2 : w.heap.size < w2.heap.size := Nat.lt_of_lt_of_le hs1 hb2.size
  clear hb2 a0 a1 a2 a3
  have a0 := HR2.out.cell 0 rfl
  have a1 := HR2.out.cell 1 rfl
  have a2 := HR2.out.cell 2 rfl
  have a3 := HR2.out.cell 3 rfl
  go_wp2_with fail
  refine (copy_zero _).mono ?_
  rintro e w3 ⟨rfl, hb3⟩
  have HB3 := hidE (below_on HB2.out hb3)
  have HR3 := hidE (HR2.out.below hb3 hs2)
  have hs3 : w.heap.size < w3.heap.size := Nat.lt_of_lt_of_le hs2 hb3.size
  clear hb3 a0 a1 a2 a3
  go_wp2_with fail
  refine (parts_zero _).mono ?_
  rintro e w4 ⟨rfl, hb4, hm1, hm2⟩
  have HB4 := hidE (below_on HB3.out hb4)
  have HR4 := hidE (HR3.out.below hb4 hs3)
  have HM1 := hidE hm1
  have HM2 := hidE hm2
  have hs4 : w3.heap.size + 4 ≤ w4.heap.size := hm2.lt
  clear hb4 hm1 hm2
  go_upto_region 5 with fail
  generalize hW5 : World.alloc _ _ = W5
  have HB5 : Hid (Below w.heap.size w W5) := by rw [← hW5]; exact ((HB4.out.alloc (by omega) _).alloc (by simp; omega) _).alloc (by simp; omega) _
  have HR5 : Hid (Rec W5 w.heap.size #[.slice none 0 0, .slice none 0 0, .int .i64 0, .int .i64 0] 25) := by rw [← hW5]; exact ((HR4.out.alloc _).alloc _).alloc _
  have HG5 : Hid (GS W5 ⟨w4.heap.size + 1 + 1, w3.heap.size + 2, w3.heap.size + 3, w4.heap.size, w4.heap.size + 1⟩ 0 0 [] [] [] []) := by
    rw [← hW5]
    refine ⟨?_, ?_, ?_, ?_, ?_⟩
    · have h := rec_new ((w4.alloc (.map #[] 0)).alloc (.map #[] 0)) #[.map (some (w3.heap.size + 2)), .map (some (w3.heap.size + 3)), .int .i64 0, .int .i64 0, .map (some w4.heap.size), .map (some (w4.heap.size + 1))] 74
      rw [World.size_alloc, World.size_alloc] at h
      exact h
    · exact HM1.out.block (by rw [Below.heap_alloc _ _ _ (by simp; omega), Below.heap_alloc _ _ _ (by simp; omega), Below.heap_alloc _ _ _ (by omega)])
    · exact HM2.out.block (by rw [Below.heap_alloc _ _ _ (by simp; omega), Below.heap_alloc _ _ _ (by simp; omega), Below.heap_alloc _ _ _ (by omega)])
    · exact (mi_none w4).block (by rw [Below.heap_alloc _ _ _ (by simp only [World.size_alloc]; omega), Below.heap_alloc _ _ _ (by simp only [World.size_alloc]; omega)])
    · have h := mi_none (w4.alloc (.map #[] 0))
      rw [World.size_alloc] at h
      exact h.block (by rw [Below.heap_alloc _ _ _ (by simp only [World.size_alloc]; omega)])
  clear hW5
  have a1 := HR5.out.cell 1 rfl
  go_wp2_with fail
  go_loopw [23] (fun x wr => x = .int .i64 0 ∧ wr = W5) (fun _ _ => 0)
  case atStart => exact ⟨rfl, rfl⟩
  case round =>
    obtain ⟨rfl, hw⟩ := hrel
    rw [hw]
    clear hw
    go_wp2_with fail
    go_ret2
    exact ⟨_, rfl, HB5.out, ⟨by simp only; omega, by simp only; omega, by simp only; omega, by simp only; omega, by simp only; omega, by simp only; omega, by simp only; omega, by simp only; omega, by simp only; omega, by simp only; omega, by simp only; omega, by simp only; omega, by simp only; omega, by simp only; omega, by simp only; omega⟩, HG5.out⟩
end Go.Proofs.YteddjlbfbpecjaaGreatDoor

