/- A graph of one node without labels and properties is copied. -/
import Derived.Test.YteddjlbfbpecjaaGreatDoorGed19
import Derived.Test.YteddjlbfbpecjaaGreatDoorJoin18
namespace Go.Proofs.YteddjlbfbpecjaaGreatDoor
open Go.RowKit Go.Shelf
set_option linter.unusedVariables false
set_option linter.unusedSimpArgs false
attribute [local go_sem] Oper.semAt_some
set_option maxRecDepth 100000 in
set_option maxHeartbeats 4000000 in
theorem copyNode_nil (k : Int) (w : World) : Calls Tryz.prog 36 #[.agg #[.int .i64 k, .slice none 0 0, .slice none 0 0]] w fun e w' => e = .returned (.agg #[.int .i64 k, .slice none 0 0, .slice none 0 0]) ∧ Below w.heap.size w w' := by
  have HCn := hidE (fun w => Tryz.slices_Clone_string_nil 0 0 w)
  have HCr := hidE (fun w => copiesP_nil (.func (.func 101) #[] #[]) 0 0 w)
  go_enter Tryz.func36, Tryz.ntmps36
  go_upto_region 1 with fail
  generalize hW1 : World.alloc _ _ = W1
  have HB1 : Hid (Below w.heap.size w W1) := by rw [← hW1]; exact ((Below.refl _ _).alloc (Nat.le_refl _) _).alloc (by simp) _
  have HR1 : Hid (Rec W1 w.heap.size #[.int .i64 k, .slice none 0 0, .slice none 0 0] 47) := by rw [← hW1]; exact (rec_new _ _ _).alloc _
  have HR2 : Hid (Rec W1 (w.heap.size + 1) #[.int .i64 0, .slice none 0 0, .slice none 0 0] 47) := by
    rw [← hW1]
    have := rec_new (w.alloc (.cells #[.int .i64 k, .slice none 0 0, .slice none 0 0] 47)) #[.int .i64 0, .slice none 0 0, .slice none 0 0] 47
    rwa [show (w.alloc (.cells #[.int .i64 k, .slice none 0 0, .slice none 0 0] 47)).heap.size = w.heap.size + 1 by simp] at this
  clear hW1
  have a1 := HR1.out.cell 1 rfl
  have a2 := HR1.out.cell 2 rfl
  have z1 := HR1.out.z 1
  have z2 := HR1.out.z 2
  go_region_with (first | (refine (HCn.out _).mono ?_; rintro e w2 ⟨rfl, hw⟩; rw [hw]; clear hw) | (refine (HCr.out _).mono ?_; rintro e w2 ⟨rfl, hw⟩; rw [hw]; clear hw))
  all_goals
    clear a1 a2 z1 z2
    generalize hW2 : World.drew _ = W2
    have HB2 : Hid (Below w.heap.size w W2) := by rw [← hW2]; exact ((HB1.out.setCell (Nat.le_refl _) _).setCell (Nat.le_refl _) _).drew
    have HS1 : Hid (Rec W2 w.heap.size #[.int .i64 k, .slice none 0 0, .slice none 0 0] 47) := by rw [← hW2]; exact (HR1.out.set 1 _).set 2 _
    have HS2 : Hid (Rec W2 (w.heap.size + 1) #[.int .i64 0, .slice none 0 0, .slice none 0 0] 47) := by rw [← hW2]; exact (HR2.out.other (by omega)).other (by omega)
    clear hW2
    have a0 := HS1.out.cell 0 rfl
    have a1 := HS1.out.cell 1 rfl
    have a2 := HS1.out.cell 2 rfl
    have y0 := HS2.out.z 0
    have y1 := HS2.out.z 1
    have y2 := HS2.out.z 2
    have b0 := HS2.out.cell 0 rfl
    have b1 := HS2.out.cell 1 rfl
    have b2 := HS2.out.cell 2 rfl
    go_wp2_with fail
    generalize hW9 : World.setCell _ _ _ = W9
    have HR9 : Hid (Rec W9 (w.heap.size + 1) #[.int .i64 k, .slice none 0 0, .slice none 0 0] 47) := by rw [← hW9]; exact ((HS2.out.set 0 _).set 1 _).set 2 _
    have HB9 : Hid (Below w.heap.size w W9) := by rw [← hW9]; exact ((HB2.out.setCell (Nat.le_succ _) _).setCell (Nat.le_succ _) _).setCell (Nat.le_succ _) _
    clear hW9
    have q0 := HR9.out.cell 0 rfl
    have q1 := HR9.out.cell 1 rfl
    have q2 := HR9.out.cell 2 rfl
    refine bodyPost_ret (v := .agg #[.int .i64 k, .slice none 0 0, .slice none 0 0]) ?_ rfl ⟨rfl, HB9.out⟩
    simp [results, Tryz.results36, go_sem, q0, q1, q2]
theorem Tryz.info47 : (Tryz.prog.info? 47).map (fun i => (i.zero, i.size, i.bytes)) = some (some (.agg #[.int .i64 0, .slice none 0 0, .slice none 0 0]), 3, 56) := by kernel_rfl
set_option maxRecDepth 100000 in
set_option maxHeartbeats 4000000 in
theorem copiesN_one (k : Int) (Y off c : Nat) (w : World) (hc1 : 1 ≤ c) (hc2 : c ≤ 9223372036854775807) (c0 : w.cell? ⟨Y, off, none⟩ = some (.int .i64 k)) (c1 : w.cell? ⟨Y, off + 1, none⟩ = some (.slice none 0 0)) (c2 : w.cell? ⟨Y, off + 2, none⟩ = some (.slice none 0 0)) :
    Calls Tryz.prog 35 #[.slice (some ⟨Y, off, none⟩) 1 c, .func (.func 36) #[] #[]] w fun e w' => e = .returned (.slice (some ⟨w.heap.size, 0, none⟩) 1 1) ∧ Below w.heap.size w w' := by
  have hYl : Y < w.heap.size := lt_of_cell c0
  obtain ⟨i0, hi, hz0, hz1, hz2⟩ := info_parts Tryz.info47
  have hmk : ∀ W : World, (Instr.makeSlice 22 (.int .i64 1) (.int .i64 1)).run Tryz.prog W = .ok (.slice (some ⟨W.heap.size, 0, none⟩) 1 1) (W.alloc (.cells #[.int .i64 0, .slice none 0 0, .slice none 0 0] 47)) := fun W => by
    have := run_makeSlice (P := Tryz.prog) W 22 47 i0 _ Tryz.underlying22 hi hz0 .i64 .i64 1 1 (by omega) (by omega) (by rw [hz1]; omega) (by rw [hz2]; omega) (by omega)
    have hmc : madeCells #[.int .i64 0, .slice none 0 0, .slice none 0 0] 3 = #[.int .i64 0, .slice none 0 0, .slice none 0 0] := by
      unfold madeCells
      rw [show Array.range 3 = #[0, 1, 2] from by decide]
      simp
    simpa [hz1, Value.cells, hmc] using this
  have heq : ∀ W : World, (binOp .eql 22 (.slice (some ⟨Y, off, none⟩) 1 c) (.slice none 0 0)).run Tryz.prog W = .ok (.bool false) W := fun W => by
    have := Lib.run_eql_slice_nil (P := Tryz.prog) W 22 47 (some ⟨Y, off, none⟩) 1 c 0 0 Tryz.underlying22
    simpa using this
  clear hi hz0 hz1 hz2
  go_enter Tryz.func35, Tryz.ntmps35
  go_upto_region 4 with fail
  generalize hW1 : World.alloc _ _ = W1
  have HB1 : Hid (Below w.heap.size w W1) := by rw [← hW1]; exact (Below.refl _ _).alloc (Nat.le_refl _) _
  have HR1 : Hid (Rec W1 w.heap.size #[.int .i64 0, .slice none 0 0, .slice none 0 0] 47) := by rw [← hW1]; exact rec_new _ _ _
  have hs1 : w.heap.size < W1.heap.size := by rw [← hW1]; simp
  replace c0 := (HB1.out.cell (p := ⟨Y, off, none⟩) hYl).trans c0
  replace c1 := (HB1.out.cell (p := ⟨Y, off + 1, none⟩) hYl).trans c1
  replace c2 := (HB1.out.cell (p := ⟨Y, off + 2, none⟩) hYl).trans c2
  clear hW1 hmk heq
  go_wp2_with fail
  go_loopw [15] (fun i wr => (i = .int .i64 0 ∧ wr = W1) ∨ (i = .int .i64 1 ∧ Below w.heap.size w wr)) (fun i _ => 1 - (intOf i).toNat)
  case atStart => exact .inl ⟨rfl, rfl⟩
  case round =>
    rcases hrel with ⟨rfl, hw⟩ | ⟨rfl, hbr⟩
    · rw [hw]
      clear hw
      go_upto_region 7 with fail
      generalize hW2 : World.alloc _ _ = W2
      have HB2 : Hid (Below W1.heap.size W1 W2) := by rw [← hW2]; exact (Below.refl _ _).alloc (Nat.le_refl _) _
      have HR2 : Hid (Rec W2 W1.heap.size #[.int .i64 k, .slice none 0 0, .slice none 0 0] 47) := by rw [← hW2]; exact rec_new _ _ _
      clear hW2 c0 c1 c2
      have x0 := HR2.out.cell 0 rfl
      have x1 := HR2.out.cell 1 rfl
      have x2 := HR2.out.cell 2 rfl
      have HCo := hidE (copyNode_nil k W2)
      go_wp2_with fail
      refine HCo.out.mono ?_
      rintro e w3 ⟨rfl, hb3⟩
      have HB3 := hidE (below_on HB2.out hb3)
      have HR3 := hidE (HR1.out.below HB3.out hs1)
      clear hb3 x0 x1 x2 HCo
      have d0 := HR3.out.cell 0 rfl
      have d1 := HR3.out.cell 1 rfl
      have d2 := HR3.out.cell 2 rfl
      have e0 := HR3.out.z 0
      have e1 := HR3.out.z 1
      have e2 := HR3.out.z 2
      go_upto_region 8 with fail
      generalize hW4 : World.setCell _ _ _ = W4
      have HB4 : Hid (Below w.heap.size w W4) := by
        rw [← hW4]
        exact ((((below_on HB1.out HB3.out).setCell (Nat.le_refl _) _).setCell (Nat.le_refl _) _).setCell (Nat.le_refl _) _)
      clear hW4 d0 d1 d2 e0 e1 e2
      go_wp2_with fail
      go_roundw
      case rel => exact .inr ⟨by go_num, HB4.out⟩
      case measure => simp [intOf]
    · have HBR := hidE hbr
      clear hbr c0 c1 c2
      go_wp2_with fail
      go_ret
      exact ⟨rfl, HBR.out⟩
set_option maxRecDepth 100000 in
set_option maxHeartbeats 4000000 in
theorem copy_one (k nn nr : Int) (Y off c : Nat) (w : World) (hc1 : 1 ≤ c) (hc2 : c ≤ 9223372036854775807) (c0 : w.cell? ⟨Y, off, none⟩ = some (.int .i64 k)) (c1 : w.cell? ⟨Y, off + 1, none⟩ = some (.slice none 0 0)) (c2 : w.cell? ⟨Y, off + 2, none⟩ = some (.slice none 0 0)) :
    Calls Tryz.prog 12 #[.agg #[.slice (some ⟨Y, off, none⟩) 1 c, .slice none 0 0, .int .i64 nn, .int .i64 nr]] w fun e w' => ∃ Z, e = .returned (.agg #[.slice (some ⟨Z, 0, none⟩) 1 1, .slice none 0 0, .int .i64 nn, .int .i64 nr]) ∧ Below w.heap.size w w' := by
  have hYl : Y < w.heap.size := lt_of_cell c0
  have HCr := hidE (fun f w => copies_r f w)
  go_enter Tryz.func12, Tryz.ntmps12
  go_upto_region 1 with fail
  generalize hW1 : World.alloc _ _ = W1
  have HB1 : Hid (Below w.heap.size w W1) := by rw [← hW1]; exact ((Below.refl _ _).alloc (Nat.le_refl _) _).alloc (by simp) _
  have HR1 : Hid (Rec W1 w.heap.size #[.slice (some ⟨Y, off, none⟩) 1 c, .slice none 0 0, .int .i64 nn, .int .i64 nr] 25) := by rw [← hW1]; exact (rec_new _ _ _).alloc _
  have HR2 : Hid (Rec W1 (w.heap.size + 1) #[.slice none 0 0, .slice none 0 0, .int .i64 0, .int .i64 0] 25) := by
    rw [← hW1]
    have := rec_new (w.alloc (.cells #[.slice (some ⟨Y, off, none⟩) 1 c, .slice none 0 0, .int .i64 nn, .int .i64 nr] 25)) #[.slice none 0 0, .slice none 0 0, .int .i64 0, .int .i64 0] 25
    rwa [show (w.alloc (.cells #[.slice (some ⟨Y, off, none⟩) 1 c, .slice none 0 0, .int .i64 nn, .int .i64 nr] 25)).heap.size = w.heap.size + 1 by simp] at this
  have HCn : Hid (Calls Tryz.prog 35 #[.slice (some ⟨Y, off, none⟩) 1 c, .func (.func 36) #[] #[]] W1.drew fun e w' => e = .returned (.slice (some ⟨W1.heap.size, 0, none⟩) 1 1) ∧ Below W1.heap.size W1 w' ∧ w'.cell? ⟨w.heap.size, 0, none⟩ = some (.slice (some ⟨Y, off, none⟩) 1 c) ∧ w'.cell? ⟨w.heap.size, 1, none⟩ = some (.slice none 0 0) ∧ w'.frozen? ⟨w.heap.size, 0, none⟩ = false ∧ w'.frozen? ⟨w.heap.size, 1, none⟩ = false) := by
    refine (copiesN_one k Y off c W1.drew hc1 hc2 ((HB1.out.cell (p := ⟨Y, off, none⟩) hYl).trans c0) ((HB1.out.cell (p := ⟨Y, off + 1, none⟩) hYl).trans c1) ((HB1.out.cell (p := ⟨Y, off + 2, none⟩) hYl).trans c2)).mono ?_
    rintro e w' ⟨h1, h2⟩
    have h3 : Below W1.heap.size W1 w' := ⟨h2.os, h2.tape, h2.output, h2.size, h2.block⟩
    have hr := HR1.out.below h3 HR1.out.lt
    exact ⟨h1, h3, hr.cell 0 rfl, hr.cell 1 rfl, hr.z 0, hr.z 1⟩
  clear hW1
  have a0 := HR1.out.cell 0 rfl
  have a1 := HR1.out.cell 1 rfl
  have z0 := HR1.out.z 0
  have z1 := HR1.out.z 1
  clear c0 c1 c2
  go_region_with (first | (refine HCn.out.mono ?_; rintro e w2 ⟨rfl, hb2, d0, d1, y0, y1⟩) | (refine (HCr.out _ _).mono ?_; rintro e w2 ⟨rfl, hw⟩; rw [hw]; clear hw))
  all_goals
    clear a0 a1 z0 z1
    have ra := HR1.out.below hb2 HR1.out.lt
    have rb := HR2.out.below hb2 HR2.out.lt
    have HBx := hidE (below_on HB1.out hb2)
    generalize hW3 : World.setCell _ _ _ = W3
    have HB3 : Hid (Below w.heap.size w W3) := by rw [← hW3]; exact (HBx.out.setCell (Nat.le_refl _) _).setCell (Nat.le_refl _) _
    have HS1 : Hid (Rec W3 w.heap.size #[.slice (some ⟨W1.heap.size, 0, none⟩) 1 1, .slice none 0 0, .int .i64 nn, .int .i64 nr] 25) := by rw [← hW3]; exact (ra.set 0 _).set 1 _
    have HS2 : Hid (Rec W3 (w.heap.size + 1) #[.slice none 0 0, .slice none 0 0, .int .i64 0, .int .i64 0] 25) := by rw [← hW3]; exact (rb.other (by omega)).other (by omega)
    clear hW3 ra rb hb2 d0 d1 y0 y1 HCn HCr
    have a0 := HS1.out.cell 0 rfl
    have a1 := HS1.out.cell 1 rfl
    have a2 := HS1.out.cell 2 rfl
    have a3 := HS1.out.cell 3 rfl
    have y0 := HS2.out.z 0
    have y1 := HS2.out.z 1
    have y2 := HS2.out.z 2
    have y3 := HS2.out.z 3
    have b0 := HS2.out.cell 0 rfl
    have b1 := HS2.out.cell 1 rfl
    have b2 := HS2.out.cell 2 rfl
    have b3 := HS2.out.cell 3 rfl
    go_wp2_with fail
    generalize hW9 : World.setCell _ _ _ = W9
    have HR9 : Hid (Rec W9 (w.heap.size + 1) #[.slice (some ⟨W1.heap.size, 0, none⟩) 1 1, .slice none 0 0, .int .i64 nn, .int .i64 nr] 25) := by rw [← hW9]; exact (((HS2.out.set 0 _).set 1 _).set 2 _).set 3 _
    have HB9 : Hid (Below w.heap.size w W9) := by rw [← hW9]; exact (((HB3.out.setCell (Nat.le_succ _) _).setCell (Nat.le_succ _) _).setCell (Nat.le_succ _) _).setCell (Nat.le_succ _) _
    clear hW9
    have q0 := HR9.out.cell 0 rfl
    have q1 := HR9.out.cell 1 rfl
    have q2 := HR9.out.cell 2 rfl
    have q3 := HR9.out.cell 3 rfl
    refine bodyPost_ret (v := .agg #[.slice (some ⟨W1.heap.size, 0, none⟩) 1 1, .slice none 0 0, .int .i64 nn, .int .i64 nr]) ?_ rfl ⟨_, rfl, HB9.out⟩
    simp [results, Tryz.results12, go_sem, q0, q1, q2, q3]
end Go.Proofs.YteddjlbfbpecjaaGreatDoor
