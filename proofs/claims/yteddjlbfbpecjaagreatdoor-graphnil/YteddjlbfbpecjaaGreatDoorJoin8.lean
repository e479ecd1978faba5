/- A block of cells, read and written. A graph of nothing, made. -/
import Derived.Test.YteddjlbfbpecjaaGreatDoorJoin2
import Derived.Test.YteddjlbfbpecjaaGreatDoorGmk0
import Derived.Test.YteddjlbfbpecjaaGreatDoorGmap
namespace Go.Proofs.YteddjlbfbpecjaaGreatDoor
open Go.RowKit Go.Shelf
set_option linter.unusedVariables false
set_option linter.unusedSimpArgs false
/-- The block at b holds just these cells. -/
def Rec (w : World) (b : Nat) (cs : Array Value) (ty : TypeId) : Prop := w.heap[b]? = some (.cells cs ty (0, 0))
section
variable {w w' : World} {b : Nat} {cs : Array Value} {ty : TypeId}
theorem Rec.lt (h : Rec w b cs ty) : b < w.heap.size := (Array.getElem?_eq_some_iff.1 h).1
theorem Rec.cell (h : Rec w b cs ty) (i : Nat) {v : Value} (hi : cs[i]? = some v) : w.cell? ⟨b, i, none⟩ = some v := by simp [World.cell?, show w.heap[b]? = _ from h, hi]
theorem Rec.z (h : Rec w b cs ty) (i : Nat) : w.frozen? ⟨b, i, none⟩ = false := by simp [World.frozen?, show w.heap[b]? = _ from h]
theorem Rec.keep (h : Rec w b cs ty) (e : w'.heap[b]? = w.heap[b]?) : Rec w' b cs ty := e.trans h
theorem Rec.below {B : Nat} (h : Rec w b cs ty) (hf : Below B w w') (hB : b < B) : Rec w' b cs ty := h.keep (hf.block b hB)
theorem Rec.other {q c : Nat} {u : Value} (h : Rec w b cs ty) (hq : b ≠ q) : Rec (w.setCell ⟨q, c, none⟩ u) b cs ty := h.keep (Below.heap_setCell _ _ _ _ hq)
theorem Rec.alloc (h : Rec w b cs ty) (o : Obj) : Rec (w.alloc o) b cs ty := h.keep (Below.heap_alloc _ _ _ h.lt)
theorem Rec.set (h : Rec w b cs ty) (i : Nat) (v : Value) : Rec (w.setCell ⟨b, i, none⟩ v) b (cs.setIfInBounds i v) ty := by
  have hl := h.lt
  have e : w.heap[b] = .cells cs ty (0, 0) := by
    have := show w.heap[b]? = _ from h
    rw [Array.getElem?_eq_getElem hl] at this; exact Option.some.inj this
  unfold Rec
  simp [World.setCell, hl, Array.getElem_modify, e]
theorem rec_new (w : World) (cs : Array Value) (ty : TypeId) : Rec (w.alloc (.cells cs ty)) w.heap.size cs ty := World.alloc_heap_new _ _
end
end Go.Proofs.YteddjlbfbpecjaaGreatDoor

namespace Go.Proofs.YteddjlbfbpecjaaGreatDoor
open Go.RowKit Go.Shelf
set_option linter.unusedVariables false
set_option linter.unusedSimpArgs false
attribute [local go_sem] Oper.semAt_some
theorem eql_nils22 (w : World) : (binOp .eql 22 (.slice none 0 0) (.slice none 0 0)).run Tryz.prog w = .ok (.bool true) w := by
  have h : ∀ d : Nat, (Op.equalIn (d + 1) 22 (.slice none 0 0) (.slice none 0 0)).run Tryz.prog w = .ok true w := fun d => by simp [Op.equalIn, run_underlying Tryz.underlying22]
  have h1 := h 9999
  simp only [binOp]
  simp [Op.equal, Op.maxDepth, h1]
set_option maxRecDepth 100000 in
theorem copies_n (f : Value) (w : World) : Calls Tryz.prog 35 #[.slice none 0 0, f] w fun e w' => e = .returned (.slice none 0 0) ∧ w' = w := by
  have hq := eql_nils22 w
  go_enter Tryz.func35, Tryz.ntmps35
  go_wp2_with fail
  go_ret
  exact ⟨rfl, rfl⟩
theorem eql_nils23 (w : World) : (binOp .eql 23 (.slice none 0 0) (.slice none 0 0)).run Tryz.prog w = .ok (.bool true) w := by
  have h : ∀ d : Nat, (Op.equalIn (d + 1) 23 (.slice none 0 0) (.slice none 0 0)).run Tryz.prog w = .ok true w := fun d => by simp [Op.equalIn, run_underlying Tryz.underlying23]
  have h1 := h 9999
  simp only [binOp]
  simp [Op.equal, Op.maxDepth, h1]
set_option maxRecDepth 100000 in
theorem copies_r (f : Value) (w : World) : Calls Tryz.prog 37 #[.slice none 0 0, f] w fun e w' => e = .returned (.slice none 0 0) ∧ w' = w := by
  have hq := eql_nils23 w
  go_enter Tryz.func37, Tryz.ntmps37
  go_wp2_with fail
  go_ret
  exact ⟨rfl, rfl⟩
set_option maxRecDepth 100000 in
set_option maxHeartbeats 2000000 in
theorem copy_zero (w : World) : Calls Tryz.prog 12 #[.agg #[.slice none 0 0, .slice none 0 0, .int .i64 0, .int .i64 0]] w fun e w' => e = .returned (.agg #[.slice none 0 0, .slice none 0 0, .int .i64 0, .int .i64 0]) ∧ Below w.heap.size w w' := by
  have HCn := hidE (fun f w => copies_n f w)
  have HCr := hidE (fun f w => copies_r f w)
  go_enter Tryz.func12, Tryz.ntmps12
  go_upto_region 1 with fail
  generalize hW1 : World.alloc _ _ = W1
  have HB1 : Hid (Below w.heap.size w W1) := by rw [← hW1]; exact ((Below.refl _ _).alloc (Nat.le_refl _) _).alloc (by simp) _
  have HR1 : Hid (Rec W1 w.heap.size #[.slice none 0 0, .slice none 0 0, .int .i64 0, .int .i64 0] 25) := by rw [← hW1]; exact (rec_new _ _ _).alloc _
  have HR2 : Hid (Rec W1 (w.heap.size + 1) #[.slice none 0 0, .slice none 0 0, .int .i64 0, .int .i64 0] 25) := by
    rw [← hW1]
    have := rec_new (w.alloc (.cells #[.slice none 0 0, .slice none 0 0, .int .i64 0, .int .i64 0] 25)) #[.slice none 0 0, .slice none 0 0, .int .i64 0, .int .i64 0] 25
    rwa [show (w.alloc (.cells #[.slice none 0 0, .slice none 0 0, .int .i64 0, .int .i64 0] 25)).heap.size = w.heap.size + 1 by simp] at this
  clear hW1
  have a0 := HR1.out.cell 0 rfl
  have a1 := HR1.out.cell 1 rfl
  have z0 := HR1.out.z 0
  have z1 := HR1.out.z 1
  go_wp2_with fail
  go_region_with (first | (refine (HCn.out _ _).mono ?_; rintro e w2 ⟨rfl, hw⟩; rw [hw]; clear hw) | (refine (HCr.out _ _).mono ?_; rintro e w2 ⟨rfl, hw⟩; rw [hw]; clear hw))
  all_goals
    clear a0 a1 z0 z1
    generalize hW2 : World.drew _ = W2
    have HB2 : Hid (Below w.heap.size w W2) := by rw [← hW2]; exact ((HB1.out.setCell (Nat.le_refl _) _).setCell (Nat.le_refl _) _).drew
    have HS1 : Hid (Rec W2 w.heap.size #[.slice none 0 0, .slice none 0 0, .int .i64 0, .int .i64 0] 25) := by rw [← hW2]; exact (HR1.out.set 0 _).set 1 _
    have HS2 : Hid (Rec W2 (w.heap.size + 1) #[.slice none 0 0, .slice none 0 0, .int .i64 0, .int .i64 0] 25) := by rw [← hW2]; exact (HR2.out.other (by omega)).other (by omega)
    clear hW2
    have a0 := HS1.out.cell 0 rfl
    have a1 := HS1.out.cell 1 rfl
    have a2 := HS1.out.cell 2 rfl
    have a3 := HS1.out.cell 3 rfl
    have y0 := HS2.out.z 0
    have y1 := HS2.out.z 1
    have y2 := HS2.out.z 2
    have y3 := HS2.out.z 3
    have b0 := HS2.out.cell 0 rfl
    have b1 := HS2.out.cell 1 rfl
    have b2 := HS2.out.cell 2 rfl
    have b3 := HS2.out.cell 3 rfl
    go_wp2_with fail
    generalize hW9 : World.setCell _ _ _ = W9
    have HR9 : Hid (Rec W9 (w.heap.size + 1) #[.slice none 0 0, .slice none 0 0, .int .i64 0, .int .i64 0] 25) := by rw [← hW9]; exact (((HS2.out.set 0 _).set 1 _).set 2 _).set 3 _
    have HB9 : Hid (Below w.heap.size w W9) := by rw [← hW9]; exact (((HB2.out.setCell (Nat.le_succ _) _).setCell (Nat.le_succ _) _).setCell (Nat.le_succ _) _).setCell (Nat.le_succ _) _
    clear hW9
    have q0 := HR9.out.cell 0 rfl
    have q1 := HR9.out.cell 1 rfl
    have q2 := HR9.out.cell 2 rfl
    have q3 := HR9.out.cell 3 rfl
    refine bodyPost_ret (v := .agg #[.slice none 0 0, .slice none 0 0, .int .i64 0, .int .i64 0]) ?_ rfl ⟨rfl, HB9.out⟩
    simp [results, Tryz.results12, go_sem, q0, q1, q2, q3]
end Go.Proofs.YteddjlbfbpecjaaGreatDoor

