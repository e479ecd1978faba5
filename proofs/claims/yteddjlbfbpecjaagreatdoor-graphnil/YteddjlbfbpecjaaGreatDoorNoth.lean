/- A graph that is not there: all that is asked of it. -/
import Derived.Test.YteddjlbfbpecjaaGreatDoorJoin7
namespace Go.Proofs.YteddjlbfbpecjaaGreatDoor
open Go.RowKit Go.Shelf
set_option linter.unusedVariables false
set_option linter.unusedSimpArgs false
attribute [local go_sem] Oper.semAt_some
set_option maxRecDepth 100000 in
set_option maxHeartbeats 2000000 in
theorem rsame_zero (w : World) : Calls Tryz.prog 15 #[.agg #[.slice none 0 0, .slice none 0 0, .int .i64 0, .int .i64 0], .agg #[.slice none 0 0, .slice none 0 0, .int .i64 0, .int .i64 0]] w fun e w' => e = .returned (.bool true) ∧ Below w.heap.size w w' := by
  go_enter Tryz.func15, Tryz.ntmps15
  go_upto_region 1 with fail
  generalize hW1 : World.alloc _ _ = W1
  have HB1 : Hid (Below w.heap.size w W1) := by rw [← hW1]; exact ((Below.refl _ _).alloc (Nat.le_refl _) _).alloc (by simp) _
  have h0 : W1.heap[w.heap.size]? = some (.cells #[.slice none 0 0, .slice none 0 0, .int .i64 0, .int .i64 0] 25 (0, 0)) := by
    rw [← hW1]
    simp only [heap_alloc_at, World.size_alloc]
    repeat (first | rw [if_pos trivial] | rw [if_pos (by omega)] | rw [if_neg (by omega)])
  have h1 : W1.heap[w.heap.size + 1]? = some (.cells #[.slice none 0 0, .slice none 0 0, .int .i64 0, .int .i64 0] 25 (0, 0)) := by
    rw [← hW1]
    simp only [heap_alloc_at, World.size_alloc]
    repeat (first | rw [if_pos trivial] | rw [if_pos (by omega)] | rw [if_neg (by omega)])
  clear hW1
  have a0 : W1.cell? ⟨w.heap.size, 0, none⟩ = some (.slice none 0 0) := by simp [World.cell?, h0]
  have a1 : W1.cell? ⟨w.heap.size, 1, none⟩ = some (.slice none 0 0) := by simp [World.cell?, h0]
  have a2 : W1.cell? ⟨w.heap.size, 2, none⟩ = some (.int .i64 0) := by simp [World.cell?, h0]
  have a3 : W1.cell? ⟨w.heap.size, 3, none⟩ = some (.int .i64 0) := by simp [World.cell?, h0]
  have b0 : W1.cell? ⟨w.heap.size + 1, 0, none⟩ = some (.slice none 0 0) := by simp [World.cell?, h1]
  have b1 : W1.cell? ⟨w.heap.size + 1, 1, none⟩ = some (.slice none 0 0) := by simp [World.cell?, h1]
  have b2 : W1.cell? ⟨w.heap.size + 1, 2, none⟩ = some (.int .i64 0) := by simp [World.cell?, h1]
  have b3 : W1.cell? ⟨w.heap.size + 1, 3, none⟩ = some (.int .i64 0) := by simp [World.cell?, h1]
  clear h0 h1
  go_wp2_with fail
  go_loopw [5] (fun x wr => x = .int .i64 0 ∧ wr = W1) (fun _ _ => 0)
  case atStart => exact ⟨rfl, rfl⟩
  case round =>
    obtain ⟨rfl, rfl⟩ := hrel
    go_wp2_with fail
    go_loopw [6] (fun x wq => x = .int .i64 0 ∧ wq = wr) (fun _ _ => 0)
    case atStart => exact ⟨rfl, rfl⟩
    case round =>
      obtain ⟨rfl, rfl⟩ := hrel
      go_wp2_with fail
      go_ret
      exact ⟨rfl, HB1.out⟩
/-- A step, field by field. -/
structure St where
  k : Int
  id : Int
  to_ : Int
  rel : Bool
  key : ByteArray
  la : Option Addr
  ln : Nat
  lc : Nat
  pa : Option Addr
  pn : Nat
  pc : Nat
  vk : Int
  vb : Bool
  vn : Int
  vs : ByteArray
  ka : Option Addr
  kn : Nat
  kc : Nat
  ya : Option Addr
  yn : Nat
  yc : Nat
def St.cells (s : St) : Array Value := #[.int .i64 s.k, .int .i64 s.id, .int .i64 s.to_, .bool s.rel, .string s.key, .slice s.la s.ln s.lc, .slice s.pa s.pn s.pc, .int .i64 s.vk, .bool s.vb, .int .i64 s.vn, .string s.vs, .slice s.ka s.kn s.kc, .slice s.ya s.yn s.yc]
def St.val (s : St) : Value := .agg s.cells
theorem st_cell {s : St} {w : World} {b i : Nat} {v : Value} (h : w.heap[b]? = some (.cells s.cells 62 (0, 0))) (hi : s.cells[i]? = some v) : w.cell? ⟨b, i, none⟩ = some v := by
  simp [World.cell?, h, hi]
set_option maxRecDepth 100000 in
set_option maxHeartbeats 4000000 in
theorem nothing_no (p : Value) (hp0 : ∃ a, p = .pointer a) (s : St) (w : World) (h : NoG w p) : Calls Tryz.prog 29 #[p, s.val] w fun e w' => e = .returned (.bool true) ∧ Below w.heap.size w w' := by
  obtain ⟨pt, rfl⟩ := hp0
  have HG := hidE h
  have HCS : Hid (∀ (W : World) (b i : Nat) (v : Value), W.heap[b]? = some (.cells s.cells 62 (0, 0)) → s.cells[i]? = some v → W.cell? ⟨b, i, none⟩ = some v) := fun W b i v h hi => st_cell h hi
  obtain ⟨k, id, to_, rel, key, la, ln, lc, pa, pn, pc, vk, vb, vn, vs, ka, kn, kc, ya, yn, yc⟩ := s
  clear h
  unfold St.val St.cells
  unfold St.cells at HCS
  simp only at HCS ⊢
  go_enter Tryz.func29, Tryz.ntmps29
  go_upto_region 1 with fail
  generalize hW1 : World.alloc _ _ = W1
  have HB1 : Hid (Below w.heap.size w W1) := by rw [← hW1]; exact (Below.refl _ _).alloc (Nat.le_refl _) _
  have HX : Hid (∀ W, Below W1.heap.size W1 W → NoG W (.pointer pt) ∧ Below w.heap.size w W ∧ W.cell? ⟨w.heap.size, 1, none⟩ = some (.int .i64 id) ∧ W.cell? ⟨w.heap.size, 2, none⟩ = some (.int .i64 to_) ∧ W.cell? ⟨w.heap.size, 3, none⟩ = some (.bool rel) ∧ W.cell? ⟨w.heap.size, 4, none⟩ = some (.string key) ∧ W.cell? ⟨w.heap.size, 5, none⟩ = some (.slice la ln lc) ∧ W.cell? ⟨w.heap.size, 6, none⟩ = some (.slice pa pn pc) ∧ W.cell? ⟨w.heap.size, 7, none⟩ = some (.int .i64 vk) ∧ W.cell? ⟨w.heap.size, 8, none⟩ = some (.bool vb) ∧ W.cell? ⟨w.heap.size, 9, none⟩ = some (.int .i64 vn) ∧ W.cell? ⟨w.heap.size, 10, none⟩ = some (.string vs) ∧ W.cell? ⟨w.heap.size, 11, none⟩ = some (.slice ka kn kc) ∧ W.cell? ⟨w.heap.size, 12, none⟩ = some (.slice ya yn yc)) := by
    intro W hb
    have hh : W.heap[w.heap.size]? = some (.cells #[.int .i64 k, .int .i64 id, .int .i64 to_, .bool rel, .string key, .slice la ln lc, .slice pa pn pc, .int .i64 vk, .bool vb, .int .i64 vn, .string vs, .slice ka kn kc, .slice ya yn yc] 62 (0, 0)) := by
      rw [hb.block _ (by rw [← hW1]; simp), ← hW1]
      exact World.alloc_heap_new _ _
    refine ⟨HG.out.below (below_on HB1.out hb) (Nat.le_refl _), below_on HB1.out hb, ?_⟩
    exact ⟨HCS.out _ _ _ _ hh rfl, HCS.out _ _ _ _ hh rfl, HCS.out _ _ _ _ hh rfl, HCS.out _ _ _ _ hh rfl, HCS.out _ _ _ _ hh rfl, HCS.out _ _ _ _ hh rfl, HCS.out _ _ _ _ hh rfl, HCS.out _ _ _ _ hh rfl, HCS.out _ _ _ _ hh rfl, HCS.out _ _ _ _ hh rfl, HCS.out _ _ _ _ hh rfl, HCS.out _ _ _ _ hh rfl⟩
  clear hW1 HCS
  obtain ⟨b, hb⟩ : ∃ b, w.heap.size = b := ⟨_, rfl⟩
  have HBB := hidE hb
  rw [hb] at HX ⊢
  clear hb
  obtain ⟨hg, hbw, c1, c2, c3, c4, c5, c6, c7, c8, c9, c10, c11, c12⟩ := HX.out W1 (Below.refl _ _)
  have HG0 := hidE hg
  have HBw0 := hidE hbw
  clear hg hbw
  go_wp2_with fail
  refine (addNode_no _ _ _ _ HG0.out).mono ?_
  rintro e w2 ⟨rfl, hw⟩
  rw [hw]
  clear hw w2
  go_wp2_with fail
  refine (addRel_no _ _ _ _ _ _ HG0.out).mono ?_
  rintro e w3 ⟨rfl, hw⟩
  rw [hw]
  clear hw w3
  go_wp2_with fail
  refine (node_no _ _ _ HG0.out).mono ?_
  rintro e w4 ⟨rfl, hb⟩
  clear c1 c2 c3 c4 c5 c6 c7 c8 c9 c10 c11 c12
  go_upto_region 4 with fail
  generalize hWn : World.alloc _ _ = w5
  have HC5 : Hid (Below W1.heap.size W1 w5) := by rw [← hWn]; exact below_on (Below.refl _ _) (below_on hb ((Below.refl _ _).alloc (Nat.le_refl _) _))
  clear hWn hb
  obtain ⟨hg, hbw, c1, c2, c3, c4, c5, c6, c7, c8, c9, c10, c11, c12⟩ := HX.out w5 HC5.out
  have HG1 := hidE hg
  have HBw1 := hidE hbw
  clear hg hbw
  go_wp2_with fail
  refine (rel_no _ _ _ HG1.out).mono ?_
  rintro e w6 ⟨rfl, hb⟩
  clear c1 c2 c3 c4 c5 c6 c7 c8 c9 c10 c11 c12
  go_upto_region 5 with fail
  generalize hWn : World.alloc _ _ = w7
  have HC7 : Hid (Below W1.heap.size W1 w7) := by rw [← hWn]; exact below_on (HC5.out) (below_on hb ((Below.refl _ _).alloc (Nat.le_refl _) _))
  clear hWn hb
  obtain ⟨hg, hbw, c1, c2, c3, c4, c5, c6, c7, c8, c9, c10, c11, c12⟩ := HX.out w7 HC7.out
  have HG2 := hidE hg
  have HBw2 := hidE hbw
  clear hg hbw
  go_wp2_with fail
  refine (setProp_no _ _ _ _ _ _ _ _ _ _ _ _ _ _ _ HG2.out).mono ?_
  rintro e w8 ⟨rfl, hb⟩
  clear c1 c2 c3 c4 c5 c6 c7 c8 c9 c10 c11 c12
  have HC8 : Hid (Below W1.heap.size W1 w8) := below_on (HC7.out) hb
  clear hb
  obtain ⟨hg, hbw, c1, c2, c3, c4, c5, c6, c7, c8, c9, c10, c11, c12⟩ := HX.out w8 HC8.out
  have HG3 := hidE hg
  have HBw3 := hidE hbw
  clear hg hbw
  go_wp2_with fail
  refine (setLabel_no _ _ _ _ _ HG3.out).mono ?_
  rintro e w9 ⟨rfl, hb⟩
  clear c1 c2 c3 c4 c5 c6 c7 c8 c9 c10 c11 c12
  have HC9 : Hid (Below W1.heap.size W1 w9) := below_on (HC8.out) hb
  clear hb
  obtain ⟨hg, hbw, c1, c2, c3, c4, c5, c6, c7, c8, c9, c10, c11, c12⟩ := HX.out w9 HC9.out
  have HG4 := hidE hg
  have HBw4 := hidE hbw
  clear hg hbw
  go_wp2_with fail
  refine (drop_no _ _ _ _ HG4.out).mono ?_
  rintro e w10 ⟨rfl, hw⟩
  rw [hw]
  clear hw w10
  go_wp2_with fail
  refine (there_no _ _ HG4.out).mono ?_
  rintro e w11 ⟨rfl, hw⟩
  rw [hw]
  clear hw w11
  go_wp2_with fail
  refine (tell_no _ _ HG4.out).mono ?_
  rintro e w12 ⟨rfl, hb⟩
  clear c1 c2 c3 c4 c5 c6 c7 c8 c9 c10 c11 c12
  have HC12 : Hid (Below W1.heap.size W1 w12) := below_on (HC9.out) hb
  clear hb
  obtain ⟨hg, hbw, c1, c2, c3, c4, c5, c6, c7, c8, c9, c10, c11, c12⟩ := HX.out w12 HC12.out
  have HG5 := hidE hg
  have HBw5 := hidE hbw
  clear hg hbw
  go_wp2_with fail
  refine (rsame_zero _).mono ?_
  rintro e w13 ⟨rfl, hb⟩
  clear c1 c2 c3 c4 c5 c6 c7 c8 c9 c10 c11 c12
  have HC13 : Hid (Below W1.heap.size W1 w13) := below_on (HC12.out) hb
  clear hb
  obtain ⟨hg, hbw, c1, c2, c3, c4, c5, c6, c7, c8, c9, c10, c11, c12⟩ := HX.out w13 HC13.out
  have HG6 := hidE hg
  have HBw6 := hidE hbw
  clear hg hbw
  go_wp2_with fail
  refine (copy_no _ _ HG6.out).mono ?_
  rintro e w14 ⟨rfl, hw⟩
  rw [hw]
  clear hw w14
  go_wp2_with fail
  refine (list_no _ _ HG6.out).mono ?_
  rintro e w15 ⟨rfl, hb⟩
  clear c1 c2 c3 c4 c5 c6 c7 c8 c9 c10 c11 c12
  have HC15 : Hid (Below W1.heap.size W1 w15) := below_on (HC13.out) hb
  clear hb
  obtain ⟨hg, hbw, c1, c2, c3, c4, c5, c6, c7, c8, c9, c10, c11, c12⟩ := HX.out w15 HC15.out
  have HG7 := hidE hg
  have HBw7 := hidE hbw
  clear hg hbw
  go_wp2_with fail
  refine (labelled_no _ ⟨_, rfl⟩ _ _ HG7.out).mono ?_
  rintro e w16 ⟨rfl, hb⟩
  clear c1 c2 c3 c4 c5 c6 c7 c8 c9 c10 c11 c12
  have HC16 : Hid (Below W1.heap.size W1 w16) := below_on (HC15.out) hb
  clear hb
  obtain ⟨hg, hbw, c1, c2, c3, c4, c5, c6, c7, c8, c9, c10, c11, c12⟩ := HX.out w16 HC16.out
  have HG8 := hidE hg
  have HBw8 := hidE hbw
  clear hg hbw
  go_wp2_with fail
  refine (rels_no _ _ _ _ HG8.out).mono ?_
  rintro e w17 ⟨rfl, hw⟩
  rw [hw]
  clear hw w17
  go_wp2_with fail
  go_ret
  exact ⟨rfl, by first | exact HBw8.out | (rw [HBB.out]; exact HBw8.out) | (have := HBw8.out; rwa [HBB.out] at this)⟩
end Go.Proofs.YteddjlbfbpecjaaGreatDoor
