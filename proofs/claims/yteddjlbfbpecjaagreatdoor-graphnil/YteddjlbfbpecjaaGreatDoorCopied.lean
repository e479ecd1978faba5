/- Copy, at every value of moderate size. -/
import Derived.Test.YteddjlbfbpecjaaGreatDoorCopy
namespace Go.Proofs.YteddjlbfbpecjaaGreatDoor
open Go.RowKit Go.Shelf Go.WideShapes
set_option linter.unusedVariables false

theorem box_frozen {w w1 : World} {A A' : Array Value} (hb : Below ((w.alloc (.cells A 60)).alloc (.cells A' 60)).heap.size ((w.alloc (.cells A 60)).alloc (.cells A' 60)) w1) :
    (∀ i, w1.frozen? ⟨w.heap.size, i, none⟩ = false) ∧ (∀ i, w1.frozen? ⟨w.heap.size + 1, i, none⟩ = false) := by
  simp only [World.size_alloc] at hb
  have h1 : ((w.alloc (.cells A 60)).alloc (.cells A' 60)).heap[w.heap.size]? = some (.cells A 60 (0, 0)) := by
    rw [Below.heap_alloc _ _ _ (by simp)]; exact World.alloc_heap_new _ _
  have h2 : ((w.alloc (.cells A 60)).alloc (.cells A' 60)).heap[w.heap.size + 1]? = some (.cells A' 60 (0, 0)) := by
    have := World.alloc_heap_new (w.alloc (.cells A 60)) (.cells A' 60)
    rwa [World.size_alloc] at this
  refine ⟨fun i => ?_, fun i => ?_⟩
  · rw [hb.frozen (p := ⟨w.heap.size, i, none⟩) (by show w.heap.size < _; omega)]
    unfold World.frozen?
    simp [h1]
  · rw [hb.frozen (p := ⟨w.heap.size + 1, i, none⟩) (by show w.heap.size + 1 < _; omega)]
    unfold World.frozen?
    rw [show (⟨w.heap.size + 1, i, none⟩ : Addr).block = w.heap.size + 1 from rfl, h2]
    simp

set_option maxRecDepth 100000 in
set_option maxHeartbeats 2000000 in
theorem copy_any : ∀ T, CopyOk T := by
  refine Tree.ind ?_
  intro k x n s ks ts ih B v w hB hv htot
  simp only [Lies] at hv
  obtain ⟨ka, kc, la, lc, rfl, ⟨hs1, hs2, hs3, hs4, hs5⟩, hk, ht⟩ := hv
  simp only [Tree.total] at htot
  have hkb := keyBytes_nonneg ks
  have htl := totalL_len ts
  obtain ⟨W, hW⟩ : ∃ W, (w.alloc (.cells #[.int .i64 k, .bool x, .int .i64 n, .string s, .slice ka ks.length kc, .slice la ts.length lc] 60)).alloc (.cells #[.int .i64 0, .bool false, .int .i64 0, .string ⟨#[]⟩, .slice none 0 0, .slice none 0 0] 60) = W := ⟨_, rfl⟩
  have HX : Hid (∀ w1, Below W.heap.size W w1 → (Below w.heap.size w w1 ∧ (∀ i v, (#[Value.int .i64 k, .bool x, .int .i64 n, .string s, .slice ka ks.length kc, .slice la ts.length lc] : Array Value)[i]? = some v → w1.cell? ⟨w.heap.size, i, none⟩ = some v) ∧ (∀ i v, (#[Value.int .i64 0, .bool false, .int .i64 0, .string ⟨#[]⟩, .slice none 0 0, .slice none 0 0] : Array Value)[i]? = some v → w1.cell? ⟨w.heap.size + 1, i, none⟩ = some v)) ∧
      (∀ i, w1.frozen? ⟨w.heap.size, i, none⟩ = false) ∧ (∀ i, w1.frozen? ⟨w.heap.size + 1, i, none⟩ = false)) := fun w1 hb => by
    rw [← hW] at hb
    exact ⟨two_boxes hb, box_frozen hb⟩
  have hWs : W.heap.size = w.heap.size + 2 := by rw [← hW]; simp
  have hbW := (HX.out W (Below.refl _ _)).1.1
  have HCL := hidE (clone_any B ka kc ks W (hk.below (hbW.mono hB)) (by omega))
  have HLL : Hid (∀ w1, Below w.heap.size w w1 → ListLies B w1 la ts) := fun w1 hb => ListLies.below ht (hb.mono hB)
  have HIH := hidE ih
  have HW := hidE hW
  have HTT : Hid (Tree.totalL ts ≤ 1000000) := by show _ ≤ _; omega
  clear hk ht ih hW
  go_enter Tryz.func147, Tryz.ntmps147
  go_wp2_with fail
  rw [HW.out]
  refine HCL.out.mono ?_
  rintro e w2 ⟨ka', kc', rfl, ⟨hk1, hk2⟩, hkr, hb2⟩
  obtain ⟨⟨hbw2, hq, hr⟩, fz, fy⟩ := HX.out w2 hb2
  have q0 := hq 0 _ rfl
  have q1 := hq 1 _ rfl
  have q2 := hq 2 _ rfl
  have q3 := hq 3 _ rfl
  have q4 := hq 4 _ rfl
  have q5 := hq 5 _ rfl
  have f4 := fz 4
  have HB2 := hidE hb2
  have HBW2 := hidE hbw2
  have HKR := hidE hkr
  have HR := hidE (And.intro hr (And.intro fz fy))
  clear hb2 hbw2 hkr hq hr fz fy HCL HW
  go_wp2_with fail
  have hw3 : Below w.heap.size w (w2.setCell ⟨w.heap.size, 4, none⟩ (.slice ka' ks.length kc')) := HBW2.out.setCell (p := ⟨w.heap.size, 4, none⟩) (Nat.le_refl _) _
  refine (copies_any ts HIH.out B la lc _ (Nat.le_trans hB hw3.size) (HLL.out _ hw3) hs4 hs5 HTT.out).mono ?_
  rintro e w4 ⟨la', lc', rfl, ⟨g1, g2⟩, hlr, hb4⟩
  obtain ⟨w3, hw3e⟩ : ∃ w3, w2.setCell ⟨w.heap.size, 4, none⟩ (.slice ka' ks.length kc') = w3 := ⟨_, rfl⟩
  rw [hw3e] at hlr hb4 hw3
  have hs2' : w.heap.size + 2 ≤ w2.heap.size := by have := HB2.out.size; omega
  have hs3 : w3.heap.size = w2.heap.size := by rw [← hw3e]; simp
  have hc3 : ∀ b o, b < w2.heap.size → ¬ (b = w.heap.size ∧ o = 4) → w3.cell? ⟨b, o, none⟩ = w2.cell? ⟨b, o, none⟩ := fun b o _ h => by
    rw [← hw3e]; exact World.cell?_setCell_other _ _ _ _ (fun e => h (by simp only [Addr.mk.injEq] at e; omega))
  have hc4 : ∀ b o, b < w2.heap.size → w4.cell? ⟨b, o, none⟩ = w3.cell? ⟨b, o, none⟩ := fun b o h => hb4.cell (p := ⟨b, o, none⟩) (by rw [hs3]; exact h)
  have hf4 : ∀ b o, b < w2.heap.size → w4.frozen? ⟨b, o, none⟩ = w2.frozen? ⟨b, o, none⟩ := fun b o h => by
    rw [hb4.frozen (p := ⟨b, o, none⟩) (by rw [hs3]; exact h), ← hw3e, World.frozen?_setCell]
  have c0 := (hc4 w.heap.size 0 (by omega)).trans ((hc3 _ _ (by omega) (by omega)).trans q0)
  have c1 := (hc4 w.heap.size 1 (by omega)).trans ((hc3 _ _ (by omega) (by omega)).trans q1)
  have c2 := (hc4 w.heap.size 2 (by omega)).trans ((hc3 _ _ (by omega) (by omega)).trans q2)
  have c3 := (hc4 w.heap.size 3 (by omega)).trans ((hc3 _ _ (by omega) (by omega)).trans q3)
  have c4 : w4.cell? ⟨w.heap.size, 4, none⟩ = some (.slice ka' ks.length kc') := (hc4 w.heap.size 4 (by omega)).trans (by rw [← hw3e]; exact World.cell?_setCell_same _ _ _ q4)
  have c5 := (hc4 w.heap.size 5 (by omega)).trans ((hc3 _ _ (by omega) (by omega)).trans q5)
  have d0 := (hc4 (w.heap.size + 1) 0 (by omega)).trans ((hc3 _ _ (by omega) (by omega)).trans (HR.out.1 0 _ rfl))
  have d1 := (hc4 (w.heap.size + 1) 1 (by omega)).trans ((hc3 _ _ (by omega) (by omega)).trans (HR.out.1 1 _ rfl))
  have d2 := (hc4 (w.heap.size + 1) 2 (by omega)).trans ((hc3 _ _ (by omega) (by omega)).trans (HR.out.1 2 _ rfl))
  have d3 := (hc4 (w.heap.size + 1) 3 (by omega)).trans ((hc3 _ _ (by omega) (by omega)).trans (HR.out.1 3 _ rfl))
  have d4 := (hc4 (w.heap.size + 1) 4 (by omega)).trans ((hc3 _ _ (by omega) (by omega)).trans (HR.out.1 4 _ rfl))
  have d5 := (hc4 (w.heap.size + 1) 5 (by omega)).trans ((hc3 _ _ (by omega) (by omega)).trans (HR.out.1 5 _ rfl))
  have e5 := (hf4 w.heap.size 5 (by omega)).trans (HR.out.2.1 5)
  have y0 := (hf4 (w.heap.size + 1) 0 (by omega)).trans (HR.out.2.2 0)
  have y1 := (hf4 (w.heap.size + 1) 1 (by omega)).trans (HR.out.2.2 1)
  have y2 := (hf4 (w.heap.size + 1) 2 (by omega)).trans (HR.out.2.2 2)
  have y3 := (hf4 (w.heap.size + 1) 3 (by omega)).trans (HR.out.2.2 3)
  have y4 := (hf4 (w.heap.size + 1) 4 (by omega)).trans (HR.out.2.2 4)
  have y5 := (hf4 (w.heap.size + 1) 5 (by omega)).trans (HR.out.2.2 5)
  have HLR := hidE hlr
  have HB4 := hidE hb4
  have HBW4 : Hid (Below w.heap.size w w4) := hw3.trans (hb4.mono hw3.size)
  have HS3 := hidE hs3
  have HSS := hidE hs2'
  have HC3 := hidE hc3
  have HC4 := hidE hc4
  clear hlr hb4 hw3 hs3 hs2' hc3 hc4 hf4 q0 q1 q2 q3 q4 q5 f4 HR
  go_wp2_with fail
  have HFB : Hid (Below w.heap.size w (six (w4.setCell ⟨w.heap.size, 5, none⟩ (.slice la' ts.length lc')) (w.heap.size + 1) 0 (.int .i64 k) (.bool x) (.int .i64 n) (.string s) (.slice ka' ks.length kc') (.slice la' ts.length lc'))) :=
    six_below (HBW4.out.setCell (p := ⟨w.heap.size, 5, none⟩) (Nat.le_refl _) _) (by omega) _ _ _ _ _ _
  refine bodyPost_ret (v := .agg #[.int .i64 k, .bool x, .int .i64 n, .string s, .slice ka' ks.length kc', .slice la' ts.length lc']) (by simp [results, Tryz.results147, go_sem, d0, d1, d2, d3, d4, d5]) rfl ⟨_, rfl, ?_, HFB.out⟩
  show LiesR w.heap.size (six (w4.setCell ⟨w.heap.size, 5, none⟩ (.slice la' ts.length lc')) (w.heap.size + 1) 0 (.int .i64 k) (.bool x) (.int .i64 n) (.string s) (.slice ka' ks.length kc') (.slice la' ts.length lc')).heap.size (six (w4.setCell ⟨w.heap.size, 5, none⟩ (.slice la' ts.length lc')) (w.heap.size + 1) 0 (.int .i64 k) (.bool x) (.int .i64 n) (.string s) (.slice ka' ks.length kc') (.slice la' ts.length lc')) _ _
  have hfin : ∀ lo B', w.heap.size + 2 ≤ lo → Keeps lo B' w4 (six (w4.setCell ⟨w.heap.size, 5, none⟩ (.slice la' ts.length lc')) (w.heap.size + 1) 0 (.int .i64 k) (.bool x) (.int .i64 n) (.string s) (.slice ka' ks.length kc') (.slice la' ts.length lc')) := fun lo B' h b o h1 _ => by
    rw [six_out (fun e => by omega)]
    exact World.cell?_setCell_other _ _ _ _ (fun e => by simp only [Addr.mk.injEq] at e; omega)
  have hsz : (six (w4.setCell ⟨w.heap.size, 5, none⟩ (.slice la' ts.length lc')) (w.heap.size + 1) 0 (.int .i64 k) (.bool x) (.int .i64 n) (.string s) (.slice ka' ks.length kc') (.slice la' ts.length lc')).heap.size = w4.heap.size := by rw [six_size]; simp
  rw [hsz]
  simp only [LiesR]
  refine ⟨ka', kc', la', lc', rfl, ⟨hs1, hk1, hk2, g1, g2⟩, ?_, ?_⟩
  · have k1 : KeysR (w.heap.size + 2) w2.heap.size w2 ka' ks := hWs ▸ HKR.out
    have k2 : KeysR (w.heap.size + 2) w2.heap.size w4 ka' ks := k1.keep (fun b o h1 h2 => (HC4.out b o h2).trans (HC3.out b o h2 (by omega)))
    exact (k2.keep (hfin _ _ (Nat.le_refl _))).mono (by omega) (by have := HB4.out.size; have := HS3.out; omega)
  · have l1 : ListR w3.heap.size w4.heap.size w4 la' ts := HLR.out
    exact (l1.keep (hfin _ _ (by have := HS3.out; have := HSS.out; omega))).mono (by have := HS3.out; have := HSS.out; omega) (Nat.le_refl _)
end Go.Proofs.YteddjlbfbpecjaaGreatDoor
