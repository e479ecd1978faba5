/- The example that every law of the stage runs (works 10). -/
import Derived.Test.YthfilnflgahcjaaGreatDoorSwk0
namespace Go.Proofs.YthfilnflgahcjaaGreatDoor
open Go.RowKit Go.Shelf Go.Maps
set_option linter.unusedVariables false
set_option linter.unusedSimpArgs false
attribute [local go_sem] Oper.semAt_some
theorem one_ok {x : ByteArray} (h : x.size ≤ 1) : okS x := Nat.le_trans h (by decide)
theorem val19 : labelledI sampleS [⟨#[65]⟩, ⟨#[66]⟩] = 1 := by kernel_rfl
theorem val24 : seekI sampleS ⟨#[65]⟩ ⟨#[107]⟩ = 2 := by kernel_rfl
theorem val26 : fanI sampleS 0 [] = 2 := by kernel_rfl
theorem val28 : fromI sampleS ⟨#[65]⟩ 1 [⟨#[84]⟩] = 1 := by kernel_rfl
theorem val32 : shareI 7 2 = 4 := by kernel_rfl
theorem sampleS_lies {base : Nat} {w : World} {vl vt ve vk : Value} (h : CntL base w vl vt ve vk sampleS) : StatL w.heap.size w vl vt ve vk sampleS := by
  refine ⟨h.l.srow fun _ => rfl, h.t.srow fun _ => rfl, h.e.srow fun _ => rfl, h.k.srow fun _ => rfl, ?_, ?_, ?_, ?_, by decide, by decide, by decide, by decide⟩
  · intro x hx
    simp only [sampleS, List.mem_cons, List.not_mem_nil, or_false] at hx
    rcases hx with rfl | rfl <;> exact one_ok (by decide)
  · intro x hx
    simp only [sampleS, List.mem_cons, List.not_mem_nil, or_false] at hx
    rcases hx with rfl | rfl <;> exact one_ok (by decide)
  · intro x hx
    simp only [sampleS, List.mem_cons, List.not_mem_nil, or_false] at hx
    rcases hx with rfl | rfl | rfl | rfl | rfl <;> exact ⟨one_ok (by decide), one_ok (by decide), w64 (by decide) (by decide)⟩
  · intro x hx
    simp only [sampleS, List.mem_cons, List.not_mem_nil, or_false] at hx
    rcases hx with rfl | rfl <;> exact ⟨one_ok (by decide), one_ok (by decide), w64 (by decide) (by decide), w64 (by decide) (by decide)⟩
theorem stable10 (bx : Nat) (la : Option Addr) (lc : Nat) (ta : Option Addr) (tc : Nat) (eb eo ec : Nat) (ka : Option Addr) (kc : Nat) : ∀ p ∈ facts10 bx la lc ta tc eb eo ec ka kc, Stable p := by
  intro p hp
  have hs : ∀ l : List ByteArray, Stable (fun v W => SRow 1 strE W.heap.size W v l) := fun l v W W' h hb => h.up hb hb.size
  simp only [facts10, List.mem_cons, List.not_mem_nil, or_false] at hp
  repeat (first | (rcases hp with rfl | hp; · first | exact eqv_stable _ | exact hs _) | (subst hp; first | exact eqv_stable _ | exact hs _))
theorem size10 : R10.size = 50 := by kernel_rfl
set_option maxRecDepth 100000 in
set_option maxHeartbeats 8000000 in
theorem works_any (w : World) (hE : Env w) : Calls Tryz.prog 10 #[] w fun e w' => e = .returned (.bool true) ∧ Below w.heap.size w w' := by
  have HE := hidE hE
  have HS := hidE (sample_any w)
  clear hE
  go_enter Tryz.func10, Tryz.ntmps10
  go_wp2_with fail
  refine HS.out.mono ?_
  rintro e w1 ⟨v, rfl, hg, hb1⟩
  have HB1 := hidE hb1
  have HC := hidE (count_sample v w1 (HE.out.below hb1 HE.out.room) hg)
  clear hg hb1 HS
  go_wp2_with fail
  refine HC.out.mono ?_
  rintro e w2 ⟨vl, vt, ve, vk, rfl, hl, hb2⟩
  have HB2 := hidE (Below.on HB1.out hb2)
  have HSL := hidE (sampleS_lies hl)
  obtain ⟨la, lc, rfl⟩ := hl.l.slice
  obtain ⟨ta, tc, rfl⟩ := hl.t.slice
  obtain ⟨ka, kc, rfl⟩ := hl.k.slice
  obtain ⟨ea, ec, rfl, _, _, hrow⟩ := HSL.out.he
  obtain ⟨eb, eo, rfl, hebl, hcel⟩ := hrow.resolve_left (by simp [sampleS])
  have hd : ∀ (j : Nat) (u : Value), (endC (⟨#[84]⟩, ⟨#[65]⟩, true, 2))[j]? = some u → w2.cell? ⟨eb, eo + 1 * 4 + j, none⟩ = some u := hcel 1 _ rfl
  have HD : Hid (eb < w2.heap.size ∧ w2.cell? ⟨eb, eo + 4, none⟩ = some (.string ⟨#[84]⟩) ∧ w2.cell? ⟨eb, eo + 4 + 1, none⟩ = some (.string ⟨#[65]⟩) ∧ w2.cell? ⟨eb, eo + 4 + 2, none⟩ = some (.bool true) ∧ w2.cell? ⟨eb, eo + 4 + 3, none⟩ = some (.int .i64 2)) :=
    ⟨hebl, hd 0 _ rfl, hd 1 _ rfl, hd 2 _ rfl, hd 3 _ rfl⟩
  simp only [statV, sampleS, List.length_cons, List.length_nil] at HSL ⊢
  clear hl hb2 HC hrow hcel hd hebl
  go_upto_region 2 with fail
  obtain ⟨W3, hW3⟩ : ∃ W, w2.alloc (.cells #[.int .i64 3, .int .i64 3, .slice la 2 lc, .slice ta 2 tc, .slice (some ⟨eb, eo, none⟩) 5 ec, .slice ka 2 kc] 33) = W := ⟨_, rfl⟩
  have HR : Hid (Rec W3 w2.heap.size #[.int .i64 3, .int .i64 3, .slice la 2 lc, .slice ta 2 tc, .slice (some ⟨eb, eo, none⟩) 5 ec, .slice ka 2 kc] 33) := by
    show Rec _ _ _ _
    rw [← hW3]; exact rec_new _ _ _
  have HB3 : Hid (Below w2.heap.size w2 W3) := by
    show Below _ _ _
    rw [← hW3]; exact (Below.refl _ _).alloc (Nat.le_refl _) _
  rw [hW3]
  clear hW3
  show (Code.region 2 R10 false).wp _ _ _ _
  refine facts_plain (A := anc10) (F := factsAt (facts10 w2.heap.size la lc ta tc eb eo ec ka kc)) (by kernel_rfl) (fun i v w w' => factsAt_stable (stable10 w2.heap.size la lc ta tc eb eo ec ka kc) i v w w') ?_ ?_
  · intro i hi c W hS hB hF
    have hb2W : Below w2.heap.size w2 W := Below.on HB3.out hB
    have hr := HR.out.below hB HR.out.lt
    obtain ⟨hebl, d0, d1, d2, d3⟩ := HD.out
    have hst : StatL W.heap.size W (.slice la 2 lc) (.slice ta 2 tc) (.slice (some ⟨eb, eo, none⟩) 5 ec) (.slice ka 2 kc) sampleS := StatL.up HSL.out hb2W hb2W.size
    have hcl : ∀ (j : Nat) (u : Value), w2.cell? ⟨eb, j, none⟩ = some u → W.cell? ⟨eb, j, none⟩ = some u := fun j u h => (hb2W.cell (p := ⟨eb, j, none⟩) hebl).trans h
    refine ops10 w2.heap.size la lc ta tc eb eo ec ka kc _ c W ((same_eval hS (by kernel_rfl)).trans rfl) ((same_eval hS (by kernel_rfl)).trans rfl) ⟨hr.cell 0 rfl, hr.cell 1 rfl, hr.cell 2 rfl, hr.cell 3 rfl, hr.cell 4 rfl, hr.cell 5 rfl, hcl _ _ d0, hcl _ _ d1, hcl _ _ d2, hcl _ _ d3, ?_, ?_, ?_, ?_, ?_, ?_⟩ i (by rwa [size10] at hi) hF
    · refine (num_any 0 W).mono ?_
      rintro e w' ⟨rfl, rfl⟩
      exact ⟨rfl, Below.refl _ _⟩
    · intro y hy
      have h := labelled_any sampleS (.slice la 2 lc) (.slice ta 2 tc) (.slice (some ⟨eb, eo, none⟩) 5 ec) (.slice ka 2 kc) y [⟨#[65]⟩, ⟨#[66]⟩] W.heap.size W (Nat.le_refl _) hst hy (fun x hx => by
        simp only [List.mem_cons, List.not_mem_nil, or_false] at hx
        rcases hx with rfl | rfl <;> exact one_ok (by decide)) (by decide)
      rw [val19] at h
      exact h
    · have h := seek_any sampleS (.slice la 2 lc) (.slice ta 2 tc) (.slice (some ⟨eb, eo, none⟩) 5 ec) (.slice ka 2 kc) ⟨#[65]⟩ ⟨#[107]⟩ W.heap.size W (Nat.le_refl _) hst (one_ok (by decide)) (one_ok (by decide))
      rw [val24] at h
      exact h
    · have h := fan_any sampleS (.slice la 2 lc) (.slice ta 2 tc) (.slice (some ⟨eb, eo, none⟩) 5 ec) (.slice ka 2 kc) (.slice none 0 0) 0 [] W.heap.size W (Nat.le_refl _) hst (srow_nil 1 strE _ _) (fun x hx => by simp at hx) (by decide)
      rw [val26] at h
      exact h
    · intro y hy
      have h := from_any sampleS (.slice la 2 lc) (.slice ta 2 tc) (.slice (some ⟨eb, eo, none⟩) 5 ec) (.slice ka 2 kc) y ⟨#[65]⟩ 1 [⟨#[84]⟩] W.heap.size W (Nat.le_refl _) hst hy (one_ok (by decide)) (fun x hx => by
        simp only [List.mem_cons, List.not_mem_nil, or_false] at hx
        subst hx; exact one_ok (by decide)) (by decide)
      rw [val28] at h
      exact h
    · refine (share_any 7 2 W).mono ?_
      rintro e w' ⟨rfl, rfl⟩
      exact ⟨by rw [val32], Below.refl _ _⟩
  · intro c W hS hB hF
    have h0 : c.eval (.tmp 0) = .bool true := fact_at (p := eqv (.bool true)) (by kernel_rfl) rfl (hF 49 (by rw [size10]; omega))
    have HB4 := hidE (Below.on HB2.out (Below.on HB3.out hB))
    clear hB hF
    go_wp2_with fail
    refine bodyPost_ret (results_tmp rfl c.tmps Tryz.prog W) hS.1 ?_
    exact ⟨congrArg Ending.returned h0, HB4.out⟩
end Go.Proofs.YthfilnflgahcjaaGreatDoor
