/- The walk of the law LogicSums: every list of numbers. -/
import Derived.Test.YtfpjggoonekooaaRsum
import Derived.Laws.AppendOwnNone
namespace Go.Proofs.Ytfpjggoonekooaa
open Go.RowKit Go.WideShapes
set_option linter.unusedVariables false

/-- The document's sum of no numbers, wherever they point. -/
theorem rsum_zero (ad : Option Addr) (cap : Nat) (w : World) :
    Calls Try.prog 31 #[.slice ad 0 cap] w fun e w' => e = .returned (.tuple #[.int .i64 0, .int .i64 0]) ∧ Below w.heap.size w w' := by
  go_enter Try.func31, Try.ntmps31
  go_wp2_with fail
  refine (of64_any _ _ (by omega) (by omega)).mono ?_; rintro e w1 ⟨v1, ds, rfl, k1, d1, l1, e1⟩
  have E1 := hidden e1
  have D1 := hidden d1
  obtain ⟨ad1, cap1, hv1⟩ := d1.slice
  subst hv1
  clear l1 e1 d1
  go_wp2
  refine wp_loop_rounds 1 ?_
  rw [rounds_succ]
  go_wp2_with fail
  refine (to64_any _ _ ds _ (D1.out.later ((Below.refl _ _).alloc (Nat.le_refl _) _))).mono ?_; rintro e w4 ⟨rfl, k4⟩
  have hfin := below_on k1 (below_alloc k4)
  have e0 : sg false (dv ds) = 0 := by rw [E1.out]; rfl
  clear k1 k4
  go_wp2
  go_ret2
  exact ⟨ret_ii (by first | (rw [e0]; exact fit_zero.1) | exact fit_zero.1) (by first | (rw [e0]; exact fit_zero.2) | exact fit_zero.2), hfin⟩

set_option maxHeartbeats 2000000 in
theorem sums_long (ad : Option Addr) (len cap : Nat) (w : World) (h : 500 < len) (hm : len ≤ maxLen) :
    Calls Try.prog 6 #[.slice ad len cap] w fun e w' => e = .returned (.bool true) ∧ Below w.heap.size w w' := by
  unfold maxLen at hm
  go_enter Try.func6, Try.ntmps6
  go_wp2_with fail
  refine (works_any _).mono ?_; rintro e w' ⟨rfl, hb⟩
  go_wp2
  go_ret
  exact ⟨rfl, hb⟩

theorem row_at {base : Nat} {w : World} {v : Value} {L : List Int} {n : Nat} (h : w.ownsRow base 2 1 v (n + 1) (L.map (Value.int .i64))) (hl : L.length = n + 1) :
    ∃ g cap, v = .slice (some ⟨g, 0, none⟩) (n + 1) cap ∧ g < w.heap.size ∧ n + 1 ≤ cap ∧ cap ≤ maxLen ∧ ∀ j, j < n + 1 → w.cell? ⟨g, j, none⟩ = some (.int .i64 (L.getD j 0)) := by
  have ho := h
  obtain ⟨h1, ⟨rfl, h2⟩ | ⟨g, cap, cur, rfl, h3, h4, h5, h6, h7⟩⟩ := h
  · omega
  · refine ⟨g, cap, rfl, (ho.lt g rfl).2, h5, h6, ?_⟩
    intro j hj
    have := ho.cells (g := g) rfl j (.int .i64 (L[j]'(by omega))) (by simp [show j < L.length by omega])
    rw [add_plain] at this
    simpa [List.getD, show j < L.length by omega] using this

set_option maxHeartbeats 6400000 in
theorem sums_some (b off cap : Nat) (zs : List Int) (w : World) (h0 : 0 < zs.length) (h1 : zs.length ≤ 500) (hcap : zs.length ≤ cap) (hcap2 : cap ≤ 9223372036854775807) (hb : b < w.heap.size)
    (hc : ∀ j, j < zs.length → w.cell? ⟨b, off + j, none⟩ = some (.int .i64 (zs.getD j 0))) (hr : Fits zs) :
    Calls Try.prog 6 #[.slice (some ⟨b, off, none⟩) zs.length cap] w fun e w' => e = .returned (.bool true) ∧ Below w.heap.size w w' := by
  obtain ⟨i0, hi, hz0, hz1, hz2⟩ := info_parts Try.info2
  have HC := hidden hc
  have HR := hidden hr
  clear hc hr
  have hd : decide (500 < (zs.length : Int)) = false := decide_eq_false (by omega)
  have hmade : (w.alloc (.cells #[] 2)).ownsRow w.heap.size 2 1 (.slice (some ⟨w.heap.size, 0, none⟩) 0 0) 0 [] := World.ownsRow_made w #[] 0 (Nat.le_refl _) (by unfold maxLen; omega) rfl
  have HMD := hidden hmade
  clear hmade
  go_enter Try.func6, Try.ntmps6
  go_wp2_with (first
    | (at_builtin; refine wpList_append_own _ rfl _ _ 37 rfl w.heap.size 2 i0 (.int .i64 0) 1 8 Try.underlying37 hi hz0 hz1 hz2 rfl (by decide) _ _ _ rfl HMD.out ⟨b, off, none⟩ zs.length cap (zs.map (Value.int .i64)) rfl (by simp) ?c1 ?c2 ?c3 ?c4 ?c5 ?_)
    | fail)
  case c1 =>
    intro j u hj
    rw [List.getElem?_map] at hj
    obtain ⟨z, hz, rfl⟩ := Option.map_eq_some_iff.1 hj
    have hjl : j < zs.length := by
      by_cases h : j < zs.length
      · exact h
      · rw [List.getElem?_eq_none (by omega)] at hz; cases hz
    rw [add_plain, World.cell?_alloc_past _ _ _ hb, HC.out j hjl, List.getD_eq_getElem?_getD, hz]; rfl
  case c2 => intro u hu; obtain ⟨z, _, rfl⟩ := List.mem_map.1 hu; rfl
  case c3 => unfold maxLen; omega
  case c4 => omega
  case c5 => simp
  intro v1 w1 hown1 hgrow1 _
  have hbel1 : Below w.heap.size w w1 := ((Below.refl _ _).alloc (Nat.le_refl _) _).grown hgrow1 (by simp) (fun j hj => by simp [Value.ownBlock] at hj; omega)
  obtain ⟨ad1, cap1, hv1⟩ := ownsRow_slice hown1
  subst hv1
  clear hgrow1 HMD
  go_wp2_with (first
    | (at_builtin; refine wpList_append_own _ rfl _ _ 37 rfl w.heap.size 2 i0 (.int .i64 0) 1 8 Try.underlying37 hi hz0 hz1 hz2 rfl (by decide) _ _ _ rfl (hown1.alloc _) ⟨w1.heap.size, 0, none⟩ 1 1 [.int .i64 77] rfl rfl ?d1 ?d2 ?d3 ?d4 ?d5 ?_)
    | fail)
  case d1 => exact cell_one_new _ _ _
  case d2 => intro u hu; simp at hu; subst hu; rfl
  case d3 => unfold maxLen; omega
  case d4 => omega
  case d5 => have := hbel1.size; simp; omega
  intro v2 w2 hown2 hgrow2 _
  have hbel2 : Below w.heap.size w w2 := (hbel1.alloc hbel1.size _).grown hgrow2 (by have := hbel1.size; simp; omega) (fun j hj => by have := (hown1.lt j hj).1; omega)
  have hown3 : w2.ownsRow w.heap.size 2 1 v2 (zs.length + 1) ((zs ++ [77]).map (Value.int .i64)) := by simpa using hown2
  clear hown1 hown2 hgrow2 hbel1
  obtain ⟨g, cap2, hv2, hg, hgc, hgm, hcell⟩ := row_at hown3 (by simp)
  subst hv2
  unfold maxLen at hgm
  have HG := hidden hcell
  clear hcell hown3
  have HM : Hid (∀ j, j < zs.length → w2.cell? ⟨g, j, none⟩ = some (.int .i64 (zs.getD j 0))) := fun j hj => by
    rw [HG.out j (by omega), List.getD_eq_getElem?_getD, List.getElem?_append_left hj, ← List.getD_eq_getElem?_getD]
  have HE : Hid (w2.cell? ⟨g, zs.length, none⟩ = some (.int .i64 77)) := by
    have := HG.out zs.length (by omega)
    rw [List.getD_eq_getElem?_getD, List.getElem?_append_right (Nat.le_refl _)] at this
    unfold Hid; simpa using this
  clear HG
  go_wp2_with fail
  refine (sum_any g 0 zs.length cap2 zs _ rfl (by omega) hg (by intro j hj; rw [Nat.zero_add]; exact HM.out j hj) HR.out).mono ?_; rintro e w3 ⟨rfl, k3⟩
  have hbel3 := below_on hbel2 k3
  go_wp2_with fail
  refine (rsum_any b off cap zs _ h1 (Nat.lt_of_lt_of_le hb hbel3.size) (cells_later hb HC hbel3).out HR.out).mono ?_; rintro e w4 ⟨rfl, k4⟩
  have k34 := below_on k3 k4
  have hbel4 := below_on hbel3 k4
  have HM4 : Hid (∀ j, j < zs.length → w4.cell? ⟨g, j, none⟩ = some (.int .i64 (zs.getD j 0))) := fun j hj => (k34.cell (p := ⟨g, j, none⟩) hg).trans (HM.out j hj)
  have he4 : w4.cell? ⟨g, zs.length, none⟩ = some (.int .i64 77) := (k34.cell (p := ⟨g, zs.length, none⟩) hg).trans HE.out
  have HC4 := cells_later hb HC hbel4
  clear HM HE HC k3 k4 k34 hbel3 hbel2 hg hb
  go_wp2
  go_loopw [8] (fun i wr => ∃ k : Nat, k ≤ zs.length ∧ i = .int .i64 k ∧ ∃ q, wr = w4.drewN q) (fun i _ => zs.length - (intOf i).toNat)
  case atStart => exact ⟨0, by omega, rfl, 0, rfl⟩
  case round =>
    obtain ⟨k, hk, rfl, q, hwr⟩ := hrel
    subst hwr
    by_cases hlt : k < zs.length
    · have x1 := HM4.out k hlt
      have x2 := HC4.out k hlt
      generalize zs.getD k 0 = z at x1 x2
      go_wp2
      go_quiet (fail)
      go_wp2
      go_roundw
      case rel => exact ⟨k + 1, by omega, by go_num, _, rfl⟩
      case measure => simp [intOf]; omega
    · go_wp2_with (go_at_call 16; refine (num_any _ _).mono ?_; rintro e w' ⟨rfl, rfl⟩)
      refine (works_any _).mono ?_; rintro e w' ⟨rfl, hb'⟩
      go_wp2
      go_ret
      exact ⟨rfl, below_on (below_drewN hbel4 _) hb'⟩

set_option maxHeartbeats 3200000 in
theorem sums_nil (w : World) :
    Calls Try.prog 6 #[.slice none 0 0] w fun e w' => e = .returned (.bool true) ∧ Below w.heap.size w w' := by
  obtain ⟨i0, hi, hz0, hz1, hz2⟩ := info_parts Try.info2
  have hmade : (w.alloc (.cells #[] 2)).ownsRow w.heap.size 2 1 (.slice (some ⟨w.heap.size, 0, none⟩) 0 0) 0 [] := World.ownsRow_made w #[] 0 (Nat.le_refl _) (by unfold maxLen; omega) rfl
  have HMD := hidden hmade
  clear hmade
  have hbel1 : Below w.heap.size w (w.alloc (.cells #[] 2)) := (Below.refl _ _).alloc (Nat.le_refl _) _
  go_enter Try.func6, Try.ntmps6
  go_wp2_with (first
    | (at_builtin; refine wpList_append_own_none rfl _ _ 37 rfl w.heap.size 2 i0 1 Try.underlying37 hi _ _ _ rfl HMD.out rfl ?_)
    | (at_builtin; refine wpList_append_own _ rfl _ _ 37 rfl w.heap.size 2 i0 (.int .i64 0) 1 8 Try.underlying37 hi hz0 hz1 hz2 rfl (by decide) _ _ _ rfl (HMD.out.alloc _) ⟨w.heap.size + 1, 0, none⟩ 1 1 [.int .i64 77] rfl rfl ?d1 ?d2 ?d3 ?d4 ?d5 ?_)
    | fail)
  case d1 =>
    intro j u hj
    match j, hj with
    | 0, hj => simp at hj; subst hj; simp [Addr.add, go_sem]
  case d2 => intro u hu; simp at hu; subst hu; rfl
  case d3 => unfold maxLen; omega
  case d4 => omega
  case d5 => have := hbel1.size; simp at *; omega
  intro v2 w2 hown2 hgrow2 _
  have hbel2 : Below w.heap.size w w2 := (hbel1.alloc hbel1.size _).grown hgrow2 (by have := hbel1.size; simp at *; omega) (fun j hj => by have := (HMD.out.lt j hj).1; omega)
  have hown3 : w2.ownsRow w.heap.size 2 1 v2 (0 + 1) ([77].map (Value.int .i64)) := by simpa using hown2
  clear hown2 hgrow2 hbel1 HMD
  obtain ⟨g, cap2, hv2, hg, hgc, hgm, hcell⟩ := row_at hown3 rfl
  subst hv2
  unfold maxLen at hgm
  have HE := hidden (hcell 0 (by omega))
  clear hcell hown3
  go_wp2_with fail
  refine (sum_zero _ _ _).mono ?_; rintro e w3 ⟨rfl, k3⟩
  go_wp2_with fail
  refine (rsum_zero _ _ _).mono ?_; rintro e w4 ⟨rfl, k4⟩
  have k34 := below_on k3 k4
  have hbel4 := below_on hbel2 k34
  have he4 : w4.cell? ⟨g, 0, none⟩ = some (.int .i64 77) := (k34.cell (p := ⟨g, 0, none⟩) hg).trans HE.out
  clear HE k3 k4 k34 hbel2 hg
  go_wp2
  refine wp_loop_rounds 1 ?_
  rw [rounds_succ]
  go_wp2_with (go_at_call 16; refine (num_any _ _).mono ?_; rintro e w' ⟨rfl, rfl⟩)
  refine (works_any _).mono ?_; rintro e w' ⟨rfl, hb'⟩
  go_wp2
  go_ret
  exact ⟨rfl, below_on hbel4 hb'⟩

set_option maxHeartbeats 3200000 in
theorem sums_empty (a : Addr) (cap : Nat) (w : World) :
    Calls Try.prog 6 #[.slice (some a) 0 cap] w fun e w' => e = .returned (.bool true) ∧ Below w.heap.size w w' := by
  obtain ⟨i0, hi, hz0, hz1, hz2⟩ := info_parts Try.info2
  have hmade : (w.alloc (.cells #[] 2)).ownsRow w.heap.size 2 1 (.slice (some ⟨w.heap.size, 0, none⟩) 0 0) 0 [] := World.ownsRow_made w #[] 0 (Nat.le_refl _) (by unfold maxLen; omega) rfl
  have HMD := hidden hmade
  clear hmade
  go_enter Try.func6, Try.ntmps6
  go_wp2_with (first
    | (at_builtin; refine wpList_append_own _ rfl _ _ 37 rfl w.heap.size 2 i0 (.int .i64 0) 1 8 Try.underlying37 hi hz0 hz1 hz2 rfl (by decide) _ _ _ rfl HMD.out a 0 cap [] rfl rfl ?c1 ?c2 ?c3 ?c4 ?c5 ?_)
    | fail)
  case c1 => intro j u hj; simp at hj
  case c2 => intro u hu; simp at hu
  case c3 => unfold maxLen; omega
  case c4 => omega
  case c5 => simp
  intro v1 w1 hown1 hgrow1 _
  have hbel1 : Below w.heap.size w w1 := ((Below.refl _ _).alloc (Nat.le_refl _) _).grown hgrow1 (by simp) (fun j hj => by simp [Value.ownBlock] at hj; omega)
  obtain ⟨ad1, cap1, hv1⟩ := ownsRow_slice hown1
  subst hv1
  clear hgrow1 HMD
  go_wp2_with (first
    | (at_builtin; refine wpList_append_own _ rfl _ _ 37 rfl w.heap.size 2 i0 (.int .i64 0) 1 8 Try.underlying37 hi hz0 hz1 hz2 rfl (by decide) _ _ _ rfl (hown1.alloc _) ⟨w1.heap.size, 0, none⟩ 1 1 [.int .i64 77] rfl rfl ?d1 ?d2 ?d3 ?d4 ?d5 ?_)
    | fail)
  case d1 => exact cell_one_new _ _ _
  case d2 => intro u hu; simp at hu; subst hu; rfl
  case d3 => unfold maxLen; omega
  case d4 => omega
  case d5 => have := hbel1.size; simp at *; omega
  intro v2 w2 hown2 hgrow2 _
  have hbel2 : Below w.heap.size w w2 := (hbel1.alloc hbel1.size _).grown hgrow2 (by have := hbel1.size; simp at *; omega) (fun j hj => by have := (hown1.lt j hj).1; omega)
  have hown3 : w2.ownsRow w.heap.size 2 1 v2 (0 + 1) ([77].map (Value.int .i64)) := by simpa using hown2
  clear hown2 hgrow2 hbel1 hown1
  obtain ⟨g, cap2, hv2, hg, hgc, hgm, hcell⟩ := row_at hown3 rfl
  subst hv2
  unfold maxLen at hgm
  have HE := hidden (hcell 0 (by omega))
  clear hcell hown3
  go_wp2_with fail
  refine (sum_zero _ _ _).mono ?_; rintro e w3 ⟨rfl, k3⟩
  go_wp2_with fail
  refine (rsum_zero _ _ _).mono ?_; rintro e w4 ⟨rfl, k4⟩
  have k34 := below_on k3 k4
  have hbel4 := below_on hbel2 k34
  have he4 : w4.cell? ⟨g, 0, none⟩ = some (.int .i64 77) := (k34.cell (p := ⟨g, 0, none⟩) hg).trans HE.out
  clear HE k3 k4 k34 hbel2 hg
  go_wp2
  refine wp_loop_rounds 1 ?_
  rw [rounds_succ]
  go_wp2_with (go_at_call 16; refine (num_any _ _).mono ?_; rintro e w' ⟨rfl, rfl⟩)
  refine (works_any _).mono ?_; rintro e w' ⟨rfl, hb'⟩
  go_wp2
  go_ret
  exact ⟨rfl, below_on hbel4 hb'⟩
end Go.Proofs.Ytfpjggoonekooaa
