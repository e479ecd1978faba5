/- The walk of the law LogicTruths at no truths. -/
import Derived.Test.YtbpmhgcjefpigaaDoorTruths
namespace Go.Proofs.YtbpmhgcjefpigaaDoor
open Go.RowKit Go.WideShapes
set_option linter.unusedVariables false

set_option maxRecDepth 100000 in
set_option maxHeartbeats 6400000 in
theorem truths_empty (ad : Addr) (cap : Nat) (a b : Int) (w : World) (hT : Tabs w) :
    Calls Tryd.prog 3 #[.slice (some ad) 0 cap, .int .i64 a, .int .i64 b] w fun e w' => e = .returned (.bool true) ∧ Below w.heap.size w w' := by
  obtain ⟨i0, hi, hz0, hz1, hz2⟩ := info_parts Tryd.info23
  have HMD := hidden (World.ownsRow_made (e := 23) (size := 1) w #[] 0 (Nat.le_refl _) (by unfold maxLen; omega) rfl)
  go_enter Tryd.func3, Tryd.ntmps3
  go_wp2_with (first
    | (at_builtin; refine wpList_append_own _ rfl _ _ 22 rfl w.heap.size 23 i0 (.int .i64 0) 1 8 Tryd.underlying22 hi hz0 hz1 hz2 rfl (by decide) _ _ _ rfl HMD.out ad 0 cap [] rfl rfl ?c1 ?c2 ?c3 ?c4 ?c5 ?_)
    | fail)
  case c1 => intro j u hj; simp at hj
  case c2 => intro u hu; simp at hu
  case c3 => unfold maxLen; omega
  case c4 => omega
  case c5 => simp
  intro v1 w1 hown1 hgrow1 _
  have hbel1 : Below w.heap.size w w1 := ((Below.refl _ _).alloc (Nat.le_refl _) _).grown hgrow1 (by simp) (fun j hj => by simp [Value.ownBlock] at hj; omega)
  obtain ⟨ad1, cap1, hv1⟩ := ownsRow_slice hown1
  subst hv1
  clear hgrow1 HMD
  go_wp2_with (first
    | (at_builtin; refine wpList_append_own _ rfl _ _ 22 rfl w.heap.size 23 i0 (.int .i64 0) 1 8 Tryd.underlying22 hi hz0 hz1 hz2 rfl (by decide) _ _ _ rfl (hown1.alloc _) ⟨w1.heap.size, 0, none⟩ 1 1 [.int .i64 77] rfl rfl ?d1 ?d2 ?d3 ?d4 ?d5 ?_)
    | fail)
  case d1 => exact cell_one_new _ _ _
  case d2 => intro u hu; simp at hu; subst hu; rfl
  case d3 => unfold maxLen; omega
  case d4 => omega
  case d5 => have := hbel1.size; simp at *; omega
  intro v2 w2 hown2 hgrow2 _
  have hbel2 : Below w.heap.size w w2 := (hbel1.alloc hbel1.size _).grown hgrow2 (by have := hbel1.size; simp at *; omega) (fun j hj => by have := (hown1.lt j hj).1; omega)
  have hown3 : w2.ownsRow w.heap.size 23 1 v2 (0 + 1) ([77].map (Value.int .i64)) := by simpa using hown2
  clear hown2 hgrow2 hbel1 hown1
  obtain ⟨g, cap2, hv2, hg, hgc, hgm, hcell⟩ := row_truths hown3 rfl
  subst hv2
  unfold maxLen at hgm
  have HE := hidden (hcell 0 (by omega))
  clear hcell hown3
  go_wp2_with fail
  refine (and_any g 0 0 cap2 [] _ rfl (by omega) hg (by intro j hj; omega)).mono ?_; rintro e w3 ⟨rfl, k3⟩
  go_wp2_with fail
  refine (or_any g 0 0 cap2 [] _ rfl (by omega) (Nat.lt_of_lt_of_le hg k3.size) (by intro j hj; omega)).mono ?_; rintro e w4 ⟨rfl, k4⟩
  have k34 := below_on k3 k4
  have hbx := below_on hbel2 k34
  have he : w4.cell? ⟨g, 0, none⟩ = some (.int .i64 77) := cell_below k34 (Nat.le_refl _) HE.out
  clear HE k3 k4 k34 hbel2 hg
  go_wp2
  refine wp_loop_rounds 1 ?_
  rw [rounds_succ]
  obtain ⟨kk, bb, hval⟩ := value_cells a
  have cOf : ∀ W, Tabs W → Calls Tryd.prog 10 #[leaf kk bb 0] W fun e w' => e = .returned (.tuple #[.int .i64 (kn a), .bool true]) ∧ Below W.heap.size W w' := fun W h => hval ▸ of_value a W h
  have COF := hidden cOf
  have HV := hidden hval
  have HT := hidden (hT.below hbx)
  have hone : Hid (andL [a] = kn a) := by show _ = _; rcases kn_three a with h | h | h <;> simp [andL, tb, h]
  clear cOf hval
  go_wp2_with fail
  refine (value_any a _).mono ?_; rintro e w5 ⟨rfl, k5⟩
  rw [HV.out]
  have K5 : Below w4.heap.size w4 w5 := below_alloc k5
  have t0 := alloc_cell _ _ _ _ 0 _ rfl k5
  have t1 := alloc_cell _ _ _ _ 1 _ rfl k5
  clear k5
  go_wp2_with fail
  refine (COF.out _ (HT.out.below (K5.alloc K5.size _))).mono ?_; rintro e w6 ⟨rfl, k6⟩
  have v0 := alloc_cell _ _ _ _ 0 _ rfl k6
  have v1 := alloc_cell _ _ _ _ 1 _ rfl k6
  have v2 := alloc_cell _ _ _ _ 2 _ rfl k6
  have v3 := alloc_cell _ _ _ _ 3 _ rfl k6
  have v4 := alloc_cell _ _ _ _ 4 _ rfl k6
  have v5 := alloc_cell _ _ _ _ 5 _ rfl k6
  have k56 : Below w5.heap.size w5 w6 := below_alloc k6
  have K6 : Below w4.heap.size w4 w6 := below_on K5 k56
  have HT0 := hidden (cell_below k56 (Nat.le_refl _) t0)
  have HT1 := hidden (cell_below k56 (Nat.le_refl _) t1)
  have HE6 := hidden (cell_below K6 (Nat.le_refl _) he)
  have HVV := hidden (And.intro v0 (And.intro v1 (And.intro v2 (And.intro v3 (And.intro v4 v5)))))
  have HB6 := hidden (below_on hbx K6)
  have HK6 := hidden K6
  clear k6 k56 t0 t1 he v0 v1 v2 v3 v4 v5 K5 K6 COF
  go_wp2_with fail
  show (Code.region 13 R13 true).wp _ _ _ _
  refine region13 (some ad) cap 0 a b (andL []) (orL []) (kn a) g cap2 w4.heap.size w5.heap.size kk bb _ _ _ (by omega) (by omega) (by omega) rfl ⟨rfl, rfl, rfl, rfl, rfl, rfl, rfl, rfl, rfl, rfl⟩ ?_ ?_
  · intro W hb
    exact ⟨cell_below hb (Nat.le_refl _) HE6.out, cell_below hb (Nat.le_refl _) HT0.out, cell_below hb (Nat.le_refl _) HT1.out, cell_below hb (Nat.le_refl _) HVV.out.1, cell_below hb (Nat.le_refl _) HVV.out.2.1, cell_below hb (Nat.le_refl _) HVV.out.2.2.1, cell_below hb (Nat.le_refl _) HVV.out.2.2.2.1, cell_below hb (Nat.le_refl _) HVV.out.2.2.2.2.1, cell_below hb (Nat.le_refl _) HVV.out.2.2.2.2.2, rand_zero _ _ W, ror_zero _ _ W, HV.out, hone.out⟩
  · intro c W hc hd hb
    have HBW := hidden (below_on HB6.out hb)
    clear HB6 HK6 hb
    obtain ⟨tm, df⟩ := c
    obtain rfl : df = [] := hd
    go_wp2_with fail
    go_ret
    exact ⟨by simpa [Act.eval] using hc, HBW.out⟩
end Go.Proofs.YtbpmhgcjefpigaaDoor
