/- The walk of the law LogicTruths: every list of truths, any two truths. -/
import Derived.Test.YtbpmhgcjefpigaaDoorLast
import Derived.Deep.RegionWith
namespace Go.Proofs.YtbpmhgcjefpigaaDoor
open Go.RowKit Go.WideShapes
set_option linter.unusedVariables false

theorem Tryd.info23 : (Tryd.prog.info? 23).map (fun i => (i.zero, i.size, i.bytes)) = some (some (.int .i64 0), 1, 8) := by kernel_rfl

theorem row_truths {base : Nat} {w : World} {v : Value} {L : List Int} {n : Nat} (h : w.ownsRow base 23 1 v (n + 1) (L.map (Value.int .i64))) (hl : L.length = n + 1) :
    ∃ g cap, v = .slice (some ⟨g, 0, none⟩) (n + 1) cap ∧ g < w.heap.size ∧ n + 1 ≤ cap ∧ cap ≤ maxLen ∧ ∀ j, j < n + 1 → w.cell? ⟨g, j, none⟩ = some (.int .i64 (L.getD j 0)) := by
  have ho := h
  obtain ⟨h1, ⟨rfl, h2⟩ | ⟨g, cap, cur, rfl, h3, h4, h5, h6, h7⟩⟩ := h
  · omega
  · refine ⟨g, cap, rfl, (ho.lt g rfl).2, h5, h6, ?_⟩
    intro j hj
    have := ho.cells (g := g) rfl j (.int .i64 (L[j]'(by omega))) (by simp [show j < L.length by omega])
    rw [add_plain] at this
    simpa [List.getD, show j < L.length by omega] using this

set_option maxHeartbeats 400000 in
theorem truths_long (ad : Option Addr) (len cap : Nat) (a b : Int) (w : World) (h : 1000 < len) (hm : len ≤ maxLen) :
    Calls Tryd.prog 3 #[.slice ad len cap, .int .i64 a, .int .i64 b] w fun e w' => e = .returned (.bool true) ∧ Below w.heap.size w w' := by
  unfold maxLen at hm
  go_enter Tryd.func3, Tryd.ntmps3
  go_wp2_with fail
  refine (works_any _).mono ?_; rintro e w' ⟨rfl, hb⟩
  go_wp2
  go_ret
  exact ⟨rfl, hb⟩

set_option maxRecDepth 100000 in
set_option maxHeartbeats 6400000 in
theorem truths_some (b0 off cap : Nat) (zs : List Int) (a b : Int) (w : World) (h0 : 0 < zs.length) (h1 : zs.length ≤ 1000) (hcap : zs.length ≤ cap) (hcap2 : cap ≤ 9223372036854775807) (hb : b0 < w.heap.size)
    (hc : ∀ j, j < zs.length → w.cell? ⟨b0, off + j, none⟩ = some (.int .i64 (zs.getD j 0))) (hT : Tabs w) :
    Calls Tryd.prog 3 #[.slice (some ⟨b0, off, none⟩) zs.length cap, .int .i64 a, .int .i64 b] w fun e w' => e = .returned (.bool true) ∧ Below w.heap.size w w' := by
  obtain ⟨i0, hi, hz0, hz1, hz2⟩ := info_parts Tryd.info23
  have HC := hidden hc
  clear hc
  have hd : decide (1000 < (zs.length : Int)) = false := decide_eq_false (by omega)
  have HMD := hidden (World.ownsRow_made (e := 23) (size := 1) w #[] 0 (Nat.le_refl _) (by unfold maxLen; omega) rfl)
  go_enter Tryd.func3, Tryd.ntmps3
  go_wp2_with (first
    | (at_builtin; refine wpList_append_own _ rfl _ _ 22 rfl w.heap.size 23 i0 (.int .i64 0) 1 8 Tryd.underlying22 hi hz0 hz1 hz2 rfl (by decide) _ _ _ rfl HMD.out ⟨b0, off, none⟩ zs.length cap (zs.map (Value.int .i64)) rfl (by simp) ?c1 ?c2 ?c3 ?c4 ?c5 ?_)
    | fail)
  case c1 =>
    intro j u hj
    rw [List.getElem?_map] at hj
    obtain ⟨z, hz, rfl⟩ := Option.map_eq_some_iff.1 hj
    have hjl : j < zs.length := by
      by_cases h : j < zs.length
      · exact h
      · rw [List.getElem?_eq_none (by omega)] at hz; cases hz
    rw [add_plain, World.cell?_alloc_past _ _ _ hb, HC.out j hjl, List.getD_eq_getElem?_getD, hz]; rfl
  case c2 => intro u hu; obtain ⟨z, _, rfl⟩ := List.mem_map.1 hu; rfl
  case c3 => unfold maxLen; omega
  case c4 => omega
  case c5 => simp
  intro v1 w1 hown1 hgrow1 _
  have hbel1 : Below w.heap.size w w1 := ((Below.refl _ _).alloc (Nat.le_refl _) _).grown hgrow1 (by simp) (fun j hj => by simp [Value.ownBlock] at hj; omega)
  obtain ⟨ad1, cap1, hv1⟩ := ownsRow_slice hown1
  subst hv1
  clear hgrow1 HMD
  go_wp2_with (first
    | (at_builtin; refine wpList_append_own _ rfl _ _ 22 rfl w.heap.size 23 i0 (.int .i64 0) 1 8 Tryd.underlying22 hi hz0 hz1 hz2 rfl (by decide) _ _ _ rfl (hown1.alloc _) ⟨w1.heap.size, 0, none⟩ 1 1 [.int .i64 77] rfl rfl ?d1 ?d2 ?d3 ?d4 ?d5 ?_)
    | fail)
  case d1 => exact cell_one_new _ _ _
  case d2 => intro u hu; simp at hu; subst hu; rfl
  case d3 => unfold maxLen; omega
  case d4 => omega
  case d5 => have := hbel1.size; simp; omega
  intro v2 w2 hown2 hgrow2 _
  have hbel2 : Below w.heap.size w w2 := (hbel1.alloc hbel1.size _).grown hgrow2 (by have := hbel1.size; simp; omega) (fun j hj => by have := (hown1.lt j hj).1; omega)
  have hown3 : w2.ownsRow w.heap.size 23 1 v2 (zs.length + 1) ((zs ++ [77]).map (Value.int .i64)) := by simpa using hown2
  clear hown1 hown2 hgrow2 hbel1
  obtain ⟨g, cap2, hv2, hg, hgc, hgm, hcell⟩ := row_truths hown3 (by simp)
  subst hv2
  unfold maxLen at hgm
  have HG := hidden hcell
  clear hcell hown3
  have HM : Hid (∀ j, j < zs.length → w2.cell? ⟨g, j, none⟩ = some (.int .i64 (zs.getD j 0))) := fun j hj => by
    rw [HG.out j (by omega), List.getD_eq_getElem?_getD, List.getElem?_append_left hj, ← List.getD_eq_getElem?_getD]
  have HE : Hid (w2.cell? ⟨g, zs.length, none⟩ = some (.int .i64 77)) := by
    have := HG.out zs.length (by omega)
    rw [List.getD_eq_getElem?_getD, List.getElem?_append_right (Nat.le_refl _)] at this
    unfold Hid; simpa using this
  clear HG
  go_wp2_with fail
  refine (and_any g 0 zs.length cap2 zs _ rfl (by omega) hg (by intro j hj; rw [Nat.zero_add]; exact HM.out j hj)).mono ?_; rintro e w3 ⟨rfl, k3⟩
  go_wp2_with fail
  refine (or_any g 0 zs.length cap2 zs _ rfl (by omega) (Nat.lt_of_lt_of_le hg k3.size) (by intro j hj; rw [Nat.zero_add]; exact cell_below k3 (Nat.le_refl _) (HM.out j hj))).mono ?_; rintro e w4 ⟨rfl, k4⟩
  have k34 := below_on k3 k4
  have hbel4 := below_on hbel2 k34
  have HM4 : Hid (∀ j, j < zs.length → w4.cell? ⟨g, j, none⟩ = some (.int .i64 (zs.getD j 0))) := fun j hj => cell_below k34 (Nat.le_refl _) (HM.out j hj)
  have HE4 := hidden (cell_below k34 (Nat.le_refl _) HE.out)
  have HC4 : Hid (∀ j, j < zs.length → w4.cell? ⟨b0, off + j, none⟩ = some (.int .i64 (zs.getD j 0))) := fun j hj => cell_below hbel4 (Nat.le_refl _) (HC.out j hj)
  clear HM HE HC k3 k4 k34 hbel2 hg hb
  go_wp2
  go_loopw [10] (fun i wr => ∃ k : Nat, k ≤ zs.length ∧ i = .int .i64 k ∧ ∃ q, wr = w4.drewN q) (fun i _ => zs.length - (intOf i).toNat)
  case atStart => exact ⟨0, by omega, rfl, 0, rfl⟩
  case round =>
    obtain ⟨k, hk, rfl, q, hwr⟩ := hrel
    by_cases hlt : k < zs.length
    · subst hwr
      have x1 := HM4.out k hlt
      have x2 := HC4.out k hlt
      generalize zs.getD k 0 = z at x1 x2
      go_wp2
      go_quiet (fail)
      go_wp2
      go_roundw
      case rel => exact ⟨k + 1, by omega, by go_num, _, rfl⟩
      case measure => simp [intOf]; omega
    · have hbx : Below w.heap.size w wr := by rw [hwr]; exact below_drewN hbel4 _
      have he : wr.cell? ⟨g, zs.length, none⟩ = some (.int .i64 77) := by rw [hwr]; exact HE4.out
      have HCx : Hid (∀ j, j < zs.length → wr.cell? ⟨b0, off + j, none⟩ = some (.int .i64 (zs.getD j 0))) := by rw [hwr]; exact HC4.out
      clear hwr HM4 HE4 HC4 hbel4
      obtain ⟨kk, bb, hval⟩ := value_cells a
      have cOf : ∀ W, Tabs W → Calls Tryd.prog 10 #[leaf kk bb 0] W fun e w' => e = .returned (.tuple #[.int .i64 (kn a), .bool true]) ∧ Below W.heap.size W w' := fun W h => hval ▸ of_value a W h
      have COF := hidden cOf
      have HV := hidden hval
      have HT := hidden (hT.below hbx)
      have hone : Hid (andL [a] = kn a) := by show _ = _; rcases kn_three a with h | h | h <;> simp [andL, tb, h]
      clear cOf hval
      go_wp2_with fail
      refine (value_any a _).mono ?_; rintro e w5 ⟨rfl, k5⟩
      rw [HV.out]
      have K5 : Below wr.heap.size wr w5 := below_alloc k5
      have t0 := alloc_cell _ _ _ _ 0 _ rfl k5
      have t1 := alloc_cell _ _ _ _ 1 _ rfl k5
      clear k5
      go_wp2_with fail
      refine (COF.out _ (HT.out.below (K5.alloc K5.size _))).mono ?_; rintro e w6 ⟨rfl, k6⟩
      have v0 := alloc_cell _ _ _ _ 0 _ rfl k6
      have v1 := alloc_cell _ _ _ _ 1 _ rfl k6
      have v2 := alloc_cell _ _ _ _ 2 _ rfl k6
      have v3 := alloc_cell _ _ _ _ 3 _ rfl k6
      have v4 := alloc_cell _ _ _ _ 4 _ rfl k6
      have v5 := alloc_cell _ _ _ _ 5 _ rfl k6
      have k56 : Below w5.heap.size w5 w6 := below_alloc k6
      have K6 : Below wr.heap.size wr w6 := below_on K5 k56
      have HT0 := hidden (cell_below k56 (Nat.le_refl _) t0)
      have HT1 := hidden (cell_below k56 (Nat.le_refl _) t1)
      have HE6 := hidden (cell_below K6 (Nat.le_refl _) he)
      have HVV := hidden (And.intro v0 (And.intro v1 (And.intro v2 (And.intro v3 (And.intro v4 v5)))))
      have HB6 := hidden (below_on hbx K6)
      have HK6 := hidden K6
      clear k6 k56 t0 t1 he v0 v1 v2 v3 v4 v5 K5 K6 COF
      go_wp2_with fail
      show (Code.region 13 R13 true).wp _ _ _ _
      refine region13 (some ⟨b0, off, none⟩) cap zs.length a b (andL zs) (orL zs) (kn a) g cap2 wr.heap.size w5.heap.size kk bb _ _ _ (by omega) (by omega) (by omega) rfl ⟨rfl, rfl, rfl, rfl, rfl, rfl, rfl, rfl, rfl, rfl⟩ ?_ ?_
      · intro W hb
        exact ⟨cell_below hb (Nat.le_refl _) HE6.out, cell_below hb (Nat.le_refl _) HT0.out, cell_below hb (Nat.le_refl _) HT1.out, cell_below hb (Nat.le_refl _) HVV.out.1, cell_below hb (Nat.le_refl _) HVV.out.2.1, cell_below hb (Nat.le_refl _) HVV.out.2.2.1, cell_below hb (Nat.le_refl _) HVV.out.2.2.2.1, cell_below hb (Nat.le_refl _) HVV.out.2.2.2.2.1, cell_below hb (Nat.le_refl _) HVV.out.2.2.2.2.2, rand_any b0 off cap zs W (by omega) (fun j hj => cell_below (below_on HK6.out hb) (Nat.le_refl _) (HCx.out j hj)), ror_any b0 off cap zs W (by omega) (fun j hj => cell_below (below_on HK6.out hb) (Nat.le_refl _) (HCx.out j hj)), HV.out, hone.out⟩
      · intro c W hc hd hb
        have HBW := hidden (below_on HB6.out hb)
        clear HB6 HK6 hb
        obtain ⟨tm, df⟩ := c
        obtain rfl : df = [] := hd
        go_wp2_with fail
        go_ret
        exact ⟨by simpa [Act.eval] using hc, HBW.out⟩
end Go.Proofs.YtbpmhgcjefpigaaDoor
