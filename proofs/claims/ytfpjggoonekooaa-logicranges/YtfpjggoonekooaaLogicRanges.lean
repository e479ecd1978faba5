/- For every three numbers of 64 bits the law LogicRanges returns true and the arguments stay as they were; no condition. -/
import Derived.Test.YtfpjggoonekooaaRrange
import Derived.ProofKit
import Derived.OpenShut
namespace Go.Proofs.Ytfpjggoonekooaa
open Go.ChangeShapes Go.WideShapes Go.ChangeAt Go.RowKit
set_option linter.unusedVariables false

theorem logicRanges_own : ownKnob Try.prog.godebug = none := by kernel_rfl

theorem wfr_lo {a : Int} (h : (Lit.int .i64 a).wf = true) : -9223372036854775808 ≤ a := by
  have h1 : IntKind.i64.min = -9223372036854775808 := rfl
  simp only [Lit.wf, Bool.and_eq_true, decide_eq_true_eq] at h
  omega
theorem wfr_hi {a : Int} (h : (Lit.int .i64 a).wf = true) : a ≤ 9223372036854775807 := by
  have h2 : IntKind.i64.max = 9223372036854775807 := rfl
  simp only [Lit.wf, Bool.and_eq_true, decide_eq_true_eq] at h
  omega

/-- A row of numbers that a call has made: its place and its cells. -/
theorem row_cells {base : Nat} {w : World} {v : Value} {L : List Int} (h : w.ownsRow base 2 1 v L.length (L.map (Value.int .i64))) (hL : 0 < L.length) :
    ∃ g cap, v = .slice (some ⟨g, 0, none⟩) L.length cap ∧ g < w.heap.size ∧ L.length ≤ cap ∧ ∀ j, j < L.length → w.cell? ⟨g, j, none⟩ = some (.int .i64 (L.getD j 0)) := by
  have ho := h
  obtain ⟨h1, ⟨rfl, h2⟩ | ⟨g, cap, cur, rfl, h3, h4, h5, h6, h7⟩⟩ := h
  · omega
  · refine ⟨g, cap, rfl, (ho.lt g rfl).2, h5, ?_⟩
    intro j hj
    have := ho.cells (g := g) rfl j (.int .i64 L[j]) (by simp [hj])
    rw [add_plain] at this
    simpa [List.getD, hj] using this

set_option maxHeartbeats 1600000 in
theorem ranges_zero (fr to : Int) (w : World) : Calls Try.prog 8 #[.int .i64 fr, .int .i64 to, .int .i64 0] w fun e w' => e = .returned (.bool true) ∧ Below w.heap.size w w' := by
  go_enter Try.func8, Try.ntmps8
  go_wp2_with fail
  refine (range_zero _ _ _).mono ?_; rintro e w' ⟨rfl, rfl⟩
  go_wp2_with fail
  refine (rrange_zero _ _ _).mono ?_; rintro e w' ⟨rfl, rfl⟩
  go_wp2_with (go_at_call 16; refine (num_any _ _).mono ?_; rintro e w' ⟨rfl, rfl⟩)
  refine wp_loop_rounds 1 ?_
  rw [rounds_succ]
  go_wp2_with fail
  refine (works_any _).mono ?_; rintro e w' ⟨rfl, hb⟩
  go_wp2
  go_ret
  exact ⟨rfl, hb⟩

set_option maxHeartbeats 3200000 in
theorem ranges_some (fr to step : Int) (w : World) (hf1 : -9223372036854775808 ≤ fr) (hf2 : fr ≤ 9223372036854775807) (ht1 : -9223372036854775808 ≤ to) (ht2 : to ≤ 9223372036854775807)
    (hs1 : -9223372036854775808 ≤ step) (hs2 : step ≤ 9223372036854775807) (hs : 0 < step ∨ step < 0) :
    Calls Try.prog 8 #[.int .i64 fr, .int .i64 to, .int .i64 step] w fun e w' => e = .returned (.bool true) ∧ Below w.heap.size w w' := by
  go_enter Try.func8, Try.ntmps8
  go_wp2_with fail
  refine (range_any _ _ _ _ hf1 hf2 ht1 ht2 hs1 hs2 hs).mono ?_
  rintro e w1 ⟨k1, hsay⟩
  generalize hL : rgo to step 65537 fr = L at hsay
  have HL := hidden hL
  clear hL
  rcases hsay with ⟨hlong, rfl⟩ | ⟨hshort, v, rfl, hown⟩
  · go_wp2_with fail
    refine (rrange_any _ _ _ _ hf1 hf2 ht1 ht2 hs1 hs2 hs).mono ?_
    rintro e w2 ⟨k2, hsay2⟩
    rw [HL.out] at hsay2
    rcases hsay2 with ⟨_, rfl⟩ | ⟨h, _⟩
    · have hbel := below_on k1 k2
      clear k1 k2 hlong
      go_wp2_with (go_at_call 16; refine (num_any _ _).mono ?_; rintro e w' ⟨rfl, rfl⟩)
      refine wp_loop_rounds 1 ?_
      rw [rounds_succ]
      go_wp2_with fail
      refine (works_any _).mono ?_; rintro e w' ⟨rfl, hb⟩
      go_wp2
      go_ret
      exact ⟨rfl, below_on hbel hb⟩
    · omega
  · have HSH := hidden hshort
    obtain ⟨adx, capx, hvx⟩ := ownsRow_slice hown
    subst hvx
    go_wp2_with fail
    refine (rrange_any _ _ _ _ hf1 hf2 ht1 ht2 hs1 hs2 hs).mono ?_
    rintro e w2 ⟨k2, hsay2⟩
    rw [HL.out] at hsay2
    rcases hsay2 with ⟨h, _⟩ | ⟨_, v2, rfl, hown2⟩
    · omega
    · have hown1 := ownsRow_below hown k2
      have hbel := below_on k1 k2
      obtain ⟨ady, capy, hvy⟩ := ownsRow_slice hown2
      subst hvy
      clear k1 k2 hown
      have hlen : L.length ≤ 9223372036854775807 := by omega
      by_cases hz : L.length = 0
      · have HZ := hidden hz
        rw [hz]
        clear hlen hshort hown1 hown2 hz
        go_wp2_with (go_at_call 16; refine (num_any _ _).mono ?_; rintro e w' ⟨rfl, rfl⟩)
        refine wp_loop_rounds 1 ?_
        rw [rounds_succ]
        go_wp2_with fail
        refine (works_any _).mono ?_; rintro e w' ⟨rfl, hb⟩
        go_wp2
        go_ret
        exact ⟨rfl, below_on hbel hb⟩
      · obtain ⟨g, cap, hvg, hg, hcg, hcell⟩ := row_cells hown1 (by omega)
        obtain ⟨g', cap', hvg', hg', hcg', hcell'⟩ := row_cells hown2 (by omega)
        rw [hvg, hvg']
        have HC := hidden hcell
        have HC' := hidden hcell'
        generalize hN : L.length = N at *
        clear hown1 hown2 hvg hvg' hcell hcell' hg hg' hshort hz adx ady capx capy
        have HN := hidden hN
        clear hN
        go_wp2_with (go_at_call 16; refine (num_any _ _).mono ?_; rintro e w' ⟨rfl, rfl⟩)
        go_loopw [11] (fun i wr => ∃ k : Nat, k ≤ N ∧ i = .int .i64 k ∧ ∃ q, wr = World.drewN _ q) (fun i _ => N - (intOf i).toNat)
        case atStart => exact ⟨0, by omega, rfl, 0, rfl⟩
        case round =>
          obtain ⟨k, hk, rfl, q, hwr⟩ := hrel
          subst hwr
          by_cases hlt : k < N
          · have h1 := HC.out k hlt
            have h2 := HC'.out k hlt
            generalize L.getD k 0 = z at h1 h2
            go_wp2
            go_quiet (fail)
            go_wp2
            go_roundw
            case rel => exact ⟨k + 1, by omega, by go_num, _, rfl⟩
            case measure => simp [intOf]; omega
          · go_wp2_with fail
            refine (works_any _).mono ?_; rintro e w' ⟨rfl, hb⟩
            go_wp2
            go_ret
            exact ⟨rfl, below_on (below_drewN hbel _) hb⟩


theorem logicRanges_walk (a0 : Int) (a1 : Int) (a2 : Int) (w0 : (Lit.int .i64 a0).wf = true) (w1 : (Lit.int .i64 a1).wf = true) (w2 : (Lit.int .i64 a2).wf = true) (w : World) :
    Calls Try.prog 8 #[.int .i64 a0, .int .i64 a1, .int .i64 a2] w fun e w' => e = .returned (.bool true) ∧ Below w.heap.size w w' := by
  by_cases h0 : a2 = 0
  · subst h0
    exact ranges_zero a0 a1 w
  · exact ranges_some a0 a1 a2 w (wfr_lo w0) (wfr_hi w0) (wfr_lo w1) (wfr_hi w1) (wfr_lo w2) (wfr_hi w2) (by omega)

/- The row's step. -/
set_option maxRecDepth 100000 in
theorem logicRanges_lifted (os : Os) (started : os.Started) (H : Type) (enc : TypeId × Value → H) :
    ReturnsInHanded {} Try.checked os 8 .any (Rows.logicRangesSpec.pre6 enc Try.prog Try.f8 Rows.logicRangesRow.domain false) (Rows.logicRangesSpec.post enc Try.prog Try.f8 false true false false) := by
  refine returnsInHanded_of_change (C := Try.checked) logicRanges_own started (by kernel_rfl) Try.func8
    (ChangeSpec.witness6 (enc := enc) (C := Try.checked) false ⟨#[], #[.int .i64 0, .int .i64 0, .int .i64 0], []⟩ 8 (by kernel_rfl) (by kernel_rfl) (by kernel_rfl) (by kernel_rfl)) ?_
  intro W base args ds gs before hval0 hW hcnd _
  have hval : ∀ (j : Nat) t v, Try.f8.params[j]? = some t → args[j]? = some v → Value.okWide Try.prog W .any base t v := hval0
  have hW' := hW
  obtain ⟨p, q, hA0, hV, rfl, hfz, hnd⟩ := hW
  have hA : DataW.TrodAll enc Try.prog W 0 (fun _ => true) true Try.f8.params.toList args.toList ds p := hA0
  rw [Try.params8] at hA hval
  obtain ⟨v0, vs0, d0, ds0, p0, q0, hargs, rfl, rfl, h0, r0⟩ := trodAll_cons hA
  obtain ⟨v1, vs1, d1, ds1, p1, q1, rfl, rfl, rfl, h1, r1⟩ := trodAll_cons r0
  obtain ⟨v2, vs2, d2, ds2, p2, q2, rfl, rfl, rfl, h2, r2⟩ := trodAll_cons r1
  obtain ⟨rfl, rfl, rfl⟩ := trodAll_nil r2
  obtain rfl : args = #[v0, v1, v2] := by cases args; simp_all
  obtain ⟨rfl, rfl⟩ := trodVars_none hV
  obtain ⟨a0, rfl, rfl, rfl, w0⟩ := open_int Try.underlying2 (hval 0 2 v0 rfl rfl) h0
  obtain ⟨a1, rfl, rfl, rfl, w1⟩ := open_int Try.underlying2 (hval 1 2 v1 rfl rfl) h1
  obtain ⟨a2, rfl, rfl, rfl, w2⟩ := open_int Try.underlying2 (hval 2 2 v2 rfl rfl) h2
  clear hA0 hval0
  simp only [List.append_nil] at hW'
  refine (logicRanges_walk a0 a1 a2 w0 w1 w2 W).mono fun e W' ⟨he, hg⟩ => ?_
  subst he
  exact ⟨_, rfl, _, _, _, [], [], [], hW', (trodAll_cons_mk (shut_bool Try.underlying4 _) trodAll_mk0), (trodAll_cons_mk (shut_int Try.underlying2 w0) (trodAll_cons_mk (shut_int Try.underlying2 w1) (trodAll_cons_mk (shut_int Try.underlying2 w2) trodAll_mk0))), rfl, hg.frame _, fun h => by cases h⟩

theorem logicRanges_over : Rows.logicRangesRow.holds Try.pinned (OpenSpec.ofChange Rows.logicRangesSpec) :=
  OpenClaim.holds_of_wide 8 Try.f8 rfl rfl rfl rfl rfl rfl rfl ⟨rfl, rfl, rfl, rfl, rfl⟩ rfl rfl rfl rfl rfl (by kernel_rfl) Try.func8 (by kernel_rfl)
    (of_decide_eq_true (by kernel_rfl)) (by unfold Func.isWrapper; first | (rw [if_pos (by decide +kernel)]; kernel_rfl) | (rw [if_neg (by decide +kernel)]; exact ⟨rfl, rfl⟩))
    (fun os started H enc _ => logicRanges_lifted os started H enc)

/-- The statement. -/
theorem logicRanges_proved : Rows.LogicRangesSaid :=
  logicRanges_over
#print axioms logicRanges_proved
end Go.Proofs.Ytfpjggoonekooaa
