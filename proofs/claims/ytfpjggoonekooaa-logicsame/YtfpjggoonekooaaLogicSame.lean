/- For every three truths, any whole numbers of 64 bits, the law LogicSame returns true and the arguments stay as they were; no condition. -/
import Derived.Test.YtfpjggoonekooaaWorks
import Derived.ProofKit
import Derived.OpenShut
namespace Go.Proofs.Ytfpjggoonekooaa
open Go.ChangeShapes Go.WideShapes Go.ChangeAt Go.RowKit
set_option linter.unusedVariables false

theorem logicSame_own : ownKnob Try.prog.godebug = none := by kernel_rfl

theorem kn_0 : kn 0 = 0 := by decide
theorem kn_1 : kn 1 = 1 := by decide
theorem kn_2 : kn 2 = 2 := by decide

theorem truths (a b c : Int) : (andL [a, b] != andL [b, a]) = false ∧ (orL [a, b] != orL [b, a]) = false ∧ (andL [a, a] != andL [a, 2]) = false ∧ (orL [a, a] != andL [a, 2]) = false ∧
    (notI (notI a) != andL [a, 2]) = false ∧ (notI (andL [a, b]) != orL [notI a, notI b]) = false ∧ (notI (orL [a, b]) != andL [notI a, notI b]) = false ∧
    (andL [a, b, c] != andL [andL [a, b], c]) = false ∧ (orL [a, b, c] != orL [orL [a, b], c]) = false ∧ (andL [a, orL [b, c]] == orL [andL [a, b], andL [a, c]]) = true ∧
    (orL [a, andL [b, c]] == andL [orL [a, b], orL [a, c]]) = true ∧ (orL [a, andL [a, b]] == andL [a, 2]) = true ∧ (xorL [a, b] == orL [andL [a, notI b], andL [notI a, b]]) = true := by
  rcases kn_three a with ha | ha | ha <;> rcases kn_three b with hb | hb | hb <;> rcases kn_three c with hc | hc | hc <;>
    simp [andL, orL, xorL, notI, tb, ha, hb, hc, kn_0, kn_1, kn_2]

set_option maxHeartbeats 4000000 in
set_option maxRecDepth 100000 in

theorem logicSame_walk (a0 : Int) (a1 : Int) (a2 : Int) (w0 : (Lit.int .i64 a0).wf = true) (w1 : (Lit.int .i64 a1).wf = true) (w2 : (Lit.int .i64 a2).wf = true) (w : World) :
    Calls Try.prog 3 #[.int .i64 a0, .int .i64 a1, .int .i64 a2] w fun e w' => e = .returned (.bool true) ∧ Below w.heap.size w w' := by
  obtain ⟨n1, n2, n3, n4, n5, n6, n7, n8, n9, n10, n11, n12, n13⟩ := truths a0 a1 a2
  clear w0 w1 w2
  have hb0 : Below w.heap.size w w := Below.refl _ _
  go_enter Try.func3, Try.ntmps3
  go_wp2_with fail
  refine (and_two _ _ _).mono ?_; rintro e w1 ⟨rfl, k⟩
  have hb1 := below_on hb0 k; clear k hb0
  go_wp2_with fail
  refine (or_two _ _ _).mono ?_; rintro e w2 ⟨rfl, k⟩
  have hb2 := below_on hb1 k; clear k hb1
  go_wp2_with fail
  refine (not_any _ _).mono ?_; rintro e w3 ⟨rfl, k⟩
  have hb3 := below_on hb2 k; clear k hb2
  go_wp2_with fail
  refine (and_two _ _ _).mono ?_; rintro e w4 ⟨rfl, k⟩
  have hb4 := below_on hb3 k; clear k hb3
  go_wp2_with fail
  refine (or_two _ _ _).mono ?_; rintro e w5 ⟨rfl, k⟩
  have hb5 := below_on hb4 k; clear k hb4
  go_wp2_with fail
  refine (and_two _ _ _).mono ?_; rintro e w6 ⟨rfl, k⟩
  have hb6 := below_on hb5 k; clear k hb5
  go_wp2_with fail
  refine (three_any _ _).mono ?_; rintro e w7 ⟨rfl, k⟩
  have hb7 := below_on hb6 k; clear k hb6
  go_wp2_with fail
  refine (or_two _ _ _).mono ?_; rintro e w8 ⟨rfl, k⟩
  have hb8 := below_on hb7 k; clear k hb7
  go_wp2_with fail
  refine (three_any _ _).mono ?_; rintro e w9 ⟨rfl, k⟩
  have hb9 := below_on hb8 k; clear k hb8
  go_wp2_with fail
  refine (not_any _ _).mono ?_; rintro e w10 ⟨rfl, k⟩
  have hb10 := below_on hb9 k; clear k hb9
  go_wp2_with fail
  refine (three_any _ _).mono ?_; rintro e w11 ⟨rfl, k⟩
  have hb11 := below_on hb10 k; clear k hb10
  go_wp2_with fail
  refine (not_any _ _).mono ?_; rintro e w12 ⟨rfl, k⟩
  have hb12 := below_on hb11 k; clear k hb11
  go_wp2_with fail
  refine (not_any _ _).mono ?_; rintro e w13 ⟨rfl, k⟩
  have hb13 := below_on hb12 k; clear k hb12
  go_wp2_with fail
  refine (or_two _ _ _).mono ?_; rintro e w14 ⟨rfl, k⟩
  have hb14 := below_on hb13 k; clear k hb13
  go_wp2_with fail
  refine (not_any _ _).mono ?_; rintro e w15 ⟨rfl, k⟩
  have hb15 := below_on hb14 k; clear k hb14
  go_wp2_with fail
  refine (not_any _ _).mono ?_; rintro e w16 ⟨rfl, k⟩
  have hb16 := below_on hb15 k; clear k hb15
  go_wp2_with fail
  refine (and_two _ _ _).mono ?_; rintro e w17 ⟨rfl, k⟩
  have hb17 := below_on hb16 k; clear k hb16
  go_wp2_with fail
  refine (and_three _ _ _ _).mono ?_; rintro e w18 ⟨rfl, k⟩
  have hb18 := below_on hb17 k; clear k hb17
  go_wp2_with fail
  refine (and_two _ _ _).mono ?_; rintro e w19 ⟨rfl, k⟩
  have hb19 := below_on hb18 k; clear k hb18
  go_wp2_with fail
  refine (or_three _ _ _ _).mono ?_; rintro e w20 ⟨rfl, k⟩
  have hb20 := below_on hb19 k; clear k hb19
  go_wp2_with fail
  refine (or_two _ _ _).mono ?_; rintro e w21 ⟨rfl, k⟩
  have hb21 := below_on hb20 k; clear k hb20
  go_wp2_with fail
  refine (or_two _ _ _).mono ?_; rintro e w22 ⟨rfl, k⟩
  have hb22 := below_on hb21 k; clear k hb21
  go_wp2_with fail
  refine (and_two _ _ _).mono ?_; rintro e w23 ⟨rfl, k⟩
  have hb23 := below_on hb22 k; clear k hb22
  go_wp2_with fail
  refine (and_two _ _ _).mono ?_; rintro e w24 ⟨rfl, k⟩
  have hb24 := below_on hb23 k; clear k hb23
  go_wp2_with fail
  refine (or_two _ _ _).mono ?_; rintro e w25 ⟨rfl, k⟩
  have hb25 := below_on hb24 k; clear k hb24
  go_wp2_with fail
  refine (and_two _ _ _).mono ?_; rintro e w26 ⟨rfl, k⟩
  have hb26 := below_on hb25 k; clear k hb25
  go_wp2_with fail
  refine (or_two _ _ _).mono ?_; rintro e w27 ⟨rfl, k⟩
  have hb27 := below_on hb26 k; clear k hb26
  go_wp2_with fail
  refine (or_two _ _ _).mono ?_; rintro e w28 ⟨rfl, k⟩
  have hb28 := below_on hb27 k; clear k hb27
  go_wp2_with fail
  refine (and_two _ _ _).mono ?_; rintro e w29 ⟨rfl, k⟩
  have hb29 := below_on hb28 k; clear k hb28
  go_wp2_with fail
  refine (or_two _ _ _).mono ?_; rintro e w30 ⟨rfl, k⟩
  have hb30 := below_on hb29 k; clear k hb29
  go_wp2_with fail
  refine (three_any _ _).mono ?_; rintro e w31 ⟨rfl, k⟩
  have hb31 := below_on hb30 k; clear k hb30
  go_wp2_with fail
  refine (xor_any _ _ _).mono ?_; rintro e w32 ⟨rfl, k⟩
  have hb32 := below_on hb31 k; clear k hb31
  go_wp2_with fail
  refine (not_any _ _).mono ?_; rintro e w33 ⟨rfl, k⟩
  have hb33 := below_on hb32 k; clear k hb32
  go_wp2_with fail
  refine (and_two _ _ _).mono ?_; rintro e w34 ⟨rfl, k⟩
  have hb34 := below_on hb33 k; clear k hb33
  go_wp2_with fail
  refine (and_two _ _ _).mono ?_; rintro e w35 ⟨rfl, k⟩
  have hb35 := below_on hb34 k; clear k hb34
  go_wp2_with fail
  refine (or_two _ _ _).mono ?_; rintro e w36 ⟨rfl, k⟩
  have hb36 := below_on hb35 k; clear k hb35
  go_wp2_with fail
  refine (works_any _).mono ?_; rintro e w37 ⟨rfl, k⟩
  have hb37 := below_on hb36 k; clear k hb36
  go_wp2
  go_ret
  exact ⟨rfl, hb37⟩

/- The row's step. -/
set_option maxRecDepth 100000 in
theorem logicSame_lifted (os : Os) (started : os.Started) (H : Type) (enc : TypeId × Value → H) :
    ReturnsInHanded {} Try.checked os 3 .any (Rows.logicSameSpec.pre6 enc Try.prog Try.f3 Rows.logicSameRow.domain false) (Rows.logicSameSpec.post enc Try.prog Try.f3 false true false false) := by
  refine returnsInHanded_of_change (C := Try.checked) logicSame_own started (by kernel_rfl) Try.func3
    (ChangeSpec.witness6 (enc := enc) (C := Try.checked) false ⟨#[], #[.int .i64 0, .int .i64 0, .int .i64 0], []⟩ 8 (by kernel_rfl) (by kernel_rfl) (by kernel_rfl) (by kernel_rfl)) ?_
  intro W base args ds gs before hval0 hW hcnd _
  have hval : ∀ (j : Nat) t v, Try.f3.params[j]? = some t → args[j]? = some v → Value.okWide Try.prog W .any base t v := hval0
  have hW' := hW
  obtain ⟨p, q, hA0, hV, rfl, hfz, hnd⟩ := hW
  have hA : DataW.TrodAll enc Try.prog W 0 (fun _ => true) true Try.f3.params.toList args.toList ds p := hA0
  rw [Try.params3] at hA hval
  obtain ⟨v0, vs0, d0, ds0, p0, q0, hargs, rfl, rfl, h0, r0⟩ := trodAll_cons hA
  obtain ⟨v1, vs1, d1, ds1, p1, q1, rfl, rfl, rfl, h1, r1⟩ := trodAll_cons r0
  obtain ⟨v2, vs2, d2, ds2, p2, q2, rfl, rfl, rfl, h2, r2⟩ := trodAll_cons r1
  obtain ⟨rfl, rfl, rfl⟩ := trodAll_nil r2
  obtain rfl : args = #[v0, v1, v2] := by cases args; simp_all
  obtain ⟨rfl, rfl⟩ := trodVars_none hV
  obtain ⟨a0, rfl, rfl, rfl, w0⟩ := open_int Try.underlying22 (hval 0 22 v0 rfl rfl) h0
  obtain ⟨a1, rfl, rfl, rfl, w1⟩ := open_int Try.underlying22 (hval 1 22 v1 rfl rfl) h1
  obtain ⟨a2, rfl, rfl, rfl, w2⟩ := open_int Try.underlying22 (hval 2 22 v2 rfl rfl) h2
  clear hA0 hval0
  simp only [List.append_nil] at hW'
  refine (logicSame_walk a0 a1 a2 w0 w1 w2 W).mono fun e W' ⟨he, hg⟩ => ?_
  subst he
  exact ⟨_, rfl, _, _, _, [], [], [], hW', (trodAll_cons_mk (shut_bool Try.underlying4 _) trodAll_mk0), (trodAll_cons_mk (shut_int Try.underlying22 w0) (trodAll_cons_mk (shut_int Try.underlying22 w1) (trodAll_cons_mk (shut_int Try.underlying22 w2) trodAll_mk0))), rfl, hg.frame _, fun h => by cases h⟩

theorem logicSame_over : Rows.logicSameRow.holds Try.pinned (OpenSpec.ofChange Rows.logicSameSpec) :=
  OpenClaim.holds_of_wide 3 Try.f3 rfl rfl rfl rfl rfl rfl rfl ⟨rfl, rfl, rfl, rfl, rfl⟩ rfl rfl rfl rfl rfl (by kernel_rfl) Try.func3 (by kernel_rfl)
    (of_decide_eq_true (by kernel_rfl)) (by unfold Func.isWrapper; first | (rw [if_pos (by decide +kernel)]; kernel_rfl) | (rw [if_neg (by decide +kernel)]; exact ⟨rfl, rfl⟩))
    (fun os started H enc _ => logicSame_lifted os started H enc)

/-- The statement. -/
theorem logicSame_proved : Rows.LogicSameSaid :=
  logicSame_over
#print axioms logicSame_proved
end Go.Proofs.Ytfpjggoonekooaa
