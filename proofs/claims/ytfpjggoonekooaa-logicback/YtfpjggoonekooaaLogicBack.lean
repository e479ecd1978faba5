/- For every two numbers of 64 bits the law LogicBack returns true and the arguments stay as they were; no condition. -/
import Derived.Test.YtfpjggoonekooaaBack1
import Derived.Test.YtfpjggoonekooaaBack2
import Derived.Test.YtfpjggoonekooaaBack3
import Derived.Test.YtfpjggoonekooaaBack4
import Derived.ProofKit
import Derived.OpenShut
namespace Go.Proofs.Ytfpjggoonekooaa
open Go.ChangeShapes Go.WideShapes Go.ChangeAt Go.RowKit
set_option linter.unusedVariables false

theorem logicBack_own : ownKnob Try.prog.godebug = none := by kernel_rfl


theorem logicBack_walk (a0 : Int) (a1 : Int) (w0 : (Lit.int .i64 a0).wf = true) (w1 : (Lit.int .i64 a1).wf = true) (w : World) :
    Calls Try.prog 4 #[.int .i64 a0, .int .i64 a1] w fun e w' => e = .returned (.bool true) ∧ Below w.heap.size w w' := by
  have ha1 := wf_lo w0
  have ha2 := wf_hi w0
  have hb1 := wf_lo w1
  have hb2 := wf_hi w1
  clear w0 w1
  by_cases hz : a1 = 0
  · by_cases hm : a0 ≤ -9223372036854775808
    · exact bk_zero_min a0 a1 0 0 w ha1 ha2 hb1 hb2 (by omega) (by omega) hm (by omega) (by omega)
    · by_cases hn : a0 < 0
      · exact bk_zero_neg a0 a1 0 0 w ha1 ha2 hb1 hb2 (by omega) (by omega) (by omega) hn (by omega) (by omega)
      · exact bk_zero_pos a0 a1 0 0 w ha1 ha2 hb1 hb2 (by omega) (by omega) (by omega) (by omega) (by omega)
  · obtain ⟨f1, f2, f3, f4, f5, f6⟩ := quo_facts a0 a1 ha1 ha2 (by omega)
    by_cases hs : a0 ≤ -9223372036854775808 ∧ a1 = -1
    · obtain ⟨hs1, hs2⟩ := hs
      have hr : Hid (a0.tmod a1 = 0) := by unfold Hid; have := f5 (by omega); omega
      exact bk_special a0 a1 0 0 w ha1 ha2 hb1 hb2 (by omega) hs1 (by omega) (by omega) hr
    · obtain ⟨q1, q2⟩ := f6 (by omega)
      have hq : Hid (wrap64 (a0.tdiv a1) = a0.tdiv a1) := IntWalk.wrap64_in _ ⟨q1, q2⟩
      have hr : Hid (a0.tmod a1 = a0.tmod a1) := rfl
      have ht : (a0.tdiv a1 * a1 + a0.tmod a1 == a0) = true := beq_iff_eq.2 f1
      have t1 : -9223372036854775808 ≤ a0.tdiv a1 * a1 + a0.tmod a1 := by omega
      have t2 : a0.tdiv a1 * a1 + a0.tmod a1 ≤ 9223372036854775807 := by omega
      have m1 : -9223372036854775808 ≤ a0.tdiv a1 * a1 := by omega
      have m2 : a0.tdiv a1 * a1 ≤ 9223372036854775807 := by omega
      by_cases hbp : 0 < a1
      · have b1 : 0 < a1 := by omega
        obtain ⟨c1, c2⟩ := f4 b1
        by_cases hrz : a0.tmod a1 = 0
        · by_cases hm : a0 ≤ -9223372036854775808
          · have g := f3 (by omega)
            exact bk_pos_min_in_zero a0 a1 _ _ w ha1 ha2 hb1 hb2 (by omega) (by omega) (by omega) b1 hq hr q1 q2 m1 m2 ht t1 t2 (by omega) (by omega) (by omega) (by omega)
          · by_cases hn : a0 < 0
            · have g := f3 hn
              exact bk_pos_neg_in_zero a0 a1 _ _ w ha1 ha2 hb1 hb2 (by omega) (by omega) (by omega) (by omega) b1 hq hr q1 q2 m1 m2 ht t1 t2 (by omega) (by omega) (by omega) (by omega)
            · have g := f2 (by omega)
              by_cases hu : 9223372036854775807 < a0 + a1
              · exact bk_pos_pos_over_zero a0 a1 _ _ w ha1 ha2 hb1 hb2 (by omega) (by omega) b1 hq hr q1 q2 m1 m2 ht t1 t2 (by omega) (by omega) (by omega) (by omega)
              · exact bk_pos_pos_in_zero a0 a1 _ _ w ha1 ha2 hb1 hb2 (by omega) (by omega) (by omega) b1 hq hr q1 q2 m1 m2 ht t1 t2 (by omega) (by omega) (by omega) (by omega)
        · by_cases hm : a0 ≤ -9223372036854775808
          · have g := f3 (by omega)
            exact bk_pos_min_in_sign a0 a1 _ _ w ha1 ha2 hb1 hb2 (by omega) (by omega) (by omega) b1 hq hr q1 q2 m1 m2 ht t1 t2 (by omega) (by omega) (by omega)
          · by_cases hn : a0 < 0
            · have g := f3 hn
              exact bk_pos_neg_in_sign a0 a1 _ _ w ha1 ha2 hb1 hb2 (by omega) (by omega) (by omega) (by omega) b1 hq hr q1 q2 m1 m2 ht t1 t2 (by omega) (by omega) (by omega)
            · have g := f2 (by omega)
              by_cases hu : 9223372036854775807 < a0 + a1
              · exact bk_pos_pos_over_sign a0 a1 _ _ w ha1 ha2 hb1 hb2 (by omega) (by omega) b1 hq hr q1 q2 m1 m2 ht t1 t2 (by omega) (by omega) (by omega)
              · exact bk_pos_pos_in_sign a0 a1 _ _ w ha1 ha2 hb1 hb2 (by omega) (by omega) (by omega) b1 hq hr q1 q2 m1 m2 ht t1 t2 (by omega) (by omega) (by omega)
      · have b1 : a1 < 0 := by omega
        obtain ⟨c1, c2⟩ := f5 b1
        by_cases hrz : a0.tmod a1 = 0
        · by_cases hm : a0 ≤ -9223372036854775808
          · have g := f3 (by omega)
            exact bk_neg_min_under_zero a0 a1 _ _ w ha1 ha2 hb1 hb2 (by omega) (by omega) b1 (by omega) hq hr q1 q2 m1 m2 ht t1 t2 (by omega) (by omega) (by omega) (by omega)
          · by_cases hn : a0 < 0
            · have g := f3 hn
              by_cases hu : a0 + a1 < -9223372036854775808
              · exact bk_neg_neg_under_zero a0 a1 _ _ w ha1 ha2 hb1 hb2 (by omega) (by omega) (by omega) b1 hq hr q1 q2 m1 m2 ht t1 t2 (by omega) (by omega) (by omega) (by omega)
              · exact bk_neg_neg_in_zero a0 a1 _ _ w ha1 ha2 hb1 hb2 (by omega) (by omega) (by omega) (by omega) b1 hq hr q1 q2 m1 m2 ht t1 t2 (by omega) (by omega) (by omega) (by omega)
            · have g := f2 (by omega)
              exact bk_neg_pos_in_zero a0 a1 _ _ w ha1 ha2 hb1 hb2 (by omega) (by omega) (by omega) b1 hq hr q1 q2 m1 m2 ht t1 t2 (by omega) (by omega) (by omega) (by omega)
        · by_cases hm : a0 ≤ -9223372036854775808
          · have g := f3 (by omega)
            exact bk_neg_min_under_sign a0 a1 _ _ w ha1 ha2 hb1 hb2 (by omega) (by omega) b1 (by omega) hq hr q1 q2 m1 m2 ht t1 t2 (by omega) (by omega) (by omega)
          · by_cases hn : a0 < 0
            · have g := f3 hn
              by_cases hu : a0 + a1 < -9223372036854775808
              · exact bk_neg_neg_under_sign a0 a1 _ _ w ha1 ha2 hb1 hb2 (by omega) (by omega) (by omega) b1 hq hr q1 q2 m1 m2 ht t1 t2 (by omega) (by omega) (by omega)
              · exact bk_neg_neg_in_sign a0 a1 _ _ w ha1 ha2 hb1 hb2 (by omega) (by omega) (by omega) (by omega) b1 hq hr q1 q2 m1 m2 ht t1 t2 (by omega) (by omega) (by omega)
            · have g := f2 (by omega)
              exact bk_neg_pos_in_sign a0 a1 _ _ w ha1 ha2 hb1 hb2 (by omega) (by omega) (by omega) b1 hq hr q1 q2 m1 m2 ht t1 t2 (by omega) (by omega) (by omega)

/- The row's step. -/
set_option maxRecDepth 100000 in
theorem logicBack_lifted (os : Os) (started : os.Started) (H : Type) (enc : TypeId × Value → H) :
    ReturnsInHanded {} Try.checked os 4 .any (Rows.logicBackSpec.pre6 enc Try.prog Try.f4 Rows.logicBackRow.domain false) (Rows.logicBackSpec.post enc Try.prog Try.f4 false true false false) := by
  refine returnsInHanded_of_change (C := Try.checked) logicBack_own started (by kernel_rfl) Try.func4
    (ChangeSpec.witness6 (enc := enc) (C := Try.checked) false ⟨#[], #[.int .i64 0, .int .i64 0], []⟩ 8 (by kernel_rfl) (by kernel_rfl) (by kernel_rfl) (by kernel_rfl)) ?_
  intro W base args ds gs before hval0 hW hcnd _
  have hval : ∀ (j : Nat) t v, Try.f4.params[j]? = some t → args[j]? = some v → Value.okWide Try.prog W .any base t v := hval0
  have hW' := hW
  obtain ⟨p, q, hA0, hV, rfl, hfz, hnd⟩ := hW
  have hA : DataW.TrodAll enc Try.prog W 0 (fun _ => true) true Try.f4.params.toList args.toList ds p := hA0
  rw [Try.params4] at hA hval
  obtain ⟨v0, vs0, d0, ds0, p0, q0, hargs, rfl, rfl, h0, r0⟩ := trodAll_cons hA
  obtain ⟨v1, vs1, d1, ds1, p1, q1, rfl, rfl, rfl, h1, r1⟩ := trodAll_cons r0
  obtain ⟨rfl, rfl, rfl⟩ := trodAll_nil r1
  obtain rfl : args = #[v0, v1] := by cases args; simp_all
  obtain ⟨rfl, rfl⟩ := trodVars_none hV
  obtain ⟨a0, rfl, rfl, rfl, w0⟩ := open_int Try.underlying2 (hval 0 2 v0 rfl rfl) h0
  obtain ⟨a1, rfl, rfl, rfl, w1⟩ := open_int Try.underlying2 (hval 1 2 v1 rfl rfl) h1
  clear hA0 hval0
  simp only [List.append_nil] at hW'
  refine (logicBack_walk a0 a1 w0 w1 W).mono fun e W' ⟨he, hg⟩ => ?_
  subst he
  exact ⟨_, rfl, _, _, _, [], [], [], hW', (trodAll_cons_mk (shut_bool Try.underlying4 _) trodAll_mk0), (trodAll_cons_mk (shut_int Try.underlying2 w0) (trodAll_cons_mk (shut_int Try.underlying2 w1) trodAll_mk0)), rfl, hg.frame _, fun h => by cases h⟩

theorem logicBack_over : Rows.logicBackRow.holds Try.pinned (OpenSpec.ofChange Rows.logicBackSpec) :=
  OpenClaim.holds_of_wide 4 Try.f4 rfl rfl rfl rfl rfl rfl rfl ⟨rfl, rfl, rfl, rfl, rfl⟩ rfl rfl rfl rfl rfl (by kernel_rfl) Try.func4 (by kernel_rfl)
    (of_decide_eq_true (by kernel_rfl)) (by unfold Func.isWrapper; first | (rw [if_pos (by decide +kernel)]; kernel_rfl) | (rw [if_neg (by decide +kernel)]; exact ⟨rfl, rfl⟩))
    (fun os started H enc _ => logicBack_lifted os started H enc)

/-- The statement. -/
theorem logicBack_proved : Rows.LogicBackSaid :=
  logicBack_over
#print axioms logicBack_proved
end Go.Proofs.Ytfpjggoonekooaa
