/- For every list of numbers of 64 bits and every cut the law LogicParts returns true and the arguments stay as they were; no condition. -/
import Derived.Test.YtfpjggoonekooaaOpen
namespace Go.Proofs.Ytfpjggoonekooaa
open Go.ChangeShapes Go.WideShapes Go.ChangeAt Go.RowKit
set_option linter.unusedVariables false

theorem logicParts_own : ownKnob Try.prog.godebug = none := by kernel_rfl

theorem logicParts_walk (v : Value) (zs : List Int) (cut : Int) (wc : (Lit.int .i64 cut).wf = true) (w : World) (hl : Lies w v zs) :
    Calls Try.prog 7 #[v, .int .i64 cut] w fun e w' => e = .returned (.bool true) ∧ Below w.heap.size w w' := by
  obtain ⟨ad, cap, rfl, h1, h2, hf, h | ⟨b, off, rfl, hb, hc⟩⟩ := hl
  · subst h
    exact parts_none ad cap cut w
  · by_cases h0 : 300 < zs.length
    · exact parts_long _ _ _ _ _ h0 (by omega)
    · by_cases hz : zs.length = 0
      · rw [hz]; exact parts_none _ cap cut w
      · have c1 : IntKind.i64.min = -9223372036854775808 := rfl
        have c2 : IntKind.i64.max = 9223372036854775807 := rfl
        simp only [Lit.wf, Bool.and_eq_true, decide_eq_true_eq] at wc
        unfold maxLen at h2
        exact parts_some b off cap zs cut w (by omega) (by omega) h1 (by omega) hb (by omega) (by omega) hc hf

set_option maxRecDepth 100000 in
theorem logicParts_lifted (os : Os) (started : os.Started) (H : Type) (enc : TypeId × Value → H) :
    ReturnsInHanded {} Try.checked os 7 .any (Rows.logicPartsSpec.pre6 enc Try.prog Try.f7 Rows.logicPartsRow.domain false) (Rows.logicPartsSpec.post enc Try.prog Try.f7 false true false false) := by
  refine returnsInHanded_of_change (C := Try.checked) logicParts_own started (by kernel_rfl) Try.func7
    (ChangeSpec.witness6 (enc := enc) (C := Try.checked) false ⟨#[], #[.slice none 0 0, .int .i64 0], []⟩ 8 (by kernel_rfl) (by kernel_rfl) (by kernel_rfl) (by kernel_rfl)) ?_
  intro W base args ds gs before hval0 hW hcnd _
  have hval : ∀ (j : Nat) t v, Try.f7.params[j]? = some t → args[j]? = some v → Value.okWide Try.prog W .any base t v := hval0
  have hW' := hW
  obtain ⟨p, q, hA0, hV, rfl, hfz, hnd⟩ := hW
  have hA : DataW.TrodAll enc Try.prog W 0 (fun _ => true) true Try.f7.params.toList args.toList ds p := hA0
  rw [Try.params7] at hA hval
  obtain ⟨v0, vs0, d0, ds0, p0, q0, hargs, rfl, rfl, h0, r0⟩ := trodAll_cons hA
  obtain ⟨v1, vs1, d1, ds1, p1, q1, rfl, rfl, rfl, h1, r1⟩ := trodAll_cons r0
  obtain ⟨rfl, rfl, rfl⟩ := trodAll_nil r1
  obtain rfl : args = #[v0, v1] := by cases args; simp_all
  obtain ⟨rfl, rfl⟩ := trodVars_none hV
  obtain ⟨a1, rfl, rfl, rfl, w1⟩ := open_int Try.underlying3 (hval 1 3 v1 rfl rfl) h1
  clear hA0 hval0
  simp only [List.append_nil] at hW'
  have hlt : ∀ x ∈ p0, x.block < W.heap.size := fun x hx => by simpa using hW'.lt x hx
  have hback : ∀ (W' : World), Below W.heap.size W W' → DataW.Trod enc Try.prog W' 0 (fun b => decide (b < W.heap.size)) true 37 v0 d0 p0 :=
    fun W' hn => Below.trod laidOut (by kernel_rfl) (of_decide_eq_true (by kernel_rfl)) h0 hn hlt
  obtain ⟨zs, hl⟩ := open_list (hval 0 37 v0 rfl rfl) h0 hlt
  refine (logicParts_walk v0 zs a1 w1 W hl).mono fun e W' ⟨he, hg⟩ => ?_
  subst he
  exact ⟨_, rfl, _, _, _, [], _, [], hW', (trodAll_cons_mk (shut_bool Try.underlying4 _) trodAll_mk0), (trodAll_cons_mk (hback W' hg) (trodAll_cons_mk (shut_int Try.underlying3 w1) trodAll_mk0)), rfl, hg.frame _, fun h => by cases h⟩

theorem logicParts_over : Rows.logicPartsRow.holds Try.pinned (OpenSpec.ofChange Rows.logicPartsSpec) :=
  OpenClaim.holds_of_wide 7 Try.f7 rfl rfl rfl rfl rfl rfl rfl ⟨rfl, rfl, rfl, rfl, rfl⟩ rfl rfl rfl rfl rfl (by kernel_rfl) Try.func7 (by kernel_rfl)
    (of_decide_eq_true (by kernel_rfl)) (by unfold Func.isWrapper; first | (rw [if_pos (by decide +kernel)]; kernel_rfl) | (rw [if_neg (by decide +kernel)]; exact ⟨rfl, rfl⟩))
    (fun os started H enc _ => logicParts_lifted os started H enc)

/-- The statement. -/
theorem logicParts_proved : Rows.LogicPartsSaid :=
  logicParts_over
#print axioms logicParts_proved
end Go.Proofs.Ytfpjggoonekooaa
