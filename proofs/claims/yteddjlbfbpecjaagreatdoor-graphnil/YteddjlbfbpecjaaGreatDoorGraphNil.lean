/- For every Step the law GraphNil returns true and the argument stays as it was; no condition (the tables start as the program's text lays them: the card ties them). -/
import Derived.Test.YteddjlbfbpecjaaGreatDoorJoin20
import Derived.Test.YteddjlbfbpecjaaGreatDoorLift
namespace Go.Proofs.YteddjlbfbpecjaaGreatDoor
open Go.ChangeShapes Go.WideShapes Go.ChangeAt Go.RowKit Go.Shelf
set_option linter.unusedVariables false
noncomputable abbrev zeroV : Value := .agg #[.int .i64 0, .int .i64 0, .int .i64 0, .bool false, .string ⟨#[]⟩, .slice none 0 0, .slice none 0 0, .int .i64 0, .bool false, .int .i64 0, .string ⟨#[]⟩, .slice none 0 0, .slice none 0 0]

theorem graphNil_witness (os : Os) {H : Type} (enc : TypeId × Value → H) :
    (OpenSpec.ofChange Rows.graphNilSpec).preRow enc Tryz.prog Tryz.f7 Rows.graphNilRow.domain false Rows.graphNilRow.laid ((laidWorld os).forCall (fun _ _ => 0) ⟨#[], #[zeroV], []⟩).memory #[zeroV] := by
  have hw : (DataW.whole enc Tryz.prog ((laidWorld os).forCall (fun _ _ => 0) ⟨#[], #[zeroV], []⟩).memory Tryz.f7.params.toList (OpenSpec.ofChange Rows.graphNilSpec).vars false (#[zeroV] : Array Value).toList 8).map (fun x => (x.1, x.2.1)) =
      some ([.agg [.lit (.int .i64 0), .lit (.int .i64 0), .lit (.int .i64 0), .lit (.bool false), .lit (.string []), .nil, .nil, .agg [.lit (.int .i64 0), .lit (.bool false), .lit (.int .i64 0), .lit (.string []), .nil, .nil]]], []) := by kernel_rfl
  obtain ⟨⟨x1, x2, x3⟩, hx, hx1⟩ := Option.map_eq_some_iff.1 hw
  simp only [Prod.mk.injEq] at hx1
  obtain ⟨rfl, rfl⟩ := hx1
  exact OpenSpec.preRow_of_cond 8 hx (by kernel_rfl) (fun k hk => by cases hk) (by kernel_rfl) (laid_met os _)

set_option maxRecDepth 100000 in
set_option maxHeartbeats 2000000 in
theorem graphNil_lifted (os : Os) (started : os.Started) (H : Type) (enc : TypeId × Value → H) (F : Stop.Interp) :
    ReturnsInHanded {} Tryz.checked os 7 .any ((OpenSpec.ofChange Rows.graphNilSpec).preRow enc Tryz.prog Tryz.f7 Rows.graphNilRow.domain false Rows.graphNilRow.laid) (((OpenSpec.ofChange Rows.graphNilSpec).at F).post enc Tryz.prog Tryz.f7 false true false false) := by
  refine returnsInHanded_of_row (C := Tryz.checked) (s := OpenSpec.ofChange Rows.graphNilSpec) own started (by kernel_rfl) Tryz.func7
    (witness_row_atRef (enc := enc) (C := Tryz.checked) false (laidWorld os) #[zeroV] rfl (by kernel_rfl) (by kernel_rfl) (by kernel_rfl) (graphNil_witness os enc)) ?_
  intro W base args ds gs before hval0 hW _ _ hwt hL hsh _
  have hval : ∀ (j : Nat) t v, Tryz.f7.params[j]? = some t → args[j]? = some v → Value.okWide Tryz.prog W .any base t v := hval0
  have hW' := hW
  obtain ⟨p, q, hA0, hV, rfl, hfz, hnd⟩ := hW
  have hA : DataW.TrodAll enc Tryz.prog W 0 (fun _ => true) true Tryz.f7.params.toList args.toList ds p := hA0
  rw [Tryz.params7] at hA hval hwt
  obtain ⟨v0, vs0, d0, ds0, p0, q0, hargs, rfl, rfl, h0, r0⟩ := trodAll_cons hA
  obtain ⟨rfl, rfl, rfl⟩ := trodAll_nil r0
  obtain rfl : args = #[v0] := by cases args; simp_all
  obtain ⟨rfl, rfl⟩ := trodVars_none hV
  clear hA0 hval0
  simp only [List.append_nil] at hW'
  have hlt : ∀ x ∈ p0, x.block < W.heap.size := fun x hx => by simpa using hW'.lt x (by simpa using hx)
  have hback0 : ∀ (W' : World), Below W.heap.size W W' → DataW.Trod enc Tryz.prog W' 0 (fun b => decide (b < W.heap.size)) true 62 v0 d0 p0 :=
    fun W' hn => Below.trod laidOut (by kernel_rfl) (of_decide_eq_true (by kernel_rfl)) h0 hn (fun x hx => hlt x hx)
  have hwts : ∀ x, (x ∈ d0.weights Tryz.prog 62) → x ≤ reachBytes := by
    intro x hx
    have := List.all_eq_true.1 hwt x (by
      show x ∈ DataW.weightsEach Tryz.prog (62 :: _) (d0 :: _)
      rw [DataW.weightsEach, List.mem_append]
      exact .inl hx)
    simpa using this
  have hwalk : Calls Tryz.prog 7 #[v0] W fun e w' => e = .returned (.bool true) ∧ Below W.heap.size W w' := by
    obtain ⟨cs0, rfl, hcs0⟩ := okWide_struct Tryz.underlying62 (hval 0 62 v0 rfl rfl)
    obtain ⟨f0, hf0⟩ := h0
    obtain ⟨s, T, ps, e0, g1, g2, g3⟩ := open_step hf0 (fun x hx => hwts x hx)
    obtain rfl : cs0 = s.cells := by
      simp only [Value.cells] at e0
      cases cs0; simp_all
    exact nil_law s T ps W g1 g2 g3 (env_of hL hsh)
  refine hwalk.mono ?_
  rintro e W' ⟨rfl, hg⟩
  exact ⟨_, rfl, _, _, _, [], _, [], hW', (trodAll_cons_mk (shut_bool Tryz.underlying4 _) trodAll_mk0), (trodAll_cons_mk (hback0 W' hg) trodAll_mk0), rfl, hg.frame _, fun h => by cases h⟩
theorem graphNil_said : Rows.GraphNilSaid :=
  OpenClaim.holds_of_cond 7 Tryz.f7 rfl rfl rfl rfl rfl rfl rfl ⟨rfl, rfl, rfl, rfl, rfl⟩ rfl rfl rfl rfl rfl (by kernel_rfl) Tryz.func7 (by kernel_rfl)
    (of_decide_eq_true (by kernel_rfl)) (by unfold Func.isWrapper; first | (rw [if_pos (by decide +kernel)]; kernel_rfl) | (rw [if_neg (by decide +kernel)]; exact ⟨rfl, rfl⟩))
    (fun os started H enc _ F => by rw [OpenClaim.pre_eq_preRow]; exact graphNil_lifted os started H enc F)

theorem graphNil_plain (f : FuncId) (fn : Func) (hf : Tryz.pinned.checked.prog.funcNamed "lattice/latticelaw05.GraphNil" = some f) (hfn : Tryz.pinned.checked.prog.funcs[f]? = some fn) :
    true = Tryz.pinned.checked.prog.looks [] ∧ ∀ (j : Nat) t, fn.params[j]? = some t → Tryz.pinned.checked.prog.wantsStandIn t = false := by
  obtain rfl : f = 7 := Option.some.inj ((show Tryz.prog.funcNamed "lattice/latticelaw05.GraphNil" = some 7 by kernel_rfl).symm.trans hf) |>.symm
  obtain rfl : fn = Tryz.f7 := (Option.some.inj (Tryz.func7.symm.trans hfn)).symm
  refine ⟨by kernel_rfl, fun j t ht => ?_⟩
  rw [Tryz.params7] at ht
  have hm : t ∈ [62] := by have := Array.mem_of_getElem? ht; simpa using this
  have hall : ([62].all fun u => !Tryz.prog.wantsStandIn u) = true := by kernel_rfl
  exact (show Tryz.prog.wantsStandIn t = false by simpa using List.all_eq_true.1 hall t hm)

/-- The statement. -/
theorem graphNil_proved : Rows.GraphNilCardSaid :=
  Claim7.holds_tied_plain_at .later [] _ _ _ _ graphNil_said (fun _ h => by cases h) (by kernel_rfl) (fun _ h => by cases h) graphNil_row_tie rfl ⟨rfl, rfl⟩ (by kernel_rfl) rfl graphNil_plain (by kernel_rfl)
#print axioms graphNil_proved
end Go.Proofs.YteddjlbfbpecjaaGreatDoor
