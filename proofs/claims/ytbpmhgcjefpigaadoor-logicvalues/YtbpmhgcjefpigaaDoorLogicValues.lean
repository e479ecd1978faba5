/- For every value and every list of values the law LogicValues returns true and the arguments stay as they were; no condition (the tables of utf8 start as the program's text lays them: the card ties them). -/
import Derived.Test.YtbpmhgcjefpigaaDoorVal2
import Derived.Test.YtbpmhgcjefpigaaDoorOpens
namespace Go.Proofs.YtbpmhgcjefpigaaDoor
open Go.ChangeShapes Go.WideShapes Go.ChangeAt Go.RowKit Go.Shelf
set_option linter.unusedVariables false

noncomputable abbrev zeroV : Value := .agg #[.int .i64 0, .bool false, .int .i64 0, .string ⟨#[]⟩, .slice none 0 0, .slice none 0 0]

theorem logicValues_walk (T : Tree) (ts : List Tree) (v : Value) (la : Option Addr) (lc : Nat) (W : World) (hv : Lies W.heap.size W v T) (hl : ListLies W.heap.size W la ts) (h1 : ts.length ≤ lc) (h2 : lc ≤ maxLen) (hT : Tabs W) (hS : Sane T) (hSL : SaneL ts) :
    Calls Tryd.prog 5 #[v, .slice la ts.length lc] W fun e w' => e = .returned (.bool true) ∧ Below W.heap.size W w' := by
  by_cases h40 : 40 < ts.length
  · obtain ⟨k, x, n, s, ks, us⟩ := T
    simp only [Lies] at hv
    obtain ⟨ka, kc, la', lc', rfl, -⟩ := hv
    exact values_long _ ⟨_, _, _, _, _, _, rfl⟩ la ts.length lc W h40 (by omega)
  · obtain ⟨k, x, n, s, ks, us⟩ := T
    by_cases hck : checkN (.mk k x n s ks us) = 0
    · exact values_fine k x n s ks us ts W.heap.size v la lc W (Nat.le_refl _) hv hl h1 h2 hT hS hSL (by omega) hck
    · exact values_not k x n s ks us ts W.heap.size v la lc W (Nat.le_refl _) hv hl h1 h2 hT hS hSL (by omega) hck

theorem logicValues_witness (os : Os) {H : Type} (enc : TypeId × Value → H) :
    (OpenSpec.ofChange Rows.logicValuesSpec).preRow enc Tryd.prog Tryd.f5 Rows.logicValuesRow.domain false Rows.logicValuesRow.laid ((laidWorld os).forCall (fun _ _ => 0) ⟨#[], #[zeroV, .slice none 0 0], []⟩).memory #[zeroV, .slice none 0 0] := by
  have hw : (DataW.whole enc Tryd.prog ((laidWorld os).forCall (fun _ _ => 0) ⟨#[], #[zeroV, .slice none 0 0], []⟩).memory Tryd.f5.params.toList (OpenSpec.ofChange Rows.logicValuesSpec).vars false #[zeroV, Value.slice none 0 0].toList 8).map (fun x => (x.1, x.2.1)) =
      some ([.agg [.lit (.int .i64 0), .lit (.bool false), .lit (.int .i64 0), .lit (.string []), .nil, .nil], .nil], []) := by kernel_rfl
  obtain ⟨⟨x1, x2, x3⟩, hx, hx1⟩ := Option.map_eq_some_iff.1 hw
  simp only [Prod.mk.injEq] at hx1
  obtain ⟨rfl, rfl⟩ := hx1
  exact OpenSpec.preRow_of_cond 8 hx (by kernel_rfl) (fun k hk => by cases hk) (by kernel_rfl) (laid_met os _)

set_option maxRecDepth 100000 in
set_option maxHeartbeats 2000000 in
theorem logicValues_lifted (os : Os) (started : os.Started) (H : Type) (enc : TypeId × Value → H) (F : Stop.Interp) :
    ReturnsInHanded {} Tryd.checked os 5 .any ((OpenSpec.ofChange Rows.logicValuesSpec).preRow enc Tryd.prog Tryd.f5 Rows.logicValuesRow.domain false Rows.logicValuesRow.laid) (((OpenSpec.ofChange Rows.logicValuesSpec).at F).post enc Tryd.prog Tryd.f5 false true false false) := by
  refine returnsInHanded_of_row (C := Tryd.checked) (s := OpenSpec.ofChange Rows.logicValuesSpec) own started (by kernel_rfl) Tryd.func5
    (witness_row_atRef (enc := enc) (C := Tryd.checked) false (laidWorld os) #[zeroV, .slice none 0 0] rfl (by kernel_rfl) (by kernel_rfl) (by kernel_rfl) (logicValues_witness os enc)) ?_
  intro W base args ds gs before hval0 hW _ _ hwt hL _ _
  have hval : ∀ (j : Nat) t v, Tryd.f5.params[j]? = some t → args[j]? = some v → Value.okWide Tryd.prog W .any base t v := hval0
  have hW' := hW
  obtain ⟨p, q, hA0, hV, rfl, hfz, hnd⟩ := hW
  have hA : DataW.TrodAll enc Tryd.prog W 0 (fun _ => true) true Tryd.f5.params.toList args.toList ds p := hA0
  rw [Tryd.params5] at hA hval hwt
  obtain ⟨v0, vs0, d0, ds0, p0, q0, hargs, rfl, rfl, h0, r0⟩ := trodAll_cons hA
  obtain ⟨v1, vs1, d1, ds1, p1, q1, rfl, rfl, rfl, h1, r1⟩ := trodAll_cons r0
  obtain ⟨rfl, rfl, rfl⟩ := trodAll_nil r1
  obtain rfl : args = #[v0, v1] := by cases args; simp_all
  obtain ⟨rfl, rfl⟩ := trodVars_none hV
  clear hA0 hval0
  simp only [List.append_nil] at hW'
  have hlt : ∀ x ∈ p0 ++ p1, x.block < W.heap.size := fun x hx => by simpa using hW'.lt x (by simpa using hx)
  have hback0 : ∀ (W' : World), Below W.heap.size W W' → DataW.Trod enc Tryd.prog W' 0 (fun b => decide (b < W.heap.size)) true 30 v0 d0 p0 :=
    fun W' hn => Below.trod laidOut (by kernel_rfl) (of_decide_eq_true (by kernel_rfl)) h0 hn (fun x hx => hlt x (List.mem_append_left _ hx))
  have hback1 : ∀ (W' : World), Below W.heap.size W W' → DataW.Trod enc Tryd.prog W' 0 (fun b => decide (b < W.heap.size)) true 28 v1 d1 p1 :=
    fun W' hn => Below.trod laidOut (by kernel_rfl) (of_decide_eq_true (by kernel_rfl)) h1 hn (fun x hx => hlt x (List.mem_append_right _ hx))
  have hwts : ∀ x, (x ∈ d0.weights Tryd.prog 30 ∨ x ∈ d1.weights Tryd.prog 28) → x ≤ reachBytes := by
    intro x hx
    have := List.all_eq_true.1 hwt x (by
      show x ∈ DataW.weightsEach Tryd.prog (30 :: 28 :: _) (d0 :: d1 :: _)
      rw [DataW.weightsEach, DataW.weightsEach, List.mem_append, List.mem_append]
      rcases hx with h | h
      · exact .inl h
      · exact .inr (.inl h))
    simpa using this
  have hwalk : Calls Tryd.prog 5 #[v0, v1] W fun e w' => e = .returned (.bool true) ∧ Below W.heap.size W w' := by
    obtain ⟨cs, rfl, hcs⟩ := okWide_struct Tryd.underlying30 (hval 0 30 v0 rfl rfl)
    obtain ⟨a, len, cap, rfl⟩ := okWide_slice Tryd.underlying28 (hval 1 28 v1 rfl rfl)
    obtain ⟨f0, hf0⟩ := h0
    obtain ⟨f1, hf1⟩ := h1
    obtain ⟨T, hT, hS⟩ := open_value f0 _ _ _ hf0 (fun x hx => hwts x (.inl hx))
    obtain ⟨la, lc, ts, e, g1, g2, g3, g4, g5⟩ := open_list_value (fun m _ => open_value m) hf1 (fun x hx => hwts x (.inr hx))
    simp only [Value.cells, List.cons.injEq, and_true] at e
    have hT' : Lies W.heap.size W (.agg cs) T := by simpa [Value.cells] using hT
    rw [e]
    exact logicValues_walk T ts (.agg cs) la lc W hT' g4 g1 g2 (tabs_of_laid hL) hS g5
  refine hwalk.mono ?_
  rintro e W' ⟨rfl, hg⟩
  exact ⟨_, rfl, _, _, _, [], _, [], hW', (trodAll_cons_mk (shut_bool Tryd.underlying4 _) trodAll_mk0), (trodAll_cons_mk (hback0 W' hg) (trodAll_cons_mk (hback1 W' hg) trodAll_mk0)), rfl, hg.frame _, fun h => by cases h⟩

theorem logicValues_said : Rows.LogicValuesSaid :=
  OpenClaim.holds_of_cond 5 Tryd.f5 rfl rfl rfl rfl rfl rfl rfl ⟨rfl, rfl, rfl, rfl, rfl⟩ rfl rfl rfl rfl rfl (by kernel_rfl) Tryd.func5 (by kernel_rfl)
    (of_decide_eq_true (by kernel_rfl)) (by unfold Func.isWrapper; first | (rw [if_pos (by decide +kernel)]; kernel_rfl) | (rw [if_neg (by decide +kernel)]; exact ⟨rfl, rfl⟩))
    (fun os started H enc _ F => by rw [OpenClaim.pre_eq_preRow]; exact logicValues_lifted os started H enc F)

theorem logicValues_plain (f : FuncId) (fn : Func) (hf : Tryd.pinned.checked.prog.funcNamed "lattice/latticelaw02.LogicValues" = some f) (hfn : Tryd.pinned.checked.prog.funcs[f]? = some fn) :
    true = Tryd.pinned.checked.prog.looks [] ∧ ∀ (j : Nat) t, fn.params[j]? = some t → Tryd.pinned.checked.prog.wantsStandIn t = false := by
  obtain rfl : f = 5 := Option.some.inj ((show Tryd.prog.funcNamed "lattice/latticelaw02.LogicValues" = some 5 by kernel_rfl).symm.trans hf) |>.symm
  obtain rfl : fn = Tryd.f5 := (Option.some.inj (Tryd.func5.symm.trans hfn)).symm
  refine ⟨by kernel_rfl, fun j t ht => ?_⟩
  rw [Tryd.params5] at ht
  have hm : t ∈ [30, 28] := by have := Array.mem_of_getElem? ht; simpa using this
  have hall : ([30, 28].all fun u => !Tryd.prog.wantsStandIn u) = true := by kernel_rfl
  exact (show Tryd.prog.wantsStandIn t = false by simpa using List.all_eq_true.1 hall t hm)

/-- The statement. -/
theorem logicValues_proved : Rows.LogicValuesCardSaid :=
  Claim7.holds_tied_plain_at .later [] _ _ _ _ logicValues_said (fun _ h => by cases h) (by kernel_rfl) (fun _ h => by cases h) logicValues_row_tie rfl ⟨rfl, rfl⟩ (by kernel_rfl) rfl logicValues_plain (by kernel_rfl)
#print axioms logicValues_proved
end Go.Proofs.YtbpmhgcjefpigaaDoor
