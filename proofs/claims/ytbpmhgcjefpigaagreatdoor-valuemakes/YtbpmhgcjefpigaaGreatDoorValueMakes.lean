/- For every Parts the law ValueMakes returns true and the argument stays as it was; no condition (the tables start as the program's text lays them: the card ties them). -/
import Derived.Test.YtbpmhgcjefpigaaGreatDoorMakeW
import Derived.Test.YtbpmhgcjefpigaaGreatDoorOpens
import Derived.Test.YtbpmhgcjefpigaaGreatDoorLift
namespace Go.Proofs.YtbpmhgcjefpigaaGreatDoor
open Go.ChangeShapes Go.WideShapes Go.ChangeAt Go.RowKit Go.Shelf
set_option linter.unusedVariables false
noncomputable abbrev zeroV : Value := .agg #[.bool false, .int .i64 0, .string ⟨#[]⟩, .slice none 0 0, .slice none 0 0]
theorem cells56 : Tryz.prog.cellsOf 56 = 5 := by kernel_rfl
open Go.Deep in
set_option maxRecDepth 100000 in
theorem open_parts {H : Type} {enc : TypeId × Value → H} {W : World} {fuel : Nat} {cs : List Value} {d : DataW H} {p : List MemPlace} (h : DataW.trod enc Tryz.prog W 0 (fun _ => true) true fuel 56 cs = some (d, p))
    (hw : ∀ x ∈ d.weights Tryz.prog 56, x ≤ reachBytes) :
    ∃ (pb : Bool) (pn : Int) (ps : ByteArray) (ka : Option Addr) (ks : List ByteArray) (kc : Nat) (la : Option Addr) (ts : List Tree) (lc : Nat), cs = [.bool pb, .int .i64 pn, .string ps, .slice ka ks.length kc, .slice la ts.length lc] ∧ ps.size ≤ maxLen ∧ ks.length ≤ kc ∧ kc ≤ maxLen ∧ ts.length ≤ lc ∧ lc ≤ maxLen ∧ KeysLie W.heap.size W ka ks ∧ ListLies W.heap.size W la ts ∧ SaneL ts := by
  obtain ⟨xs, n, hfu, hx, hl, hlen, hf⟩ := DataW.trod_struct Tryz.underlying56 h
  rw [cells56] at hl
  match cs, hl with
  | [v1, v2, v3, v4, v5], _ =>
    match xs, hlen with
    | [y1, y2, y3, y4, y5], _ =>
      simp only [Prod.mk.injEq] at hx
      obtain ⟨rfl, _⟩ := hx
      have f1 : DataW.trod enc Tryz.prog W 0 (fun _ => true) true n 4 [v1] = some y1 := by simpa [cells4] using hf 0 { name := "B", type := 4, offset := 0, embedded := false, tag := "", pkgPath := "", byteOffset := 0 } rfl
      have f2 : DataW.trod enc Tryz.prog W 0 (fun _ => true) true n 2 [v2] = some y2 := by simpa [cells2] using hf 1 { name := "N", type := 2, offset := 1, embedded := false, tag := "", pkgPath := "", byteOffset := 8 } rfl
      have f3 : DataW.trod enc Tryz.prog W 0 (fun _ => true) true n 9 [v3] = some y3 := by simpa [cells9] using hf 2 { name := "S", type := 9, offset := 2, embedded := false, tag := "", pkgPath := "", byteOffset := 16 } rfl
      have f4 : DataW.trod enc Tryz.prog W 0 (fun _ => true) true n 23 [v4] = some y4 := by simpa [cells23] using hf 3 { name := "Keys", type := 23, offset := 3, embedded := false, tag := "", pkgPath := "", byteOffset := 32 } rfl
      have f5 : DataW.trod enc Tryz.prog W 0 (fun _ => true) true n 24 [v5] = some y5 := by simpa [cells24] using hf 4 { name := "L", type := 24, offset := 4, embedded := false, tag := "", pkgPath := "", byteOffset := 56 } rfl
      obtain ⟨b, e1, _⟩ := DataW.trod_bool Tryz.underlying4 f1
      obtain ⟨m, e2, _, _⟩ := DataW.trod_int Tryz.underlying2 f2
      obtain ⟨s, e3, e3', hs⟩ := DataW.trod_string Tryz.underlying9 f3
      simp only [List.cons.injEq, and_true] at e1 e2 e3
      subst e1 e2 e3
      have hwe : ∀ x, x ∈ y5.1.weights Tryz.prog 24 → x ≤ reachBytes := by
        intro x hx
        apply hw x
        simp only [DataW.weights, Tryz.underlying56, List.map_cons, List.map_nil, DataW.weightsEach, List.mem_append]
        exact .inr (.inr (.inr (.inr (.inl hx))))
      obtain ⟨la, lc, ts, e5, g1, g2, g3, g4, g5⟩ := open_list_value (fun m _ => open_value m) f5 (fun x hx => hwe x hx)
      simp only [List.cons.injEq, and_true] at e5
      subst e5
      rcases open_strings Tryz.underlying23 Tryz.underlying9 cells9 f4 with ⟨e4, _⟩ | ⟨a, len, cap, ss, e4, _, hlc, hcm, hss, hx4, hcell, hsz⟩
      · simp only [List.cons.injEq, and_true] at e4
        subst e4
        exact ⟨b, m, s, none, [], 0, la, ts, lc, rfl, hs, by simp, by unfold maxLen; omega, g1, g2, .inl rfl, g4, g5⟩
      · simp only [List.cons.injEq, and_true] at e4
        subst e4
        simp only [if_true] at hss
        have e : (ss.take len).length = len := by simp; omega
        refine ⟨b, m, s, some a, ss.take len, cap, la, ts, lc, by rw [e], hs, by omega, hcm, g1, g2, ?_, g4, g5⟩
        by_cases h0 : len = 0
        · left; subst h0; simp
        · right
          obtain ⟨bk, off, spot⟩ := a
          have c0 := hcell 0 (by omega)
          have hspot : spot = none := by simpa [Addr.add] using World.cell?_spot c0
          subst hspot
          refine ⟨bk, off, rfl, lt_of_cell c0, fun i hi => ?_⟩
          rw [e] at hi
          have hg : (ss.take len).getD i ⟨#[]⟩ = ss.getD i ByteArray.empty := by
            rw [List.getD_eq_getElem?_getD, List.getElem?_take_of_lt hi, List.getD_eq_getElem?_getD]; rfl
          rw [hg, ← add_plain]
          refine ⟨hcell i (by omega), ?_⟩
          rw [List.getD_eq_getElem?_getD, List.getElem?_eq_getElem (by omega)]
          exact hsz _ (List.getElem_mem _)
theorem valueMakes_witness (os : Os) {H : Type} (enc : TypeId × Value → H) :
    (OpenSpec.ofChange Rows.valueMakesSpec).preRow enc Tryz.prog Tryz.f9 Rows.valueMakesRow.domain false Rows.valueMakesRow.laid ((laidWorld os).forCall (fun _ _ => 0) ⟨#[], #[zeroV], []⟩).memory #[zeroV] := by
  have hw : (DataW.whole enc Tryz.prog ((laidWorld os).forCall (fun _ _ => 0) ⟨#[], #[zeroV], []⟩).memory Tryz.f9.params.toList (OpenSpec.ofChange Rows.valueMakesSpec).vars false #[zeroV].toList 8).map (fun x => (x.1, x.2.1)) =
      some ([.agg [.lit (.bool false), .lit (.int .i64 0), .lit (.string []), .nil, .nil]], []) := by kernel_rfl
  obtain ⟨⟨x1, x2, x3⟩, hx, hx1⟩ := Option.map_eq_some_iff.1 hw
  simp only [Prod.mk.injEq] at hx1
  obtain ⟨rfl, rfl⟩ := hx1
  exact OpenSpec.preRow_of_cond 8 hx (by kernel_rfl) (fun k hk => by cases hk) (by kernel_rfl) (laid_met os _)
set_option maxRecDepth 100000 in
set_option maxHeartbeats 2000000 in
theorem valueMakes_lifted (os : Os) (started : os.Started) (H : Type) (enc : TypeId × Value → H) (F : Stop.Interp) :
    ReturnsInHanded {} Tryz.checked os 9 .any ((OpenSpec.ofChange Rows.valueMakesSpec).preRow enc Tryz.prog Tryz.f9 Rows.valueMakesRow.domain false Rows.valueMakesRow.laid) (((OpenSpec.ofChange Rows.valueMakesSpec).at F).post enc Tryz.prog Tryz.f9 false true false false) := by
  refine returnsInHanded_of_row (C := Tryz.checked) (s := OpenSpec.ofChange Rows.valueMakesSpec) own started (by kernel_rfl) Tryz.func9
    (witness_row_atRef (enc := enc) (C := Tryz.checked) false (laidWorld os) #[zeroV] rfl (by kernel_rfl) (by kernel_rfl) (by kernel_rfl) (valueMakes_witness os enc)) ?_
  intro W base args ds gs before hval0 hW _ _ hwt hL _ _
  have hval : ∀ (j : Nat) t v, Tryz.f9.params[j]? = some t → args[j]? = some v → Value.okWide Tryz.prog W .any base t v := hval0
  have hW' := hW
  obtain ⟨p, q, hA0, hV, rfl, hfz, hnd⟩ := hW
  have hA : DataW.TrodAll enc Tryz.prog W 0 (fun _ => true) true Tryz.f9.params.toList args.toList ds p := hA0
  rw [Tryz.params9] at hA hval hwt
  obtain ⟨v0, vs0, d0, ds0, p0, q0, hargs, rfl, rfl, h0, r0⟩ := trodAll_cons hA
  obtain ⟨rfl, rfl, rfl⟩ := trodAll_nil r0
  obtain rfl : args = #[v0] := by cases args; simp_all
  obtain ⟨rfl, rfl⟩ := trodVars_none hV
  clear hA0 hval0
  simp only [List.append_nil] at hW'
  have hlt : ∀ x ∈ p0, x.block < W.heap.size := fun x hx => by simpa using hW'.lt x (by simpa using hx)
  have hback0 : ∀ (W' : World), Below W.heap.size W W' → DataW.Trod enc Tryz.prog W' 0 (fun b => decide (b < W.heap.size)) true 56 v0 d0 p0 :=
    fun W' hn => Below.trod laidOut (by kernel_rfl) (of_decide_eq_true (by kernel_rfl)) h0 hn (fun x hx => hlt x hx)
  have hwts : ∀ x, (x ∈ d0.weights Tryz.prog 56) → x ≤ reachBytes := by
    intro x hx
    have := List.all_eq_true.1 hwt x (by
      show x ∈ DataW.weightsEach Tryz.prog (56 :: _) (d0 :: _)
      rw [DataW.weightsEach, List.mem_append]
      exact .inl hx)
    simpa using this
  have hwalk : Calls Tryz.prog 9 #[v0] W fun e w' => e = .returned (.bool true) ∧ Below W.heap.size W w' := by
    obtain ⟨cs0, rfl, hcs0⟩ := okWide_struct Tryz.underlying56 (hval 0 56 v0 rfl rfl)
    obtain ⟨f0, hf0⟩ := h0
    obtain ⟨pb, pn, ps, ka, ks, kc, la, ts, lc, e0, g1, g2, g3, g4, g5, g6, g7, g8⟩ := open_parts hf0 (fun x hx => hwts x hx)
    obtain rfl : cs0 = #[.bool pb, .int .i64 pn, .string ps, .slice ka ks.length kc, .slice la ts.length lc] := by
      simp only [Value.cells] at e0
      cases cs0; simp_all
    exact makes_law pb pn ps ks ts W.heap.size ka kc la lc W (Nat.le_refl _) g6 g7 g1 g2 g3 g4 g5 g8 (tabs_of_laid hL) (Lib.tabBelow_of_tabIs (pow_of_laid hL))
  refine hwalk.mono ?_
  rintro e W' ⟨rfl, hg⟩
  exact ⟨_, rfl, _, _, _, [], _, [], hW', (trodAll_cons_mk (shut_bool Tryz.underlying4 _) trodAll_mk0), (trodAll_cons_mk (hback0 W' hg) trodAll_mk0), rfl, hg.frame _, fun h => by cases h⟩
theorem valueMakes_said : Rows.ValueMakesSaid :=
  OpenClaim.holds_of_cond 9 Tryz.f9 rfl rfl rfl rfl rfl rfl rfl ⟨rfl, rfl, rfl, rfl, rfl⟩ rfl rfl rfl rfl rfl (by kernel_rfl) Tryz.func9 (by kernel_rfl)
    (of_decide_eq_true (by kernel_rfl)) (by unfold Func.isWrapper; first | (rw [if_pos (by decide +kernel)]; kernel_rfl) | (rw [if_neg (by decide +kernel)]; exact ⟨rfl, rfl⟩))
    (fun os started H enc _ F => by rw [OpenClaim.pre_eq_preRow]; exact valueMakes_lifted os started H enc F)
theorem valueMakes_plain (f : FuncId) (fn : Func) (hf : Tryz.pinned.checked.prog.funcNamed "lattice/latticelaw01.ValueMakes" = some f) (hfn : Tryz.pinned.checked.prog.funcs[f]? = some fn) :
    true = Tryz.pinned.checked.prog.looks [] ∧ ∀ (j : Nat) t, fn.params[j]? = some t → Tryz.pinned.checked.prog.wantsStandIn t = false := by
  obtain rfl : f = 9 := Option.some.inj ((show Tryz.prog.funcNamed "lattice/latticelaw01.ValueMakes" = some 9 by kernel_rfl).symm.trans hf) |>.symm
  obtain rfl : fn = Tryz.f9 := (Option.some.inj (Tryz.func9.symm.trans hfn)).symm
  refine ⟨by kernel_rfl, fun j t ht => ?_⟩
  rw [Tryz.params9] at ht
  have hm : t ∈ [56] := by have := Array.mem_of_getElem? ht; simpa using this
  have hall : ([56].all fun u => !Tryz.prog.wantsStandIn u) = true := by kernel_rfl
  exact (show Tryz.prog.wantsStandIn t = false by simpa using List.all_eq_true.1 hall t hm)
/-- The statement. -/
theorem valueMakes_proved : Rows.ValueMakesCardSaid :=
  Claim7.holds_tied_plain_at .later [] _ _ _ _ valueMakes_said (fun _ h => by cases h) (by kernel_rfl) (fun _ h => by cases h) valueMakes_row_tie rfl ⟨rfl, rfl⟩ (by kernel_rfl) rfl valueMakes_plain (by kernel_rfl)
#print axioms valueMakes_proved
end Go.Proofs.YtbpmhgcjefpigaaGreatDoor
