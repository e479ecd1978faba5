/- value.Size: how many values there are, and how deep. -/
import Derived.Test.YtbpmhgcjefpigaaGreatDoorJoin2
import Derived.Test.YtbpmhgcjefpigaaGreatDoorCheck
namespace Go.Proofs.YtbpmhgcjefpigaaGreatDoor
open Go.RowKit Go.Shelf
set_option linter.unusedVariables false

attribute [local go_sem] Oper.semAt_some

/-- How deep the deepest of a row of values lies. -/
def deepL (l : List (Int × Tree)) : Int := (l.map fun x => x.1).foldl max 0
theorem deepL_snoc (l : List (Int × Tree)) (d : Int) (t : Tree) : deepL (l ++ [(d, t)]) = max (deepL l) d := by simp [deepL, List.foldl_append]
/-- What Size answers. -/
def sizeN (T : Tree) : Int := if checkN T = 0 then ((T.pre 1).length : Int) else 0
def sizeD (T : Tree) : Int := if checkN T = 0 then deepL (T.pre 1) else 0

set_option maxRecDepth 100000 in
set_option maxHeartbeats 1000000 in
theorem Size_any (v : Value) (T : Tree) (w : World) (hv : Lies w.heap.size w v T) (hT : Tabs w) (hh : T.height < 100000000) (hb : bytesOf (T.pre 1) < 4611686018427387904) (hlen : (T.pre 1).length < 1000000000) :
    Calls Tryz.prog 18 #[v] w fun e w' => e = .returned (.tuple #[.int .i64 (sizeN T), .int .i64 (sizeD T)]) ∧ Below w.heap.size w w' := by
  refine (callsIn_wide (n := 0)).1 ?_
  obtain ⟨F, hF⟩ : ∃ F, F = Fence.wide := ⟨_, rfl⟩
  rw [← hF]
  have hd : F.depth = none := by rw [hF]; rfl
  have hro : F.round = none := by rw [hF]; rfl
  have hfn : ∀ f, F.fn f := by rw [hF]; exact fun _ => trivial
  have HF : Hid (F = Fence.wide) := hF
  clear hF
  obtain ⟨k, b, n, s, ks, ts⟩ := T
  have hv0 := hv
  simp only [Lies] at hv
  obtain ⟨ka, kc, la, lc, rfl, ⟨hs1, hs2, hs3, hs4, hs5⟩, hk, ht⟩ := hv
  obtain ⟨W3, hW3⟩ : ∃ W3, ((w.alloc (.cells #[.int .i64 k, .bool b, .int .i64 n, .string s, .slice ka ks.length kc, .slice la ts.length lc] 26)).alloc (.cells #[.int .i64 0] 3)).alloc (.cells #[.int .i64 0] 3) = W3 := ⟨_, rfl⟩
  have hsz3 : W3.heap.size = w.heap.size + 3 := by rw [← hW3]; simp
  have p0 : W3.heap[w.heap.size]? = some (.cells #[.int .i64 k, .bool b, .int .i64 n, .string s, .slice ka ks.length kc, .slice la ts.length lc] 26 (0, 0)) := by rw [← hW3]; simp only [heap_alloc_at, World.size_alloc]; repeat (first | rw [if_pos trivial] | rw [if_pos (by omega)] | rw [if_neg (by omega)])
  have p1 : W3.heap[w.heap.size + 1]? = some (.cells #[.int .i64 0] 3 (0, 0)) := by rw [← hW3]; simp only [heap_alloc_at, World.size_alloc]; repeat (first | rw [if_pos trivial] | rw [if_pos (by omega)] | rw [if_neg (by omega)])
  have p2 : W3.heap[w.heap.size + 2]? = some (.cells #[.int .i64 0] 3 (0, 0)) := by rw [← hW3]; simp only [heap_alloc_at, World.size_alloc]; repeat (first | rw [if_pos trivial] | rw [if_pos (by omega)] | rw [if_neg (by omega)])
  have hb3 : Below w.heap.size w W3 := by rw [← hW3]; exact (((Below.refl _ w).alloc (Nat.le_refl _) _).alloc (by simp) _).alloc (by simp; omega) _
  have hck := check_any _ _ W3 ((hv0.below hb3).mono (by omega)) (hT.below hb3) hh hb
  have hco : ∀ (i : Nat) (v : Value), (#[Value.int .i64 k, .bool b, .int .i64 n, .string s, .slice ka ks.length kc, .slice la ts.length lc] : Array Value)[i]? = some v → ∀ (W : World) (bx : Nat), W.heap[bx]? = some (.cells #[.int .i64 k, .bool b, .int .i64 n, .string s, .slice ka ks.length kc, .slice la ts.length lc] 26 (0, 0)) → W.cell? ⟨bx, i, none⟩ = some v := by
    intro i v hi W bx hbx; unfold World.cell?; simp only [hbx]; simpa using hi
  have HW3 := hidE hW3
  clear hW3
  refine callsIn_of_wp_marks Tryz.func18 rfl (hfn _) ?_ hro
  simp only [Tryz.ntmps18, List.size_toArray, List.length_cons, List.length_nil, Nat.reduceAdd, Nat.reduceSub, Array.replicate_succ, Array.replicate_zero, List.push_toArray, List.append_toArray, List.nil_append, List.cons_append]
  gi_wp2_with fail
  rw [HW3.out]
  refine (in_wide HF.out hck).mono ?_
  rintro e W4 ⟨rfl, hb4⟩
  have q0 : W4.heap[w.heap.size]? = some (.cells #[.int .i64 k, .bool b, .int .i64 n, .string s, .slice ka ks.length kc, .slice la ts.length lc] 26 (0, 0)) := (hb4.block _ (by omega)).trans p0
  have q1 : Boxed W4 (w.heap.size + 1) 3 (.int .i64 0) := (hb4.block _ (by omega)).trans p1
  have q2 : Boxed W4 (w.heap.size + 2) 3 (.int .i64 0) := (hb4.block _ (by omega)).trans p2
  have hbw4 : Below w.heap.size w W4 := hb3.trans (hb4.mono (by omega))
  have hsz4 := hb4.size
  clear hck hb4 p0 p1 p2 hb3 HW3
  have c1 := q1.cell
  have f1 := q1.frozen
  have c2 := q2.cell
  have f2 := q2.frozen
  obtain ⟨cn, hcn⟩ : ∃ x, checkN (.mk k b n s ks ts) = x := ⟨_, rfl⟩
  rw [hcn]
  by_cases hc : cn = 0
  · have hc' : (cn != 0) = false := by simp [hc]
    have x0 := hco 0 _ rfl _ _ q0
    have x1 := hco 1 _ rfl _ _ q0
    have x2 := hco 2 _ rfl _ _ q0
    have x3 := hco 3 _ rfl _ _ q0
    have x4 := hco 4 _ rfl _ _ q0
    have x5 := hco 5 _ rfl _ _ q0
    have HN : Hid (sizeN (.mk k b n s ks ts) = ((Tree.mk k b n s ks ts).pre 1).length ∧ sizeD (.mk k b n s ks ts) = deepL ((Tree.mk k b n s ks ts).pre 1)) := by
      unfold sizeN sizeD; rw [hcn, if_pos hc, if_pos hc]; exact ⟨rfl, rfl⟩
    clear hcn hc
    gi_wp2_with (gi_at_call 59; refine (within_any (hfn _) hro _ _ _ _ _ _ _ _ _ _ _ _).mono ?_; rintro e w' ⟨rfl, rfl⟩)
    refine range_wp hro hd (gf := 87) (lb := #[.pointer (some ⟨W4.heap.size, 0, none⟩)]) rfl (hfn _) (enters_of Tryz.func87 (by kernel_rfl) rfl) ?_
    intro fn hfn0
    generalize hrec : Loop.mk _ _ _ _ _ _ _ _ = rec
    simp only [World.size_alloc]
    generalize hW0 : World.alloc _ (Obj.loop rec) = W0
    have hsz : W0.heap.size = W4.heap.size + 3 := by rw [← hW0]; simp
    have hW04 : ∀ i, i < W4.heap.size → W0.heap[i]? = W4.heap[i]? := fun i hi => by rw [← hW0, Below.heap_alloc _ _ _ (by simp; omega), Below.heap_alloc _ _ _ (by simp; omega), Below.heap_alloc _ _ _ hi]
    have b1 : W0.heap[w.heap.size + 1]? = some (.cells #[.int .i64 0] 3 (0, 0)) := (hW04 _ (by omega)).trans q1
    have b2 : W0.heap[w.heap.size + 2]? = some (.cells #[.int .i64 0] 3 (0, 0)) := (hW04 _ (by omega)).trans q2
    have b5 : W0.heap[W4.heap.size]? = some (.cells #[.int .i64 k, .bool b, .int .i64 n, .string s, .slice ka ks.length kc, .slice la ts.length lc] 26 (0, 0)) := by rw [← hW0]; simp only [heap_alloc_at, World.size_alloc]; repeat (first | rw [if_pos trivial] | rw [if_pos (by omega)] | rw [if_neg (by omega)])
    have b3 : W0.heap[W4.heap.size + 1]? = some (.deferred (some [])) := by rw [← hW0]; simp only [heap_alloc_at, World.size_alloc]; repeat (first | rw [if_pos trivial] | rw [if_pos (by omega)] | rw [if_neg (by omega)])
    have b4 : W0.heap[W4.heap.size + 2]? = some (.loop rec) := by rw [← hW0]; simp only [heap_alloc_at, World.size_alloc]; repeat (first | rw [if_pos trivial] | rw [if_pos (by omega)] | rw [if_neg (by omega)])
    have hbl : Below w.heap.size w W0 := by
      rw [← hW0]; exact ((hbw4.alloc (by omega) _).alloc (by simp; omega) _).alloc (by simp; omega) _
    clear hW0 hW04 q0 q1 q2 c1 f1 c2 f2 x0 x1 x2 x3 x4 x5 hbw4
    generalize hg4 : W4.heap.size = g at *
    clear hg4
    have R : Rounds F (g + 2) w.heap.size (g + 3) w ((Tree.mk k b n s ks ts).pre 1)
        (fun pre W => W.heap[g + 2]? = some (.loop rec) ∧ W.heap[g + 1]? = some (.deferred (some [])) ∧ W.heap[w.heap.size + 1]? = some (.cells #[.int .i64 (pre.length : Int)] 3 (0, 0)) ∧
          W.heap[w.heap.size + 2]? = some (.cells #[.int .i64 (deepL pre)] 3 (0, 0)) ∧ Below w.heap.size w W ∧ g + 3 ≤ W.heap.size)
        (fun W => False)
        (fun _ _ => False) := by
      refine ⟨?_, ?_, ?_⟩
      · rintro pre W ⟨_, _, _, _, h4, h5⟩
        exact ⟨h4, by omega, h5⟩
      · rintro pre W W' ⟨h1, h2, h3, h3', h4, h5⟩ hb
        exact ⟨(hb.block _ (by omega)).trans h1, (hb.block _ (by omega)).trans h2, (hb.block _ (by omega)).trans h3, (hb.block _ (by omega)).trans h3', h4.trans (hb.mono (by omega)), by have := hb.size; omega⟩
      · rintro m' pre d ⟨k', b', n', s', ks', us⟩ v W ⟨h1, h2, h3, h3', h4, h5⟩ hlv hpre
        simp only [Lies] at hlv
        obtain ⟨ka', kc', la', lc', rfl, ⟨g1, g2, g3, g4, g5⟩, hk', ht'⟩ := hlv
        have hpl : pre.length < 1000000000 := by
          obtain ⟨r, hr⟩ := hpre
          have := congrArg List.length hr
          simp only [List.length_append] at this
          omega
        have ea := congrArg Loop.assign hrec
        have eb := congrArg Loop.body hrec
        have et := congrArg Loop.tmps hrec
        have ep := congrArg Loop.params hrec
        have es := congrArg Loop.state hrec
        have ef := congrArg Loop.fn hrec
        have hr0 : asReady rec = rec := by rw [← hrec]; rfl
        dsimp only at ea eb et ep es ef
        clear hrec
        refine yield_round (hfn _) ea eb et ep h1 es.symm (by rw [← ep]; rfl) ?_
        clear ea eb et ep es
        gi_wp2_with fail
        refine ⟨h1, ?_⟩
        generalize hW2 : World.putObj _ _ _ = W2
        have a1 : W2.heap[g + 2]? = some (.loop (asBusy rec)) := by rw [← hW2]; exact World.putObj_heap_same (by omega)
        have a2 : Boxed W2 (w.heap.size + 1) 3 (.int .i64 (pre.length : Int)) := by rw [← hW2]; show _ = _; rw [World.putObj_heap_other (by omega)]; exact h3
        have a2' : Boxed W2 (w.heap.size + 2) 3 (.int .i64 (deepL pre)) := by rw [← hW2]; show _ = _; rw [World.putObj_heap_other (by omega)]; exact h3'
        have a3 : W2.heap[g + 1]? = some (.deferred (some [])) := by rw [← hW2, World.putObj_heap_other (by omega)]; exact h2
        have a5 : Below w.heap.size w W2 := by rw [← hW2]; exact (But.putObj _ _).below h4 (by omega)
        have a6 : W2.heap.size = W.heap.size := by rw [← hW2]; simp
        have a7 : Above (g + 3) W W2 := ⟨by omega, fun i hi hl => by rw [← hW2]; exact World.putObj_heap_other (by omega)⟩
        clear hW2 h1 h2 h3 h3'
        have cb := a2.cell
        have fb := a2.frozen
        have cd := a2'.cell
        have fd := a2'.frozen
        have HD := hidE (deepL_snoc pre d (.mk k' b' n' s' ks' us))
        gi_wp2_with fail
        generalize hV1 : W2.setCell ⟨w.heap.size + 1, 0, none⟩ (.int .i64 ((pre.length : Int) + 1)) = V1
        have k1 : Boxed V1 (w.heap.size + 1) 3 (.int .i64 ((pre.length : Int) + 1)) := hV1 ▸ a2.set _
        have k2 : ∀ i, i ≠ w.heap.size + 1 → V1.heap[i]? = W2.heap[i]? := fun i hi => hV1 ▸ Below.heap_setCell _ _ _ _ (by show i ≠ w.heap.size + 1; exact hi)
        have k3 : V1.heap.size = W2.heap.size := by rw [← hV1]; simp [World.setCell]
        have k4 : Below w.heap.size w V1 := hV1 ▸ a5.setCell (p := ⟨w.heap.size + 1, 0, none⟩) (by show _ ≤ w.heap.size + 1; omega) _
        have k5 : Boxed V1 (w.heap.size + 2) 3 (.int .i64 (deepL pre)) := (k2 _ (by omega)).trans a2'
        clear hV1
        generalize hV2 : V1.setCell ⟨w.heap.size + 1 + 1, 0, none⟩ (.int .i64 (max (deepL pre) d)) = V2
        have l1 : Boxed V2 (w.heap.size + 2) 3 (.int .i64 (max (deepL pre) d)) := hV2 ▸ k5.set _
        have l2 : ∀ i, i ≠ w.heap.size + 2 → V2.heap[i]? = V1.heap[i]? := fun i hi => hV2 ▸ Below.heap_setCell _ _ _ _ (by show i ≠ w.heap.size + 2; exact hi)
        have l3 : V2.heap.size = V1.heap.size := by rw [← hV2]; simp [World.setCell]
        have l4 : Below w.heap.size w V2 := hV2 ▸ k4.setCell (p := ⟨w.heap.size + 1 + 1, 0, none⟩) (by show _ ≤ w.heap.size + 1 + 1; omega) _
        have l5 : Boxed V2 (w.heap.size + 1) 3 (.int .i64 ((pre.length : Int) + 1)) := (l2 _ (by omega)).trans k1
        clear hV2
        refine ⟨(l2 _ (by omega)).trans ((k2 _ (by omega)).trans a1), .inl ⟨rfl, ⟨?_, ?_, ?_, ?_, ?_, ?_⟩, ?_⟩⟩
        · rw [hr0]; exact World.putObj_heap_same (by omega)
        · rw [World.putObj_heap_other (by omega)]; exact (l2 _ (by omega)).trans ((k2 _ (by omega)).trans a3)
        · rw [World.putObj_heap_other (by omega), List.length_append]; exact l5
        · rw [World.putObj_heap_other (by omega), HD.out]; exact l1
        · exact (But.putObj _ _).below l4 (by omega)
        · rw [World.putObj_size]; omega
        · refine a7.trans ⟨by rw [World.putObj_size]; omega, fun i hi hl => ?_⟩
          rw [World.putObj_heap_other (by omega)]; exact (l2 _ (by omega)).trans (k2 _ (by omega))
    refine (within1_any hd (hfn _) (hfn _) hro R _ g W0 hv0 ⟨b4, b3, b1, b2, hbl, by omega⟩ (by simp only [Tree.height] at hh; omega)
      (hco 0 _ rfl _ _ b5) (hco 1 _ rfl _ _ b5) (hco 2 _ rfl _ _ b5) (hco 3 _ rfl _ _ b5) (hco 4 _ rfl _ _ b5) (hco 5 _ rfl _ _ b5)).mono ?_
    rintro e W' (⟨⟨x, rfl⟩, ⟨h1, h2, h3, h3', h4, h5⟩ | hx⟩ | ⟨ch, _, hx⟩)
    · have hp : rec.pending = none := by rw [← hrec]
      have hst : rec.state ≠ .busy := by rw [← hrec]; simp
      clear hrec R b1 b2 b3 b4 b5 hbl hsz hco
      refine ⟨rec, h1, hst, ?_⟩
      simp only [hp]
      generalize hW5 : World.putObj _ _ _ = W5
      have d1 : Boxed W5 (w.heap.size + 1) 3 (.int .i64 (((Tree.mk k b n s ks ts).pre 1).length : Int)) := by rw [← hW5]; show _ = _; rw [World.putObj_heap_other (by omega)]; exact h3
      have d2 : Boxed W5 (w.heap.size + 2) 3 (.int .i64 (deepL ((Tree.mk k b n s ks ts).pre 1))) := by rw [← hW5]; show _ = _; rw [World.putObj_heap_other (by omega)]; exact h3'
      have hg5 : g + 3 ≤ W5.heap.size := by rw [← hW5, World.putObj_size]; exact h5
      have d3 : W5.heap[g + 1]? = some (.deferred (some [])) := by rw [← hW5, World.putObj_heap_other (by omega)]; exact h2
      have d4 : Below w.heap.size w W5 := by rw [← hW5]; exact (But.putObj _ _).below h4 (by omega)
      clear hW5 h1 h2 h3 h3' h4 hst hp
      generalize hpl : (((Tree.mk k b n s ks ts).pre 1).length : Int) = pl at *
      generalize hdl : deepL ((Tree.mk k b n s ks ts).pre 1) = dl at *
      have cb := d1.cell
      have fb := d1.frozen
      have cd := d2.cell
      have fd := d2.frozen
      clear hpl hdl
      have hmx : Tryz.prog.follows .mixedOrders = true := by kernel_rfl
      have HV : Hid (∀ V, V = ((W5.setCell ⟨w.heap.size + 1, 0, none⟩ (.int .i64 pl)).setCell ⟨w.heap.size + 1 + 1, 0, none⟩ (.int .i64 dl)).drew → V.heap[g + 1]? = some (.deferred (some [])) ∧ Below w.heap.size w (V.putObj (g + 1) (.deferred none)) ∧
          (V.putObj (g + 1) (.deferred none)).cell? ⟨w.heap.size + 1, 0, none⟩ = some (.int .i64 pl) ∧ (V.putObj (g + 1) (.deferred none)).cell? ⟨w.heap.size + 1 + 1, 0, none⟩ = some (.int .i64 dl)) := by
        rintro V rfl
        generalize hV1 : W5.setCell ⟨w.heap.size + 1, 0, none⟩ (.int .i64 pl) = V1
        have k1 : Boxed V1 (w.heap.size + 1) 3 (.int .i64 pl) := hV1 ▸ d1.set _
        have k2 : ∀ i, i ≠ w.heap.size + 1 → V1.heap[i]? = W5.heap[i]? := fun i hi => hV1 ▸ Below.heap_setCell _ _ _ _ (by show i ≠ w.heap.size + 1; exact hi)
        have k4 : Below w.heap.size w V1 := hV1 ▸ d4.setCell (p := ⟨w.heap.size + 1, 0, none⟩) (by show _ ≤ w.heap.size + 1; omega) _
        have k5 : Boxed V1 (w.heap.size + 2) 3 (.int .i64 dl) := (k2 _ (by omega)).trans d2
        clear hV1
        generalize hV2 : V1.setCell ⟨w.heap.size + 1 + 1, 0, none⟩ (.int .i64 dl) = V2
        have l1 : Boxed V2 (w.heap.size + 2) 3 (.int .i64 dl) := hV2 ▸ k5.set _
        have l2 : ∀ i, i ≠ w.heap.size + 2 → V2.heap[i]? = V1.heap[i]? := fun i hi => hV2 ▸ Below.heap_setCell _ _ _ _ (by show i ≠ w.heap.size + 2; exact hi)
        have l4 : Below w.heap.size w V2 := hV2 ▸ k4.setCell (p := ⟨w.heap.size + 1 + 1, 0, none⟩) (by show _ ≤ w.heap.size + 1 + 1; omega) _
        have l5 : Boxed V2 (w.heap.size + 1) 3 (.int .i64 pl) := (l2 _ (by omega)).trans k1
        clear hV2
        have m1 : Boxed (V2.drew.putObj (g + 1) (.deferred none)) (w.heap.size + 1) 3 (.int .i64 pl) := (World.putObj_heap_other (by omega)).trans l5
        have m2 : Boxed (V2.drew.putObj (g + 1) (.deferred none)) (w.heap.size + 2) 3 (.int .i64 dl) := (World.putObj_heap_other (by omega)).trans l1
        exact ⟨(l2 _ (by omega)).trans ((k2 _ (by omega)).trans d3), (But.putObj _ _).below l4.drew (by omega), m1.cell, m2.cell⟩
      gi_wp2_with fail
      gi_region_o
      all_goals
        gi_wp2_with fail
        obtain ⟨z0, z3, z1, z2⟩ := HV.out _ rfl
        show LeavesInM _ _ _ _ _ _ [_] .returning _
        refine ⟨by simp, .inl ⟨_, _, rfl, run_takeDeferred z0, ?_⟩⟩
        refine ⟨.tuple #[.int .i64 pl, .int .i64 dl], ?_, by rw [HN.out.1, HN.out.2], z3⟩
        simp [results, Tryz.results18, go_sem, z1, z2]
    · exact hx.elim
    · exact hx.elim
  · have hc' : (cn != 0) = true := by simp [hc]
    have HN : Hid (sizeN (.mk k b n s ks ts) = 0 ∧ sizeD (.mk k b n s ks ts) = 0) := by
      unfold sizeN sizeD; rw [hcn, if_neg hc, if_neg hc]; exact ⟨rfl, rfl⟩
    clear hcn hc
    gi_wp2_with fail
    generalize hV1 : W4.setCell ⟨w.heap.size + 1, 0, none⟩ (.int .i64 0) = V1
    have k1 : Boxed V1 (w.heap.size + 1) 3 (.int .i64 0) := hV1 ▸ q1.set _
    have k2 : ∀ i, i ≠ w.heap.size + 1 → V1.heap[i]? = W4.heap[i]? := fun i hi => hV1 ▸ Below.heap_setCell _ _ _ _ (by show i ≠ w.heap.size + 1; exact hi)
    have k4 : Below w.heap.size w V1 := hV1 ▸ hbw4.setCell (p := ⟨w.heap.size + 1, 0, none⟩) (by show _ ≤ w.heap.size + 1; omega) _
    have k5 : Boxed V1 (w.heap.size + 2) 3 (.int .i64 0) := (k2 _ (by omega)).trans q2
    generalize hV2 : V1.setCell ⟨w.heap.size + 1 + 1, 0, none⟩ (.int .i64 0) = V2
    have l1 : Boxed V2 (w.heap.size + 2) 3 (.int .i64 0) := hV2 ▸ k5.set _
    have l2 : ∀ i, i ≠ w.heap.size + 2 → V2.heap[i]? = V1.heap[i]? := fun i hi => hV2 ▸ Below.heap_setCell _ _ _ _ (by show i ≠ w.heap.size + 2; exact hi)
    have l4 : Below w.heap.size w V2 := hV2 ▸ k4.setCell (p := ⟨w.heap.size + 1 + 1, 0, none⟩) (by show _ ≤ w.heap.size + 1 + 1; omega) _
    have l5 : Boxed V2 (w.heap.size + 1) 3 (.int .i64 0) := (l2 _ (by omega)).trans k1
    have z1 := l5.cell
    have z2 : V2.cell? ⟨w.heap.size + 1 + 1, 0, none⟩ = some (.int .i64 0) := l1.cell
    refine ⟨.tuple #[.int .i64 0, .int .i64 0], ?_, by rw [HN.out.1, HN.out.2], l4⟩
    simp [results, Tryz.results18, go_sem, z1, z2]
end Go.Proofs.YtbpmhgcjefpigaaGreatDoor
