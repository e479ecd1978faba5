/- value.Size: how many values there are, and how deep. Storable, the program's and the document's. The program's Size is the document's; its Storable is the document's of values that may be. -/
import Derived.Test.YtbpmhgcjefpigaaGreatDoorJoin3
import Derived.Test.YtbpmhgcjefpigaaGreatDoorCheck
import Derived.Test.YtbpmhgcjefpigaaGreatDoorJoin10
import Derived.Test.YtbpmhgcjefpigaaGreatDoorJoin19
namespace Go.Proofs.YtbpmhgcjefpigaaGreatDoor
open Go.RowKit Go.Shelf
set_option linter.unusedVariables false

attribute [local go_sem] Oper.semAt_some

/-- How deep the deepest of a row of values lies. -/
def deepL (l : List (Int × Tree)) : Int := (l.map fun x => x.1).foldl max 0
theorem deepL_snoc (l : List (Int × Tree)) (d : Int) (t : Tree) : deepL (l ++ [(d, t)]) = max (deepL l) d := by simp [deepL, List.foldl_append]
/-- What Size answers. -/
def sizeN (T : Tree) : Int := if checkN T = 0 then ((T.pre 1).length : Int) else 0
def sizeD (T : Tree) : Int := if checkN T = 0 then deepL (T.pre 1) else 0

set_option maxRecDepth 100000 in
set_option maxHeartbeats 1000000 in
theorem Size_any (v : Value) (T : Tree) (w : World) (hv : Lies w.heap.size w v T) (hT : Tabs w) (hh : T.height < 100000000) (hb : bytesOf (T.pre 1) < 4611686018427387904) (hlen : (T.pre 1).length < 1000000000) :
    Calls Tryz.prog 18 #[v] w fun e w' => e = .returned (.tuple #[.int .i64 (sizeN T), .int .i64 (sizeD T)]) ∧ Below w.heap.size w w' := by
  refine (callsIn_wide (n := 0)).1 ?_
  obtain ⟨F, hF⟩ : ∃ F, F = Fence.wide := ⟨_, rfl⟩
  rw [← hF]
  have hd : F.depth = none := by rw [hF]; rfl
  have hro : F.round = none := by rw [hF]; rfl
  have hfn : ∀ f, F.fn f := by rw [hF]; exact fun _ => trivial
  have HF : Hid (F = Fence.wide) := hF
  clear hF
  obtain ⟨k, b, n, s, ks, ts⟩ := T
  have hv0 := hv
  simp only [Lies] at hv
  obtain ⟨ka, kc, la, lc, rfl, ⟨hs1, hs2, hs3, hs4, hs5⟩, hk, ht⟩ := hv
  obtain ⟨W3, hW3⟩ : ∃ W3, ((w.alloc (.cells #[.int .i64 k, .bool b, .int .i64 n, .string s, .slice ka ks.length kc, .slice la ts.length lc] 26)).alloc (.cells #[.int .i64 0] 3)).alloc (.cells #[.int .i64 0] 3) = W3 := ⟨_, rfl⟩
  have hsz3 : W3.heap.size = w.heap.size + 3 := by rw [← hW3]; simp
  have p0 : W3.heap[w.heap.size]? = some (.cells #[.int .i64 k, .bool b, .int .i64 n, .string s, .slice ka ks.length kc, .slice la ts.length lc] 26 (0, 0)) := by rw [← hW3]; simp only [heap_alloc_at, World.size_alloc]; repeat (first | rw [if_pos trivial] | rw [if_pos (by omega)] | rw [if_neg (by omega)])
  have p1 : W3.heap[w.heap.size + 1]? = some (.cells #[.int .i64 0] 3 (0, 0)) := by rw [← hW3]; simp only [heap_alloc_at, World.size_alloc]; repeat (first | rw [if_pos trivial] | rw [if_pos (by omega)] | rw [if_neg (by omega)])
  have p2 : W3.heap[w.heap.size + 2]? = some (.cells #[.int .i64 0] 3 (0, 0)) := by rw [← hW3]; simp only [heap_alloc_at, World.size_alloc]; repeat (first | rw [if_pos trivial] | rw [if_pos (by omega)] | rw [if_neg (by omega)])
  have hb3 : Below w.heap.size w W3 := by rw [← hW3]; exact (((Below.refl _ w).alloc (Nat.le_refl _) _).alloc (by simp) _).alloc (by simp; omega) _
  have hck := check_any _ _ W3 ((hv0.below hb3).mono (by omega)) (hT.below hb3) hh hb
  have hco : ∀ (i : Nat) (v : Value), (#[Value.int .i64 k, .bool b, .int .i64 n, .string s, .slice ka ks.length kc, .slice la ts.length lc] : Array Value)[i]? = some v → ∀ (W : World) (bx : Nat), W.heap[bx]? = some (.cells #[.int .i64 k, .bool b, .int .i64 n, .string s, .slice ka ks.length kc, .slice la ts.length lc] 26 (0, 0)) → W.cell? ⟨bx, i, none⟩ = some v := by
    intro i v hi W bx hbx; unfold World.cell?; simp only [hbx]; simpa using hi
  have HW3 := hidE hW3
  clear hW3
  refine callsIn_of_wp_marks Tryz.func18 rfl (hfn _) ?_ hro
  simp only [Tryz.ntmps18, List.size_toArray, List.length_cons, List.length_nil, Nat.reduceAdd, Nat.reduceSub, Array.replicate_succ, Array.replicate_zero, List.push_toArray, List.append_toArray, List.nil_append, List.cons_append]
  gi_wp2_with fail
  rw [HW3.out]
  refine (in_wide HF.out hck).mono ?_
  rintro e W4 ⟨rfl, hb4⟩
  have q0 : W4.heap[w.heap.size]? = some (.cells #[.int .i64 k, .bool b, .int .i64 n, .string s, .slice ka ks.length kc, .slice la ts.length lc] 26 (0, 0)) := (hb4.block _ (by omega)).trans p0
  have q1 : Boxed W4 (w.heap.size + 1) 3 (.int .i64 0) := (hb4.block _ (by omega)).trans p1
  have q2 : Boxed W4 (w.heap.size + 2) 3 (.int .i64 0) := (hb4.block _ (by omega)).trans p2
  have hbw4 : Below w.heap.size w W4 := hb3.trans (hb4.mono (by omega))
  have hsz4 := hb4.size
  clear hck hb4 p0 p1 p2 hb3 HW3
  have c1 := q1.cell
  have f1 := q1.frozen
  have c2 := q2.cell
  have f2 := q2.frozen
  obtain ⟨cn, hcn⟩ : ∃ x, checkN (.mk k b n s ks ts) = x := ⟨_, rfl⟩
  rw [hcn]
  by_cases hc : cn = 0
  · have hc' : (cn != 0) = false := by simp [hc]
    have x0 := hco 0 _ rfl _ _ q0
    have x1 := hco 1 _ rfl _ _ q0
    have x2 := hco 2 _ rfl _ _ q0
    have x3 := hco 3 _ rfl _ _ q0
    have x4 := hco 4 _ rfl _ _ q0
    have x5 := hco 5 _ rfl _ _ q0
    have HN : Hid (sizeN (.mk k b n s ks ts) = ((Tree.mk k b n s ks ts).pre 1).length ∧ sizeD (.mk k b n s ks ts) = deepL ((Tree.mk k b n s ks ts).pre 1)) := by
      unfold sizeN sizeD; rw [hcn, if_pos hc, if_pos hc]; exact ⟨rfl, rfl⟩
    clear hcn hc
    gi_wp2_with (gi_at_call 59; refine (within_any (hfn _) hro _ _ _ _ _ _ _ _ _ _ _ _).mono ?_; rintro e w' ⟨rfl, rfl⟩)
    refine range_wp hro hd (gf := 87) (lb := #[.pointer (some ⟨W4.heap.size, 0, none⟩)]) rfl (hfn _) (enters_of Tryz.func87 (by kernel_rfl) rfl) ?_
    intro fn hfn0
    generalize hrec : Loop.mk _ _ _ _ _ _ _ _ = rec
    simp only [World.size_alloc]
    generalize hW0 : World.alloc _ (Obj.loop rec) = W0
    have hsz : W0.heap.size = W4.heap.size + 3 := by rw [← hW0]; simp
    have hW04 : ∀ i, i < W4.heap.size → W0.heap[i]? = W4.heap[i]? := fun i hi => by rw [← hW0, Below.heap_alloc _ _ _ (by simp; omega), Below.heap_alloc _ _ _ (by simp; omega), Below.heap_alloc _ _ _ hi]
    have b1 : W0.heap[w.heap.size + 1]? = some (.cells #[.int .i64 0] 3 (0, 0)) := (hW04 _ (by omega)).trans q1
    have b2 : W0.heap[w.heap.size + 2]? = some (.cells #[.int .i64 0] 3 (0, 0)) := (hW04 _ (by omega)).trans q2
    have b5 : W0.heap[W4.heap.size]? = some (.cells #[.int .i64 k, .bool b, .int .i64 n, .string s, .slice ka ks.length kc, .slice la ts.length lc] 26 (0, 0)) := by rw [← hW0]; simp only [heap_alloc_at, World.size_alloc]; repeat (first | rw [if_pos trivial] | rw [if_pos (by omega)] | rw [if_neg (by omega)])
    have b3 : W0.heap[W4.heap.size + 1]? = some (.deferred (some [])) := by rw [← hW0]; simp only [heap_alloc_at, World.size_alloc]; repeat (first | rw [if_pos trivial] | rw [if_pos (by omega)] | rw [if_neg (by omega)])
    have b4 : W0.heap[W4.heap.size + 2]? = some (.loop rec) := by rw [← hW0]; simp only [heap_alloc_at, World.size_alloc]; repeat (first | rw [if_pos trivial] | rw [if_pos (by omega)] | rw [if_neg (by omega)])
    have hbl : Below w.heap.size w W0 := by
      rw [← hW0]; exact ((hbw4.alloc (by omega) _).alloc (by simp; omega) _).alloc (by simp; omega) _
    clear hW0 hW04 q0 q1 q2 c1 f1 c2 f2 x0 x1 x2 x3 x4 x5 hbw4
    generalize hg4 : W4.heap.size = g at *
    clear hg4
    have R : Rounds F (g + 2) w.heap.size (g + 3) w ((Tree.mk k b n s ks ts).pre 1)
        (fun pre W => W.heap[g + 2]? = some (.loop rec) ∧ W.heap[g + 1]? = some (.deferred (some [])) ∧ W.heap[w.heap.size + 1]? = some (.cells #[.int .i64 (pre.length : Int)] 3 (0, 0)) ∧
          W.heap[w.heap.size + 2]? = some (.cells #[.int .i64 (deepL pre)] 3 (0, 0)) ∧ Below w.heap.size w W ∧ g + 3 ≤ W.heap.size)
        (fun W => False)
        (fun _ _ => False) := by
      refine ⟨?_, ?_, ?_⟩
      · rintro pre W ⟨_, _, _, _, h4, h5⟩
        exact ⟨h4, by omega, h5⟩
      · rintro pre W W' ⟨h1, h2, h3, h3', h4, h5⟩ hb
        exact ⟨(hb.block _ (by omega)).trans h1, (hb.block _ (by omega)).trans h2, (hb.block _ (by omega)).trans h3, (hb.block _ (by omega)).trans h3', h4.trans (hb.mono (by omega)), by have := hb.size; omega⟩
      · rintro m' pre d ⟨k', b', n', s', ks', us⟩ v W ⟨h1, h2, h3, h3', h4, h5⟩ hlv hpre
        simp only [Lies] at hlv
        obtain ⟨ka', kc', la', lc', rfl, ⟨g1, g2, g3, g4, g5⟩, hk', ht'⟩ := hlv
        have hpl : pre.length < 1000000000 := by
          obtain ⟨r, hr⟩ := hpre
          have := congrArg List.length hr
          simp only [List.length_append] at this
          omega
        have ea := congrArg Loop.assign hrec
        have eb := congrArg Loop.body hrec
        have et := congrArg Loop.tmps hrec
        have ep := congrArg Loop.params hrec
        have es := congrArg Loop.state hrec
        have ef := congrArg Loop.fn hrec
        have hr0 : asReady rec = rec := by rw [← hrec]; rfl
        dsimp only at ea eb et ep es ef
        clear hrec
        refine yield_round (hfn _) ea eb et ep h1 es.symm (by rw [← ep]; rfl) ?_
        clear ea eb et ep es
        gi_wp2_with fail
        refine ⟨h1, ?_⟩
        generalize hW2 : World.putObj _ _ _ = W2
        have a1 : W2.heap[g + 2]? = some (.loop (asBusy rec)) := by rw [← hW2]; exact World.putObj_heap_same (by omega)
        have a2 : Boxed W2 (w.heap.size + 1) 3 (.int .i64 (pre.length : Int)) := by rw [← hW2]; show _ = _; rw [World.putObj_heap_other (by omega)]; exact h3
        have a2' : Boxed W2 (w.heap.size + 2) 3 (.int .i64 (deepL pre)) := by rw [← hW2]; show _ = _; rw [World.putObj_heap_other (by omega)]; exact h3'
        have a3 : W2.heap[g + 1]? = some (.deferred (some [])) := by rw [← hW2, World.putObj_heap_other (by omega)]; exact h2
        have a5 : Below w.heap.size w W2 := by rw [← hW2]; exact (But.putObj _ _).below h4 (by omega)
        have a6 : W2.heap.size = W.heap.size := by rw [← hW2]; simp
        have a7 : Above (g + 3) W W2 := ⟨by omega, fun i hi hl => by rw [← hW2]; exact World.putObj_heap_other (by omega)⟩
        clear hW2 h1 h2 h3 h3'
        have cb := a2.cell
        have fb := a2.frozen
        have cd := a2'.cell
        have fd := a2'.frozen
        have HD := hidE (deepL_snoc pre d (.mk k' b' n' s' ks' us))
        gi_wp2_with fail
        generalize hV1 : W2.setCell ⟨w.heap.size + 1, 0, none⟩ (.int .i64 ((pre.length : Int) + 1)) = V1
        have k1 : Boxed V1 (w.heap.size + 1) 3 (.int .i64 ((pre.length : Int) + 1)) := hV1 ▸ a2.set _
        have k2 : ∀ i, i ≠ w.heap.size + 1 → V1.heap[i]? = W2.heap[i]? := fun i hi => hV1 ▸ Below.heap_setCell _ _ _ _ (by show i ≠ w.heap.size + 1; exact hi)
        have k3 : V1.heap.size = W2.heap.size := by rw [← hV1]; simp [World.setCell]
        have k4 : Below w.heap.size w V1 := hV1 ▸ a5.setCell (p := ⟨w.heap.size + 1, 0, none⟩) (by show _ ≤ w.heap.size + 1; omega) _
        have k5 : Boxed V1 (w.heap.size + 2) 3 (.int .i64 (deepL pre)) := (k2 _ (by omega)).trans a2'
        clear hV1
        generalize hV2 : V1.setCell ⟨w.heap.size + 1 + 1, 0, none⟩ (.int .i64 (max (deepL pre) d)) = V2
        have l1 : Boxed V2 (w.heap.size + 2) 3 (.int .i64 (max (deepL pre) d)) := hV2 ▸ k5.set _
        have l2 : ∀ i, i ≠ w.heap.size + 2 → V2.heap[i]? = V1.heap[i]? := fun i hi => hV2 ▸ Below.heap_setCell _ _ _ _ (by show i ≠ w.heap.size + 2; exact hi)
        have l3 : V2.heap.size = V1.heap.size := by rw [← hV2]; simp [World.setCell]
        have l4 : Below w.heap.size w V2 := hV2 ▸ k4.setCell (p := ⟨w.heap.size + 1 + 1, 0, none⟩) (by show _ ≤ w.heap.size + 1 + 1; omega) _
        have l5 : Boxed V2 (w.heap.size + 1) 3 (.int .i64 ((pre.length : Int) + 1)) := (l2 _ (by omega)).trans k1
        clear hV2
        refine ⟨(l2 _ (by omega)).trans ((k2 _ (by omega)).trans a1), .inl ⟨rfl, ⟨?_, ?_, ?_, ?_, ?_, ?_⟩, ?_⟩⟩
        · rw [hr0]; exact World.putObj_heap_same (by omega)
        · rw [World.putObj_heap_other (by omega)]; exact (l2 _ (by omega)).trans ((k2 _ (by omega)).trans a3)
        · rw [World.putObj_heap_other (by omega), List.length_append]; exact l5
        · rw [World.putObj_heap_other (by omega), HD.out]; exact l1
        · exact (But.putObj _ _).below l4 (by omega)
        · rw [World.putObj_size]; omega
        · refine a7.trans ⟨by rw [World.putObj_size]; omega, fun i hi hl => ?_⟩
          rw [World.putObj_heap_other (by omega)]; exact (l2 _ (by omega)).trans (k2 _ (by omega))
    refine (within1_any hd (hfn _) (hfn _) hro R _ g W0 hv0 ⟨b4, b3, b1, b2, hbl, by omega⟩ (by simp only [Tree.height] at hh; omega)
      (hco 0 _ rfl _ _ b5) (hco 1 _ rfl _ _ b5) (hco 2 _ rfl _ _ b5) (hco 3 _ rfl _ _ b5) (hco 4 _ rfl _ _ b5) (hco 5 _ rfl _ _ b5)).mono ?_
    rintro e W' (⟨⟨x, rfl⟩, ⟨h1, h2, h3, h3', h4, h5⟩ | hx⟩ | ⟨ch, _, hx⟩)
    · have hp : rec.pending = none := by rw [← hrec]
      have hst : rec.state ≠ .busy := by rw [← hrec]; simp
      clear hrec R b1 b2 b3 b4 b5 hbl hsz hco
      refine ⟨rec, h1, hst, ?_⟩
      simp only [hp]
      generalize hW5 : World.putObj _ _ _ = W5
      have d1 : Boxed W5 (w.heap.size + 1) 3 (.int .i64 (((Tree.mk k b n s ks ts).pre 1).length : Int)) := by rw [← hW5]; show _ = _; rw [World.putObj_heap_other (by omega)]; exact h3
      have d2 : Boxed W5 (w.heap.size + 2) 3 (.int .i64 (deepL ((Tree.mk k b n s ks ts).pre 1))) := by rw [← hW5]; show _ = _; rw [World.putObj_heap_other (by omega)]; exact h3'
      have hg5 : g + 3 ≤ W5.heap.size := by rw [← hW5, World.putObj_size]; exact h5
      have d3 : W5.heap[g + 1]? = some (.deferred (some [])) := by rw [← hW5, World.putObj_heap_other (by omega)]; exact h2
      have d4 : Below w.heap.size w W5 := by rw [← hW5]; exact (But.putObj _ _).below h4 (by omega)
      clear hW5 h1 h2 h3 h3' h4 hst hp
      generalize hpl : (((Tree.mk k b n s ks ts).pre 1).length : Int) = pl at *
      generalize hdl : deepL ((Tree.mk k b n s ks ts).pre 1) = dl at *
      have cb := d1.cell
      have fb := d1.frozen
      have cd := d2.cell
      have fd := d2.frozen
      clear hpl hdl
      have hmx : Tryz.prog.follows .mixedOrders = true := by kernel_rfl
      have HV : Hid (∀ V, V = ((W5.setCell ⟨w.heap.size + 1, 0, none⟩ (.int .i64 pl)).setCell ⟨w.heap.size + 1 + 1, 0, none⟩ (.int .i64 dl)).drew → V.heap[g + 1]? = some (.deferred (some [])) ∧ Below w.heap.size w (V.putObj (g + 1) (.deferred none)) ∧
          (V.putObj (g + 1) (.deferred none)).cell? ⟨w.heap.size + 1, 0, none⟩ = some (.int .i64 pl) ∧ (V.putObj (g + 1) (.deferred none)).cell? ⟨w.heap.size + 1 + 1, 0, none⟩ = some (.int .i64 dl)) := by
        rintro V rfl
        generalize hV1 : W5.setCell ⟨w.heap.size + 1, 0, none⟩ (.int .i64 pl) = V1
        have k1 : Boxed V1 (w.heap.size + 1) 3 (.int .i64 pl) := hV1 ▸ d1.set _
        have k2 : ∀ i, i ≠ w.heap.size + 1 → V1.heap[i]? = W5.heap[i]? := fun i hi => hV1 ▸ Below.heap_setCell _ _ _ _ (by show i ≠ w.heap.size + 1; exact hi)
        have k4 : Below w.heap.size w V1 := hV1 ▸ d4.setCell (p := ⟨w.heap.size + 1, 0, none⟩) (by show _ ≤ w.heap.size + 1; omega) _
        have k5 : Boxed V1 (w.heap.size + 2) 3 (.int .i64 dl) := (k2 _ (by omega)).trans d2
        clear hV1
        generalize hV2 : V1.setCell ⟨w.heap.size + 1 + 1, 0, none⟩ (.int .i64 dl) = V2
        have l1 : Boxed V2 (w.heap.size + 2) 3 (.int .i64 dl) := hV2 ▸ k5.set _
        have l2 : ∀ i, i ≠ w.heap.size + 2 → V2.heap[i]? = V1.heap[i]? := fun i hi => hV2 ▸ Below.heap_setCell _ _ _ _ (by show i ≠ w.heap.size + 2; exact hi)
        have l4 : Below w.heap.size w V2 := hV2 ▸ k4.setCell (p := ⟨w.heap.size + 1 + 1, 0, none⟩) (by show _ ≤ w.heap.size + 1 + 1; omega) _
        have l5 : Boxed V2 (w.heap.size + 1) 3 (.int .i64 pl) := (l2 _ (by omega)).trans k1
        clear hV2
        have m1 : Boxed (V2.drew.putObj (g + 1) (.deferred none)) (w.heap.size + 1) 3 (.int .i64 pl) := (World.putObj_heap_other (by omega)).trans l5
        have m2 : Boxed (V2.drew.putObj (g + 1) (.deferred none)) (w.heap.size + 2) 3 (.int .i64 dl) := (World.putObj_heap_other (by omega)).trans l1
        exact ⟨(l2 _ (by omega)).trans ((k2 _ (by omega)).trans d3), (But.putObj _ _).below l4.drew (by omega), m1.cell, m2.cell⟩
      gi_wp2_with fail
      gi_region_o
      all_goals
        gi_wp2_with fail
        obtain ⟨z0, z3, z1, z2⟩ := HV.out _ rfl
        show LeavesInM _ _ _ _ _ _ [_] .returning _
        refine ⟨by simp, .inl ⟨_, _, rfl, run_takeDeferred z0, ?_⟩⟩
        refine ⟨.tuple #[.int .i64 pl, .int .i64 dl], ?_, by rw [HN.out.1, HN.out.2], z3⟩
        simp [results, Tryz.results18, go_sem, z1, z2]
    · exact hx.elim
    · exact hx.elim
  · have hc' : (cn != 0) = true := by simp [hc]
    have HN : Hid (sizeN (.mk k b n s ks ts) = 0 ∧ sizeD (.mk k b n s ks ts) = 0) := by
      unfold sizeN sizeD; rw [hcn, if_neg hc, if_neg hc]; exact ⟨rfl, rfl⟩
    clear hcn hc
    gi_wp2_with fail
    generalize hV1 : W4.setCell ⟨w.heap.size + 1, 0, none⟩ (.int .i64 0) = V1
    have k1 : Boxed V1 (w.heap.size + 1) 3 (.int .i64 0) := hV1 ▸ q1.set _
    have k2 : ∀ i, i ≠ w.heap.size + 1 → V1.heap[i]? = W4.heap[i]? := fun i hi => hV1 ▸ Below.heap_setCell _ _ _ _ (by show i ≠ w.heap.size + 1; exact hi)
    have k4 : Below w.heap.size w V1 := hV1 ▸ hbw4.setCell (p := ⟨w.heap.size + 1, 0, none⟩) (by show _ ≤ w.heap.size + 1; omega) _
    have k5 : Boxed V1 (w.heap.size + 2) 3 (.int .i64 0) := (k2 _ (by omega)).trans q2
    generalize hV2 : V1.setCell ⟨w.heap.size + 1 + 1, 0, none⟩ (.int .i64 0) = V2
    have l1 : Boxed V2 (w.heap.size + 2) 3 (.int .i64 0) := hV2 ▸ k5.set _
    have l2 : ∀ i, i ≠ w.heap.size + 2 → V2.heap[i]? = V1.heap[i]? := fun i hi => hV2 ▸ Below.heap_setCell _ _ _ _ (by show i ≠ w.heap.size + 2; exact hi)
    have l4 : Below w.heap.size w V2 := hV2 ▸ k4.setCell (p := ⟨w.heap.size + 1 + 1, 0, none⟩) (by show _ ≤ w.heap.size + 1 + 1; omega) _
    have l5 : Boxed V2 (w.heap.size + 1) 3 (.int .i64 0) := (l2 _ (by omega)).trans k1
    have z1 := l5.cell
    have z2 : V2.cell? ⟨w.heap.size + 1 + 1, 0, none⟩ = some (.int .i64 0) := l1.cell
    refine ⟨.tuple #[.int .i64 0, .int .i64 0], ?_, by rw [HN.out.1, HN.out.2], l4⟩
    simp [results, Tryz.results18, go_sem, z1, z2]
end Go.Proofs.YtbpmhgcjefpigaaGreatDoor

namespace Go.Proofs.YtbpmhgcjefpigaaGreatDoor
open Go.RowKit Go.Shelf
set_option linter.unusedVariables false

/-- The kind of the first value of a list. -/
def firstK (ts : List Tree) : Int := match ts with | [] => 0 | t :: _ => t.kind
/-- Are all values of the first one's kind? -/
def sameK (ts : List Tree) : Bool := ts.all fun t => t.kind == firstK ts
/-- What the document's Storable answers. -/
def rstorB (T : Tree) : Bool := sameK T.kids && (if T.kind = 4 then (if T.kids = [] then true else plainB (firstK T.kids)) else plainB T.kind)
/-- What Storable answers of a value that may be. -/
def storB (T : Tree) : Bool := if T.kind = 4 then T.kids.all fun t => plainB t.kind && (t.kind == firstK T.kids) else plainB T.kind

theorem take_all_snoc {p : Tree → Bool} {ts : List Tree} {j : Nat} {t : Tree} (h : (ts.take j).all p = true) (hx : ts[j]? = some t) (ht : p t = true) : (ts.take (j + 1)).all p = true := by
  rw [List.take_add_one, hx, List.all_append, h]; simp [ht]
theorem all_false {p : Tree → Bool} {ts : List Tree} {j : Nat} {t : Tree} (hx : ts[j]? = some t) (ht : p t = false) : ts.all p = false := by
  rw [List.all_eq_false]; exact ⟨t, List.mem_of_getElem? hx, by simp [ht]⟩
/-- The first value of a list that lies. -/
theorem KidsLie.first {B bl off : Nat} {w : World} {ts : List Tree} (h : KidsLie B w bl off ts) (h0 : 0 < ts.length) : w.cell? ⟨bl, off, none⟩ = some (.int .i64 (firstK ts)) := by
  obtain ⟨⟨p0, p1, p2, p3, p4, p5⟩, hx⟩ : ∃ t, ts[0]? = some t := ⟨_, List.getElem?_eq_getElem h0⟩
  obtain ⟨_, _, _, _, ⟨c0, _⟩, _⟩ := h.cells hx
  cases ts with
  | nil => simp at h0
  | cons t r =>
    simp at hx; subst hx
    simpa [firstK, Tree.kind] using c0

set_option maxRecDepth 100000 in
set_option maxHeartbeats 2000000 in
theorem refstor_any (T : Tree) (B : Nat) (v : Value) (w : World) (hB : B ≤ w.heap.size) (hv : Lies B w v T) : Calls Tryz.prog 26 #[v] w fun e w' => e = .returned (.bool (rstorB T)) ∧ Below w.heap.size w w' := by
  obtain ⟨k, x, n, s, ks, ts⟩ := T
  simp only [Lies] at hv
  obtain ⟨ka, kc, la, lc, rfl, ⟨hs1, hs2, hs3, hs4, hs5⟩, hk, ht⟩ := hv
  unfold maxLen at hs5
  obtain ⟨W1, hW1⟩ : ∃ W1, w.alloc (.cells #[.int .i64 k, .bool x, .int .i64 n, .string s, .slice ka ks.length kc, .slice la ts.length lc] 26) = W1 := ⟨_, rfl⟩
  have hb1 : Below w.heap.size w W1 := hW1 ▸ (Below.refl _ _).alloc (Nat.le_refl _) _
  have hq1 : W1.heap[w.heap.size]? = some (.cells #[.int .i64 k, .bool x, .int .i64 n, .string s, .slice ka ks.length kc, .slice la ts.length lc] 26 (0, 0)) := hW1 ▸ World.alloc_heap_new _ _
  have hlt1 : w.heap.size < W1.heap.size := (Array.getElem?_eq_some_iff.1 hq1).1
  have HX : Hid (∀ W, Below W1.heap.size W1 W → Below w.heap.size w W ∧ W.cell? ⟨w.heap.size, 0, none⟩ = some (.int .i64 k) ∧ W.cell? ⟨w.heap.size, 5, none⟩ = some (.slice la ts.length lc)) := fun W hb => by
    have e := (hb.block _ hlt1).trans hq1
    exact ⟨hb1.trans (hb.mono (by omega)), by unfold World.cell?; simp only [e]; rfl, by unfold World.cell?; simp only [e]; rfl⟩
  have HT : Hid (ts = [] ∨ ∃ bl off, la = some ⟨bl, off, none⟩ ∧ bl < B ∧ KidsLie B w bl off ts) := ht
  have HR : Hid (rstorB (.mk k x n s ks ts) = (sameK ts && (if k = 4 then (if ts = [] then true else plainB (firstK ts)) else plainB k))) := rfl
  have HW1 := hidE hW1
  clear hW1 hq1 ht hk
  go_enter Tryz.func26, Tryz.ntmps26
  go_wp2_with fail
  rw [HW1.out]
  clear HW1
  go_loopw [3] (fun i wr => ∃ j : Nat, j ≤ ts.length ∧ i = .int .i64 j ∧ Below W1.heap.size W1 wr ∧ (ts.take j).all (fun t => t.kind == firstK ts) = true) (fun i _ => ts.length - (intOf i).toNat)
  case atStart => exact ⟨0, Nat.zero_le _, rfl, Below.refl _ _, rfl⟩
  case round =>
    obtain ⟨j, hj, rfl, hbr, hal⟩ := hrel
    have HBR := hidE hbr
    have HAL := hidE hal
    obtain ⟨hbw, q0, q5⟩ := HX.out wr hbr
    have HBW := hidE hbw
    clear hbr hbw hal
    by_cases hlt : j < ts.length
    · obtain ⟨bl, off, rfl, hbl, hkk⟩ := HT.out.resolve_left (by intro e; subst e; simp at hlt)
      obtain ⟨⟨p0, p1, p2, p3, p4, p5⟩, hx⟩ : ∃ t, ts[j]? = some t := ⟨_, List.getElem?_eq_getElem hlt⟩
      have hkw := hkk.below (HBW.out.mono hB) hbl
      obtain ⟨_, _, _, _, ⟨c0, _⟩, _⟩ := hkw.cells hx
      have d0 := hkw.first (by omega)
      have HX2 := hidE hx
      obtain ⟨fk, hfk⟩ : ∃ f, firstK ts = f := ⟨_, rfl⟩
      rw [hfk] at d0
      have HFK := hidE hfk
      have hl0 : (0 : Int) < ts.length := by omega
      clear hkk hkw hx hfk
      go_wp2_with fail
      go_quiet (fail)
      by_cases e : p0 = fk
      · have e' : (p0 != fk) = false := by simp [e]
        go_wp2_with fail
        go_roundw
        case rel => exact ⟨j + 1, by omega, by go_num, below_drewN HBR.out _, take_all_snoc HAL.out HX2.out (by rw [HFK.out]; simp [Tree.kind, e])⟩
        case measure => simp [intOf]; omega
      · have e' : (p0 != fk) = true := by simp [e]
        have HRF : Hid (rstorB (.mk k x n s ks ts) = false) := by
          show _ = _
          rw [HR.out]
          have : sameK ts = false := all_false HX2.out (by rw [HFK.out]; simp [Tree.kind, e])
          rw [this]; rfl
        go_wp2_with fail
        go_ret
        exact ⟨by rw [HRF.out]; rfl, below_drewN HBW.out _⟩
    · have HSM : Hid (sameK ts = true) := by
        have := HAL.out
        rw [List.take_of_length_le (by omega)] at this
        exact this
      have HR2 : Hid (rstorB (.mk k x n s ks ts) = (if k = 4 then (if ts = [] then true else plainB (firstK ts)) else plainB k)) := by
        show _ = _; rw [HR.out, HSM.out, Bool.true_and]
      clear HAL HR HSM
      by_cases k4 : k = 4
      · have k4' : (k == 4) = true := by simp [k4]
        by_cases hl0 : 0 < ts.length
        · have hl0' : (0 : Int) < ts.length := by omega
          obtain ⟨bl, off, rfl, hbl, hkk⟩ := HT.out.resolve_left (by intro e; subst e; simp at hl0)
          have d0 := (hkk.below (HBW.out.mono hB) hbl).first hl0
          have HR3 : Hid (rstorB (.mk k x n s ks ts) = plainB (firstK ts)) := by
            show _ = _; rw [HR2.out, if_pos k4, if_neg (by intro e; subst e; simp at hl0)]
          obtain ⟨fk, hfk⟩ : ∃ f, firstK ts = f := ⟨_, rfl⟩
          rw [hfk] at d0
          have HFK := hidE hfk
          clear hkk hfk
          go_wp2_with fail
          all_goals
            go_ret
            refine ⟨?_, HBW.out⟩
            rw [HR3.out, HFK.out]
            simp_all [plainB]
        · have hl0' : ¬ (0 : Int) < ts.length := by omega
          have HR3 : Hid (rstorB (.mk k x n s ks ts) = true) := by
            show _ = _; rw [HR2.out, if_pos k4, if_pos (List.eq_nil_of_length_eq_zero (by omega))]
          clear k4
          go_wp2_with fail
          go_ret
          exact ⟨by rw [HR3.out]; rfl, HBW.out⟩
      · have k4' : (k == 4) = false := by simp [k4]
        have HR3 : Hid (rstorB (.mk k x n s ks ts) = plainB k) := by
          show _ = _; rw [HR2.out, if_neg k4]
        go_wp2_with fail
        all_goals
          go_ret
          refine ⟨?_, HBW.out⟩
          rw [HR3.out]
          simp_all [plainB]
end Go.Proofs.YtbpmhgcjefpigaaGreatDoor

namespace Go.Proofs.YtbpmhgcjefpigaaGreatDoor
open Go.RowKit Go.Shelf
set_option linter.unusedVariables false

mutual
theorem pre_count : ∀ (T : Tree) (d : Int), ((T.pre d).length : Int) = cntT T
  | .mk k b n s ks ts, d => by
    simp only [Tree.pre, List.length_cons, cntT]
    have := preL_count ts (d + 1)
    omega
theorem preL_count : ∀ (l : List Tree) (d : Int), ((Tree.preL d l).length : Int) = cntL l
  | [], d => by simp [Tree.preL, cntL]
  | t :: l, d => by
    simp only [Tree.preL, List.length_append, cntL]
    have := pre_count t d
    have := preL_count l d
    omega
end
def deepF (m : Int) (l : List (Int × Tree)) : Int := (l.map fun x => x.1).foldl max m
theorem hgtL_nonneg : ∀ (l : List Tree), 0 ≤ hgtL l
  | [] => by simp [hgtL]
  | t :: l => by have := hgtL_nonneg l; simp only [hgtL]; omega
mutual
theorem pre_deepest : ∀ (T : Tree) (d m : Int), d - 1 ≤ m → deepF m (T.pre d) = max m (d - 1 + hgtT T)
  | .mk k b n s ks ts, d, m, h => by
    have e : deepF m (Tree.pre d (.mk k b n s ks ts)) = deepF (max m d) (Tree.preL (d + 1) ts) := by simp [deepF, Tree.pre]
    rw [e, preL_deepest ts (d + 1) (max m d) (by omega)]
    have := hgtL_nonneg ts
    simp only [hgtT]
    omega
theorem preL_deepest : ∀ (l : List Tree) (d m : Int), d - 1 ≤ m → deepF m (Tree.preL d l) = max m (d - 1 + hgtL l)
  | [], d, m, h => by simp only [Tree.preL, hgtL, deepF, List.map_nil, List.foldl_nil]; omega
  | t :: l, d, m, h => by
    have e : deepF m (Tree.preL d (t :: l)) = deepF (deepF m (t.pre d)) (Tree.preL d l) := by simp [deepF, Tree.preL]
    rw [e, pre_deepest t d m h, preL_deepest l d _ (by omega)]
    simp only [hgtL]
    omega
end
theorem pre_one (T : Tree) : ((T.pre 1).length : Int) = cntT T ∧ deepL (T.pre 1) = hgtT T := by
  refine ⟨pre_count T 1, ?_⟩
  have h := pre_deepest T 1 0 (by omega)
  have h2 := (size_le T).2.2.2.1
  show deepF 0 (T.pre 1) = _
  rw [h]; omega
theorem sizes_fine {T : Tree} (h : checkN T = 0) : sizeN T = cntT T ∧ sizeD T = hgtT T := by
  unfold sizeN sizeD; rw [if_pos h, if_pos h]; exact pre_one T
theorem sizes_not {T : Tree} (h : checkN T ≠ 0) : sizeN T = 0 ∧ sizeD T = 0 := by
  unfold sizeN sizeD; rw [if_neg h, if_neg h]; exact ⟨rfl, rfl⟩

theorem shaped_root {T : Tree} (h : checkN T = 0) : shapedB T = true := by
  obtain ⟨k, b, n, s, ks, ts⟩ := T
  unfold checkN at h
  by_cases ha : ((Tree.mk k b n s ks ts).pre 1).all (fun x => shapedB x.2) = true
  · simp only [Tree.pre, List.all_cons, Bool.and_eq_true] at ha
    exact ha.1
  · rw [if_neg ha] at h; omega
theorem plain_bare {T : Tree} (h : checkN T = 0) (hp : plainB T.kind = true) : T.kids = [] := by
  have hs := shaped_root h
  obtain ⟨k, b, n, s, ks, ts⟩ := T
  simp only [Tree.kind, Tree.kids] at hp ⊢
  have hk : k = 1 ∨ k = 2 ∨ k = 3 := by simpa [plainB, or_assoc] using hp
  apply List.eq_nil_of_length_eq_zero
  rcases hk with rfl | rfl | rfl <;> simp [shapedB, blankB] at hs <;> simp [hs]
theorem stor_eq {T : Tree} (h : checkN T = 0) : rstorB T = storB T := by
  unfold rstorB storB
  by_cases k4 : T.kind = 4
  · rw [if_pos k4, if_pos k4]
    by_cases hn : T.kids = []
    · rw [if_pos hn, hn]; rfl
    · rw [if_neg hn, Bool.eq_iff_iff]
      obtain ⟨t0, r, e⟩ : ∃ t r, T.kids = t :: r := by cases hh : T.kids with | nil => exact absurd hh hn | cons t r => exact ⟨t, r, rfl⟩
      have hf : firstK T.kids = t0.kind := by rw [e]; rfl
      simp only [Bool.and_eq_true, sameK, List.all_eq_true, beq_iff_eq]
      constructor
      · rintro ⟨h1, h2⟩ t ht
        exact ⟨by rw [h1 t ht]; exact h2, h1 t ht⟩
      · intro h1
        refine ⟨fun t ht => (h1 t ht).2, ?_⟩
        have := (h1 t0 (by rw [e]; simp)).1
        rw [hf]; exact this
  · rw [if_neg k4, if_neg k4]
    by_cases hp : plainB T.kind = true
    · rw [plain_bare h hp, hp]; rfl
    · have hp' : plainB T.kind = false := by simpa using hp
      rw [hp', Bool.and_false]
end Go.Proofs.YtbpmhgcjefpigaaGreatDoor

