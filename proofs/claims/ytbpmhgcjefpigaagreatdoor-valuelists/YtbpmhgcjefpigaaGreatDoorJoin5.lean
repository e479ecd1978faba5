/- Check: whether a value may be, and is not too great. Equal: values that may not be are held for nothing. How great a value is, as far as some. -/
import Derived.Test.YtbpmhgcjefpigaaGreatDoorJoin4
namespace Go.Proofs.YtbpmhgcjefpigaaGreatDoor
open Go.RowKit Go.Shelf
set_option linter.unusedVariables false
attribute [local go_sem] Oper.semAt_some
theorem in_wide {F : Fence} {n : Nat} {P : Program} {f : FuncId} {args : Array Value} {w : World} {R : Ending → World → Prop} (hF : F = Fence.wide) (h : Calls P f args w R) : CallsIn F n P f args w R := by
 rw [hF]; exact callsIn_wide.2 h
def checkN (T : Tree) : Int := if (T.pre 1).all (fun x => shapedB x.2) = true then (if heavy 0 (T.pre 1) = true then 3 else 0) else 110
theorem weigh_calls (v : Value) (T : Tree) (w : World) (hv : Lies w.heap.size w v T) (hh : T.height < 100000000) (hb : bytesOf (T.pre 1) < 4611686018427387904) :
  Calls Tryz.prog 64 #[v] w fun e w' => Below w.heap.size w w' ∧ ((heavy 0 (T.pre 1) = false ∧ ∃ x, e = .returned x) ∨ (heavy 0 (T.pre 1) = true ∧ e = .panicked [{ v := .iface 35 (.int .i64 3), recovered := false }])) := by
 refine CallsIn.calls (F := Fence.list [64, 59, 87, 88] none) (n := 0) ?_ ?_
 ·refine weigh_any rfl rfl (by simp [Fence.list]) (by simp [Fence.list]) (by simp [Fence.list]) (by simp [Fence.list]) ?_ 0 v T w hv hh hb
  intro f hf
  simp only [Fence.list, List.mem_cons, List.not_mem_nil, or_false] at hf
  rcases hf with rfl | rfl | rfl | rfl
  ·exact ⟨_, Tryz.func64⟩
  ·exact ⟨_, Tryz.func59⟩
  ·exact ⟨_, Tryz.func87⟩
  ·exact ⟨_, Tryz.func88⟩
 ·exact room_of_none rfl
set_option maxRecDepth 100000 in
set_option maxHeartbeats 1000000 in
theorem check_any (v : Value) (T : Tree) (w : World) (hv : Lies w.heap.size w v T) (hT : Tabs w) (hh : T.height < 100000000) (hb : bytesOf (T.pre 1) < 4611686018427387904) :
  Calls Tryz.prog 23 #[v] w fun e w' => e = .returned (.int .i64 (checkN T)) ∧ Below w.heap.size w w' := by
 refine (callsIn_wide (n := 0)).1 ?_
 obtain ⟨F, hF⟩ : ∃ F, F = Fence.wide := ⟨_, rfl⟩
 rw [← hF]
 have hd : F.depth = none := by rw [hF]; rfl
 have hro : F.round = none := by rw [hF]; rfl
 have hfn : ∀ f, F.fn f := by rw [hF]; exact fun _ => trivial
 have HF : Hid (F = Fence.wide) := hF
 clear hF
 obtain ⟨k, b, n, s, ks, ts⟩ := T
 have hv0 := hv
 simp only [Lies] at hv
 obtain ⟨ka, kc, la, lc, rfl, ⟨hs1, hs2, hs3, hs4, hs5⟩, hk, ht⟩ := hv
 refine callsIn_of_wp_marks Tryz.func23 rfl (hfn _) ?_ hro
 simp only [Tryz.ntmps23, List.size_toArray, List.length_cons, List.length_nil, Nat.reduceAdd, Nat.reduceSub, Array.replicate_succ, Array.replicate_zero, List.push_toArray, List.append_toArray, List.nil_append, List.cons_append]
 gi_wp2_with (gi_at_call 59; refine (within_any (hfn _) hro _ _ _ _ _ _ _ _ _ _ _ _).mono ?_; rintro e w' ⟨rfl, rfl⟩)
 refine range_wp hro hd (gf := 87) (lb := #[.pointer (some ⟨w.heap.size + 1 + 1, 0, none⟩)]) rfl (hfn _) (enters_of Tryz.func87 (by kernel_rfl) rfl) ?_
 intro fn hfn0
 generalize hrec : Loop.mk _ _ _ _ _ _ _ _ = rec
 simp only [World.size_alloc]
 generalize hW0 : World.alloc _ (Obj.loop rec) = W0
 have hsz : W0.heap.size = w.heap.size + 5 := by rw [← hW0]; simp
 have b0 : W0.heap[w.heap.size]? = some (.cells #[.int .i64 k, .bool b, .int .i64 n, .string s, .slice ka ks.length kc, .slice la ts.length lc] 26 (0, 0)) := by rw [← hW0]; simp only [heap_alloc_at, World.size_alloc]; repeat (first | rw [if_pos trivial] | rw [if_pos (by omega)] | rw [if_neg (by omega)])
 have b1 : W0.heap[w.heap.size + 1]? = some (.cells #[.int .i64 0] 35 (0, 0)) := by rw [← hW0]; simp only [heap_alloc_at, World.size_alloc]; repeat (first | rw [if_pos trivial] | rw [if_pos (by omega)] | rw [if_neg (by omega)])
 have b2 : W0.heap[w.heap.size + 2]? = some (.cells #[.int .i64 k, .bool b, .int .i64 n, .string s, .slice ka ks.length kc, .slice la ts.length lc] 26 (0, 0)) := by rw [← hW0]; simp only [heap_alloc_at, World.size_alloc]; repeat (first | rw [if_pos trivial] | rw [if_pos (by omega)] | rw [if_neg (by omega)])
 have b3 : W0.heap[w.heap.size + 3]? = some (.deferred (some [])) := by rw [← hW0]; simp only [heap_alloc_at, World.size_alloc]; repeat (first | rw [if_pos trivial] | rw [if_pos (by omega)] | rw [if_neg (by omega)])
 have b4 : W0.heap[w.heap.size + 4]? = some (.loop rec) := by rw [← hW0]; simp only [heap_alloc_at, World.size_alloc]; repeat (first | rw [if_pos trivial] | rw [if_pos (by omega)] | rw [if_neg (by omega)])
 have hbl : Below w.heap.size w W0 := by
  rw [← hW0]; exact (((((Below.refl _ w).alloc (Nat.le_refl _) _).alloc (by simp) _).alloc (by simp; omega) _).alloc (by simp; omega) _).alloc (by simp; omega) _
 clear hW0
 have R : Rounds F (w.heap.size + 4) w.heap.size (w.heap.size + 5) w ((Tree.mk k b n s ks ts).pre 1)
   (fun pre W => W.heap[w.heap.size + 4]? = some (.loop rec) ∧ W.heap[w.heap.size + 3]? = some (.deferred (some [])) ∧ W.heap[w.heap.size + 1]? = some (.cells #[.int .i64 0] 35 (0, 0)) ∧
    W.heap[w.heap.size]? = some (.cells #[.int .i64 k, .bool b, .int .i64 n, .string s, .slice ka ks.length kc, .slice la ts.length lc] 26 (0, 0)) ∧
    Below w.heap.size w W ∧ w.heap.size + 5 ≤ W.heap.size ∧ pre.all (fun x => shapedB x.2) = true)
   (fun W => W.heap[w.heap.size + 4]? = some (.loop (asDone rec .ret)) ∧ W.heap[w.heap.size + 3]? = some (.deferred (some [])) ∧ W.heap[w.heap.size + 1]? = some (.cells #[.int .i64 110] 35 (0, 0)) ∧
    Below w.heap.size w W ∧ w.heap.size + 5 ≤ W.heap.size ∧ ((Tree.mk k b n s ks ts).pre 1).all (fun x => shapedB x.2) = false)
   (fun _ _ => False) := by
  refine ⟨?_, ?_, ?_⟩
  ·rintro pre W ⟨_, _, _, _, h4, h5, _⟩
   exact ⟨h4, by omega, h5⟩
  ·rintro pre W W' ⟨h1, h2, h3, h3', h4, h5, h6⟩ hb
   exact ⟨(hb.block _ (by omega)).trans h1, (hb.block _ (by omega)).trans h2, (hb.block _ (by omega)).trans h3, (hb.block _ (by omega)).trans h3', h4.trans (hb.mono (by omega)), by have := hb.size; omega, h6⟩
  ·rintro m' pre d ⟨k', b', n', s', ks', us⟩ v W ⟨h1, h2, h3, h3', h4, h5, h6⟩ hlv hpre
   have hlv0 := hlv
   simp only [Lies] at hlv
   obtain ⟨ka', kc', la', lc', rfl, ⟨g1, g2, g3, g4, g5⟩, hk', ht'⟩ := hlv
   have ea := congrArg Loop.assign hrec
   have eb := congrArg Loop.body hrec
   have et := congrArg Loop.tmps hrec
   have ep := congrArg Loop.params hrec
   have es := congrArg Loop.state hrec
   have ef := congrArg Loop.fn hrec
   have hr0 : asReady rec = rec := by rw [← hrec]; rfl
   dsimp only at ea eb et ep es ef
   clear hrec
   refine yield_round (hfn _) ea eb et ep h1 es.symm (by rw [← ep]; rfl) ?_
   clear ea eb et ep es
   gi_wp2_with fail
   refine ⟨(Below.heap_alloc _ _ _ (by omega)).trans h1, ?_⟩
   generalize hW2 : World.putObj _ _ _ = W2
   have a1 : W2.heap[w.heap.size + 4]? = some (.loop (asBusy rec)) := by rw [← hW2]; refine World.putObj_heap_same ?_; simp; omega
   have a2 : Boxed W2 (w.heap.size + 1) 35 (.int .i64 0) := by rw [← hW2]; show _ = _; rw [World.putObj_heap_other (by omega), Below.heap_alloc _ _ _ (by omega)]; exact h3
   have a0 : W2.heap[w.heap.size]? = some (.cells #[.int .i64 k, .bool b, .int .i64 n, .string s, .slice ka ks.length kc, .slice la ts.length lc] 26 (0, 0)) := by rw [← hW2, World.putObj_heap_other (by omega), Below.heap_alloc _ _ _ (by omega)]; exact h3'
   have a3 : W2.heap[w.heap.size + 3]? = some (.deferred (some [])) := by rw [← hW2, World.putObj_heap_other (by omega), Below.heap_alloc _ _ _ (by omega)]; exact h2
   have a4 : W2.heap[W.heap.size]? = some (.cells #[.int .i64 k', .bool b', .int .i64 n', .string s', .slice ka' ks'.length kc', .slice la' us.length lc'] 26 (0, 0)) := by
    rw [← hW2]; exact (World.putObj_heap_other (by omega)).trans (World.alloc_heap_new _ _)
   have a5 : Below w.heap.size w W2 := by rw [← hW2]; exact (But.putObj _ _).below ((h4.alloc (by omega) _)) (by omega)
   have a6 : W2.heap.size = W.heap.size + 1 := by rw [← hW2]; simp
   have a7 : Above (w.heap.size + 5) W W2 := ⟨by omega, fun i hi hl => by rw [← hW2]; exact (World.putObj_heap_other (by omega)).trans (Below.heap_alloc _ _ _ hl)⟩
   clear hW2 h1 h2 h3 h3'
   have x0 : W2.cell? ⟨W.heap.size, 0, none⟩ = some (.int .i64 k') := by unfold World.cell?; simp only [a4]; rfl
   have x1 : W2.cell? ⟨W.heap.size, 1, none⟩ = some (.bool b') := by unfold World.cell?; simp only [a4]; rfl
   have x2 : W2.cell? ⟨W.heap.size, 2, none⟩ = some (.int .i64 n') := by unfold World.cell?; simp only [a4]; rfl
   have x3 : W2.cell? ⟨W.heap.size, 3, none⟩ = some (.string s') := by unfold World.cell?; simp only [a4]; rfl
   have x4 : W2.cell? ⟨W.heap.size, 4, none⟩ = some (.slice ka' ks'.length kc') := by unfold World.cell?; simp only [a4]; rfl
   have x5 : W2.cell? ⟨W.heap.size, 5, none⟩ = some (.slice la' us.length lc') := by unfold World.cell?; simp only [a4]; rfl
   have hsp := shaped_any w.heap.size _ _ W2 (by have := a5.size; omega) (hlv0.below a5) (hT.below a5)
   gi_wp2_with fail
   refine (CallsIn.inRound _ (in_wide HF.out hsp)).mono ?_
   rintro e W3 ⟨rfl, hb3⟩
   have c1 : W3.heap[w.heap.size + 4]? = some (.loop (asBusy rec)) := (hb3.block _ (by omega)).trans a1
   have c2 : Boxed W3 (w.heap.size + 1) 35 (.int .i64 0) := (hb3.block _ (by omega)).trans a2
   have c3 : W3.heap[w.heap.size + 3]? = some (.deferred (some [])) := (hb3.block _ (by omega)).trans a3
   have c0 : W3.heap[w.heap.size]? = some (.cells #[.int .i64 k, .bool b, .int .i64 n, .string s, .slice ka ks.length kc, .slice la ts.length lc] 26 (0, 0)) := (hb3.block _ (by omega)).trans a0
   have c5 : Below w.heap.size w W3 := a5.trans (hb3.mono (by omega))
   have c7 : Above (w.heap.size + 5) W W3 := a7.trans (Above.of_below hb3 (Nat.le_refl _))
   have hz3 := hb3.size
   have cb := c2.cell
   have fb := c2.frozen
   clear hsp hb3 a0 a1 a2 a3 a4 a5 a7 x0 x1 x2 x3 x4 x5
   cases hsh : shapedB (.mk k' b' n' s' ks' us) with
   | true =>
    have HJ : Hid ((pre ++ [(d, Tree.mk k' b' n' s' ks' us)]).all (fun x => shapedB x.2) = true) := by show _ = _; rw [List.all_append, h6]; simp [hsh]
    clear hsh h6
    gi_wp2_with fail
    refine ⟨c1, .inl ⟨rfl, ⟨?_, ?_, ?_, ?_, ?_, ?_, HJ.out⟩, ?_⟩⟩
    ·rw [hr0]; exact World.putObj_heap_same (by omega)
    ·rw [World.putObj_heap_other (by omega)]; exact c3
    ·rw [World.putObj_heap_other (by omega)]; exact c2
    ·rw [World.putObj_heap_other (by omega)]; exact c0
    ·exact (But.putObj _ _).below c5 (by omega)
    ·rw [World.putObj_size]; omega
    ·refine c7.trans ⟨by rw [World.putObj_size]; omega, fun i hi hl => ?_⟩
     rw [World.putObj_heap_other (by omega)]
   | false =>
    have HJ : Hid (((Tree.mk k b n s ks ts).pre 1).all (fun x => shapedB x.2) = false) := by
     obtain ⟨r, hr⟩ := hpre
     show _ = _
     rw [← hr, List.all_append, List.all_append]; simp [hsh]
    clear hsh h6
    gi_wp2_with fail
    have e4 : (W3.setCell ⟨w.heap.size + 1, 0, none⟩ (.int .i64 110)).heap[w.heap.size + 4]? = some (.loop (asBusy rec)) := (Below.heap_setCell _ _ _ _ (by show w.heap.size + 4 ≠ w.heap.size + 1; omega)).trans c1
    have hsz4 : (W3.setCell ⟨w.heap.size + 1, 0, none⟩ (.int .i64 110)).heap.size = W3.heap.size := by simp [World.setCell]
    refine ⟨e4, .inr (.inl ⟨rfl, ?_, ?_, ?_, ?_, ?_, HJ.out⟩)⟩
    ·exact World.putObj_heap_same (by omega)
    ·rw [World.putObj_heap_other (by omega)]; exact (Below.heap_setCell _ _ _ _ (by show w.heap.size + 3 ≠ w.heap.size + 1; omega)).trans c3
    ·rw [World.putObj_heap_other (by omega)]; exact c2.set _
    ·exact (But.putObj _ _).below (c5.setCell (p := ⟨w.heap.size + 1, 0, none⟩) (by show _ ≤ w.heap.size + 1; omega) _) (by omega)
    ·rw [World.putObj_size]; omega
 have hco : ∀ (i : Nat) (v : Value), (#[Value.int .i64 k, .bool b, .int .i64 n, .string s, .slice ka ks.length kc, .slice la ts.length lc] : Array Value)[i]? = some v → ∀ (W : World) (bx : Nat), W.heap[bx]? = some (.cells #[.int .i64 k, .bool b, .int .i64 n, .string s, .slice ka ks.length kc, .slice la ts.length lc] 26 (0, 0)) → W.cell? ⟨bx, i, none⟩ = some v := by
  intro i v hi W bx hbx; unfold World.cell?; simp only [hbx]; simpa using hi
 refine (within1_any hd (hfn _) (hfn _) hro R _ (w.heap.size + 1 + 1) W0 hv0 ⟨b4, b3, b1, b0, hbl, by omega, rfl⟩ (by simp only [Tree.height] at hh; omega)
  (hco 0 _ rfl _ _ b2) (hco 1 _ rfl _ _ b2) (hco 2 _ rfl _ _ b2) (hco 3 _ rfl _ _ b2) (hco 4 _ rfl _ _ b2) (hco 5 _ rfl _ _ b2)).mono ?_
 rintro e W' (⟨⟨x, rfl⟩, ⟨h1, h2, h3, h3', h4, h5, h6⟩ | ⟨h1, h2, h3, h4, h5, h6⟩⟩ | ⟨ch, _, hx⟩)
 ·have hp : rec.pending = none := by rw [← hrec]
  have hst : rec.state ≠ .busy := by rw [← hrec]; simp
  clear hrec R b0 b1 b2 b3 b4 hbl hsz
  refine ⟨rec, h1, hst, ?_⟩
  simp only [hp]
  generalize hW4 : World.putObj _ _ _ = W4
  have d1 : Boxed W4 (w.heap.size + 1) 35 (.int .i64 0) := by rw [← hW4]; show _ = _; rw [World.putObj_heap_other (by omega)]; exact h3
  have d0 : W4.heap[w.heap.size]? = some (.cells #[.int .i64 k, .bool b, .int .i64 n, .string s, .slice ka ks.length kc, .slice la ts.length lc] 26 (0, 0)) := by rw [← hW4, World.putObj_heap_other (by omega)]; exact h3'
  have d3 : W4.heap[w.heap.size + 3]? = some (.deferred (some [])) := by rw [← hW4, World.putObj_heap_other (by omega)]; exact h2
  have d4 : Below w.heap.size w W4 := by rw [← hW4]; exact (But.putObj _ _).below h4 (by omega)
  have d5 : w.heap.size + 5 ≤ W4.heap.size := by rw [← hW4, World.putObj_size]; exact h5
  clear hW4 h1 h2 h3 h3' h4 h5 hst hp
  have x0 := hco 0 _ rfl _ _ d0
  have x1 := hco 1 _ rfl _ _ d0
  have x2 := hco 2 _ rfl _ _ d0
  have x3 := hco 3 _ rfl _ _ d0
  have x4 := hco 4 _ rfl _ _ d0
  have x5 := hco 5 _ rfl _ _ d0
  clear hco
  have hwe := weigh_calls _ _ W4 ((hv0.below d4).mono (by omega)) hh hb
  gi_wp2_with fail
  refine (in_wide HF.out hwe).mono ?_
  clear hwe x0 x1 x2 x3 x4 x5 d0
  rintro e W5 ⟨hb5, ⟨hh0, x, rfl⟩ | ⟨hh1, rfl⟩⟩
  ·have f1 : Boxed W5 (w.heap.size + 1) 35 (.int .i64 0) := (hb5.block _ (by omega)).trans d1
   have f3 : W5.heap[w.heap.size + 3]? = some (.deferred (some [])) := (hb5.block _ (by omega)).trans d3
   have f4 : Below w.heap.size w W5 := d4.trans (hb5.mono (by omega))
   have f5 := hb5.size
   have cb := f1.cell
   have fb := f1.frozen
   have HN : Hid (checkN (.mk k b n s ks ts) = 0) := by show _ = _; unfold checkN; rw [if_pos h6, if_neg (by rw [hh0]; simp)]
   clear d1 d3 d4 hb5 hh0 h6
   gi_wp2_with fail
   have hq3 : (W5.setCell ⟨w.heap.size + 1, 0, none⟩ (.int .i64 0)).heap[w.heap.size + 3]? = some (.deferred (some [])) := (Below.heap_setCell _ _ _ _ (by show w.heap.size + 3 ≠ w.heap.size + 1; omega)).trans f3
   have hq4 : Below w.heap.size w (W5.setCell ⟨w.heap.size + 1, 0, none⟩ (.int .i64 0)) := f4.setCell (p := ⟨w.heap.size + 1, 0, none⟩) (by show _ ≤ w.heap.size + 1; omega) _
   have hq1 : Boxed (W5.setCell ⟨w.heap.size + 1, 0, none⟩ (.int .i64 0)) (w.heap.size + 1) 35 (.int .i64 0) := f1.set _
   show LeavesInM _ _ _ _ _ _ [_, _] _ _
   refine ⟨by simp, .inr ⟨depth_none hd _, _, _, 63, #[.pointer (some ⟨w.heap.size + 1, 0, none⟩)], rfl, by simp [invoke, go_sem], fun g _ => hfn g, ?_⟩⟩
   rw [HF.out]
   refine (catch_idle _ _ _).mono ?_
   rintro e u' w'' ⟨rfl, rfl, rfl⟩
   show LeavesInM _ _ _ _ _ _ [_] .returning _
   refine ⟨by simp, .inl ⟨_, _, rfl, run_takeDeferred hq3, ?_⟩⟩
   have hq5 : Boxed ((W5.setCell ⟨w.heap.size + 1, 0, none⟩ (.int .i64 0)).putObj (w.heap.size + 3) (.deferred none)) (w.heap.size + 1) 35 (.int .i64 0) := (World.putObj_heap_other (by omega)).trans hq1
   refine ⟨.int .i64 0, ?_, by rw [HN.out], (But.putObj _ _).below hq4 (by omega)⟩
   have hq6 := hq5.cell
   simp [results, Tryz.results23, go_sem, hq6]
  ·have f1 : Boxed W5 (w.heap.size + 1) 35 (.int .i64 0) := (hb5.block _ (by omega)).trans d1
   have f3 : W5.heap[w.heap.size + 3]? = some (.deferred (some [])) := (hb5.block _ (by omega)).trans d3
   have f4 : Below w.heap.size w W5 := d4.trans (hb5.mono (by omega))
   have f5 := hb5.size
   have HN : Hid (checkN (.mk k b n s ks ts) = 3) := by show _ = _; unfold checkN; rw [if_pos h6, if_pos hh1]
   have hq3 : (W5.setCell ⟨w.heap.size + 1, 0, none⟩ (.int .i64 3)).heap[w.heap.size + 3]? = some (.deferred (some [])) := (Below.heap_setCell _ _ _ _ (by show w.heap.size + 3 ≠ w.heap.size + 1; omega)).trans f3
   have hq4 : Below w.heap.size w (W5.setCell ⟨w.heap.size + 1, 0, none⟩ (.int .i64 3)) := f4.setCell (p := ⟨w.heap.size + 1, 0, none⟩) (by show _ ≤ w.heap.size + 1; omega) _
   have hq1 : Boxed (W5.setCell ⟨w.heap.size + 1, 0, none⟩ (.int .i64 3)) (w.heap.size + 1) 35 (.int .i64 3) := f1.set _
   show LeavesInM _ _ _ _ _ _ [_, _] _ _
   refine ⟨by simp, .inr ⟨depth_none hd _, _, _, 63, #[.pointer (some ⟨w.heap.size + 1, 0, none⟩)], rfl, by simp [invoke, go_sem], fun g _ => hfn g, ?_⟩⟩
   rw [HF.out]
   refine (catch_long _ _ 0 _ f1.cell f1.frozen).mono ?_
   rintro e u' w'' ⟨rfl, rfl, rfl⟩
   show LeavesInM _ _ _ _ _ _ [_] .returning _
   refine ⟨by simp, .inl ⟨_, _, rfl, run_takeDeferred hq3, ?_⟩⟩
   have hq5 : Boxed ((W5.setCell ⟨w.heap.size + 1, 0, none⟩ (.int .i64 3)).putObj (w.heap.size + 3) (.deferred none)) (w.heap.size + 1) 35 (.int .i64 3) := (World.putObj_heap_other (by omega)).trans hq1
   refine ⟨.int .i64 3, ?_, by rw [HN.out], (But.putObj _ _).below hq4 (by omega)⟩
   have hq6 := hq5.cell
   simp [results, Tryz.results23, go_sem, hq6]
 ·have HN : Hid (checkN (.mk k b n s ks ts) = 110) := by show _ = _; unfold checkN; rw [if_neg (by rw [h6]; simp)]
  refine ⟨asDone rec .ret, h1, by simp [asDone], ?_⟩
  simp only [asDone]
  clear hrec R b0 b1 b2 b3 b4 hbl hsz hco
  generalize hW4 : World.putObj _ _ _ = W4
  have d1 : Boxed W4 (w.heap.size + 1) 35 (.int .i64 110) := by rw [← hW4]; show _ = _; rw [World.putObj_heap_other (by omega)]; exact h3
  have d3 : W4.heap[w.heap.size + 3]? = some (.deferred (some [])) := by rw [← hW4, World.putObj_heap_other (by omega)]; exact h2
  have d4 : Below w.heap.size w W4 := by rw [← hW4]; exact (But.putObj _ _).below h4 (by omega)
  clear hW4 h1 h2 h3 h4 h6
  gi_wp2_with fail
  show LeavesInM _ _ _ _ _ _ [_] .returning _
  refine ⟨by simp, .inl ⟨_, _, rfl, run_takeDeferred d3, ?_⟩⟩
  have hq5 : Boxed (W4.putObj (w.heap.size + 3) (.deferred none)) (w.heap.size + 1) 35 (.int .i64 110) := (World.putObj_heap_other (by omega)).trans d1
  refine ⟨.int .i64 110, ?_, by rw [HN.out], (But.putObj _ _).below d4 (by omega)⟩
  have hq6 := hq5.cell
  simp [results, Tryz.results23, go_sem, hq6]
 ·exact hx.elim
end Go.Proofs.YtbpmhgcjefpigaaGreatDoor

namespace Go.Proofs.YtbpmhgcjefpigaaGreatDoor
open Go.RowKit Go.Shelf
set_option linter.unusedVariables false
def Modest (t : Tree) : Prop := t.height < 100000000 ∧ bytesOf (t.pre 1) < 4611686018427387904
set_option maxHeartbeats 1000000 in
theorem refused_any (ts : List Tree) (B : Nat) (la : Option Addr) (lc : Nat) (w : World) (hB : B ≤ w.heap.size) (hl : ListLies B w la ts) (h1 : ts.length ≤ lc) (h2 : lc ≤ maxLen) (hT : Tabs w) (hm : ∀ t ∈ ts, Modest t) :
  Calls Tryz.prog 70 #[.slice la ts.length lc] w fun e w' => e = .returned (.bool (ts.any fun t => checkN t != 0)) ∧ Below w.heap.size w w' := by
 unfold maxLen at h2
 have HM := hidE hm
 clear hm
 go_enter Tryz.func70, Tryz.ntmps70
 go_wp2_with fail
 go_loopw [7] (fun i wr => ∃ j : Nat, j ≤ ts.length ∧ i = .int .i64 j ∧ Below w.heap.size w wr ∧ (ts.take j).any (fun t => checkN t != 0) = false) (fun i _ => ts.length - (intOf i).toNat)
 case atStart => exact ⟨0, Nat.zero_le _, rfl, Below.refl _ _, rfl⟩
 case round =>
  obtain ⟨j, hj, rfl, hbr, hno⟩ := hrel
  have HNO := hidE hno
  clear hno
  by_cases hlt : j < ts.length
  ·obtain ⟨bl, off, rfl, hbl, hkl⟩ := hl.resolve_left (by intro e; subst e; simp at hlt)
   obtain ⟨⟨p0, p1, p2, p3, p4, p5⟩, hx⟩ : ∃ t, ts[j]? = some t := ⟨_, List.getElem?_eq_getElem hlt⟩
   obtain ⟨ja, jc, jl, jd, ⟨c0, c1, c2, c3, c4, c5⟩, hlx⟩ := (hkl.below (hbr.mono hB) hbl).cells hx
   have hmx := HM.out _ (List.mem_of_getElem? hx)
   have HX := hidE hx
   have hal : Below wr.heap.size wr (wr.alloc (.cells #[.int .i64 p0, .bool p1, .int .i64 p2, .string p3, .slice ja p4.length jc, .slice jl p5.length jd] 26)) := (Below.refl _ _).alloc (Nat.le_refl _) _
   have HC := hidE (check_any _ _ _ ((hlx.below (hal.mono (Nat.le_trans hB hbr.size))).mono (Nat.le_trans (Nat.le_trans hB hbr.size) hal.size)) ((hT.below hbr).below hal) hmx.1 hmx.2)
   clear hx hkl hlx hmx hal
   go_wp2_with fail
   refine HC.out.mono ?_
   rintro e w' ⟨rfl, hk2⟩
   have HB2 : Hid (Below w.heap.size w w') := below_on hbr (below_alloc hk2)
   generalize hcn : checkN (.mk p0 p1 p2 p3 p4 p5) = cn at *
   have HCN := hidE hcn
   clear hk2 HC hcn c0 c1 c2 c3 c4 c5
   by_cases z : cn = 0
   ·have z' : (cn != 0) = false := by simp [z]
    go_wp2_with fail
    go_roundw
    case rel =>
     refine ⟨j + 1, by omega, by go_num, HB2.out, ?_⟩
     rw [List.take_add_one, HX.out, List.any_append, HNO.out]
     simp [HCN.out, z]
    case measure => simp [intOf]; omega
   ·have z' : (cn != 0) = true := by simp [z]
    go_wp2_with fail
    go_ret
    refine ⟨?_, HB2.out⟩
    have : ts.any (fun t => checkN t != 0) = true := by
     rw [List.any_eq_true]
     exact ⟨_, List.mem_of_getElem? HX.out, by rw [HCN.out]; exact z'⟩
    rw [this]; rfl
  ·go_wp2_with fail
   go_ret
   refine ⟨?_, hbr⟩
   have := HNO.out
   rw [List.take_of_length_le (by omega)] at this
   rw [this]; rfl
def equalN (T T' : Tree) : Int := if checkN T = 0 ∧ checkN T' = 0 then eqT T T' else 1
theorem two_kids {W : World} {bl B : Nat} {k : Int} {x : Bool} {n : Int} {s : ByteArray} {ka : Option Addr} {kc : Nat} {la : Option Addr} {lc : Nat} {ks : List ByteArray} {ts : List Tree}
  {k' : Int} {x' : Bool} {n' : Int} {s' : ByteArray} {ka' : Option Addr} {kc' : Nat} {la' : Option Addr} {lc' : Nat} {ks' : List ByteArray} {ts' : List Tree}
  (hc : W.heap[bl]? = some (.cells #[.int .i64 k, .bool x, .int .i64 n, .string s, .slice ka ks.length kc, .slice la ts.length lc, .int .i64 k', .bool x', .int .i64 n', .string s', .slice ka' ks'.length kc', .slice la' ts'.length lc'] 26 (0, 0)))
  (h1 : Lies B W (.agg #[.int .i64 k, .bool x, .int .i64 n, .string s, .slice ka ks.length kc, .slice la ts.length lc]) (.mk k x n s ks ts))
  (h2 : Lies B W (.agg #[.int .i64 k', .bool x', .int .i64 n', .string s', .slice ka' ks'.length kc', .slice la' ts'.length lc']) (.mk k' x' n' s' ks' ts')) :
  KidsLie B W bl 0 [.mk k x n s ks ts, .mk k' x' n' s' ks' ts'] := by
 have hcell : ∀ i v, (#[Value.int .i64 k, .bool x, .int .i64 n, .string s, .slice ka ks.length kc, .slice la ts.length lc, .int .i64 k', .bool x', .int .i64 n', .string s', .slice ka' ks'.length kc', .slice la' ts'.length lc'] : Array Value)[i]? = some v → W.cell? ⟨bl, i, none⟩ = some v := by
  intro i v hi; unfold World.cell?; simp only [hc]; simpa using hi
 simp only [KidsLie]
 refine ⟨⟨_, _, _, _, _, _, ⟨hcell 0 _ rfl, hcell 1 _ rfl, hcell 2 _ rfl, hcell 3 _ rfl, hcell 4 _ rfl, hcell 5 _ rfl⟩, h1⟩, ⟨_, _, _, _, _, _, ⟨hcell 6 _ rfl, hcell 7 _ rfl, hcell 8 _ rfl, hcell 9 _ rfl, hcell 10 _ rfl, hcell 11 _ rfl⟩, h2⟩, trivial⟩
set_option maxHeartbeats 1000000 in
theorem Equal_any (T T' : Tree) (B : Nat) (v v' : Value) (w : World) (hB : B ≤ w.heap.size) (hv : Lies B w v T) (hv' : Lies B w v' T') (hT : Tabs w) (hm : Modest T) (hm' : Modest T') :
  Calls Tryz.prog 37 #[v, v'] w fun e w' => e = .returned (.int .i64 (equalN T T')) ∧ Below w.heap.size w w' := by
 obtain ⟨k, x, n, s, ks, ts⟩ := T
 obtain ⟨k', x', n', s', ks', ts'⟩ := T'
 have HV := hidE hv
 have HV' := hidE hv'
 simp only [Lies] at hv hv'
 obtain ⟨ka, kc, la, lc, rfl, _, _, _⟩ := hv
 obtain ⟨ka', kc', la', lc', rfl, _, _, _⟩ := hv'
 obtain ⟨W3, hW3⟩ : ∃ W3, ((w.alloc (.cells #[.int .i64 k, .bool x, .int .i64 n, .string s, .slice ka ks.length kc, .slice la ts.length lc] 26)).alloc (.cells #[.int .i64 k', .bool x', .int .i64 n', .string s', .slice ka' ks'.length kc', .slice la' ts'.length lc'] 26)).alloc (.cells #[.int .i64 k, .bool x, .int .i64 n, .string s, .slice ka ks.length kc, .slice la ts.length lc, .int .i64 k', .bool x', .int .i64 n', .string s', .slice ka' ks'.length kc', .slice la' ts'.length lc'] 26) = W3 := ⟨_, rfl⟩
 have hbx : ∀ W, Below W3.heap.size W3 W → Below w.heap.size w W ∧ (∀ i v, (#[Value.int .i64 k, .bool x, .int .i64 n, .string s, .slice ka ks.length kc, .slice la ts.length lc] : Array Value)[i]? = some v → W.cell? ⟨w.heap.size, i, none⟩ = some v) ∧
   (∀ i v, (#[Value.int .i64 k', .bool x', .int .i64 n', .string s', .slice ka' ks'.length kc', .slice la' ts'.length lc'] : Array Value)[i]? = some v → W.cell? ⟨w.heap.size + 1, i, none⟩ = some v) := fun W hb => by
  rw [← hW3] at hb
  exact two_boxes (((Below.refl _ _).alloc (Nat.le_refl _) _).trans (hb.mono (by simp)))
 have hc3 : W3.heap[w.heap.size + 1 + 1]? = some (.cells #[.int .i64 k, .bool x, .int .i64 n, .string s, .slice ka ks.length kc, .slice la ts.length lc, .int .i64 k', .bool x', .int .i64 n', .string s', .slice ka' ks'.length kc', .slice la' ts'.length lc'] 26 (0, 0)) := by
  rw [← hW3]
  have := World.alloc_heap_new ((w.alloc (.cells #[.int .i64 k, .bool x, .int .i64 n, .string s, .slice ka ks.length kc, .slice la ts.length lc] 26)).alloc (.cells #[.int .i64 k', .bool x', .int .i64 n', .string s', .slice ka' ks'.length kc', .slice la' ts'.length lc'] 26)) (.cells #[.int .i64 k, .bool x, .int .i64 n, .string s, .slice ka ks.length kc, .slice la ts.length lc, .int .i64 k', .bool x', .int .i64 n', .string s', .slice ka' ks'.length kc', .slice la' ts'.length lc'] 26)
  simpa only [World.size_alloc] using this
 have hlt3 : w.heap.size + 1 + 1 < W3.heap.size := by rw [← hW3]; simp
 have hb3 : Below w.heap.size w W3 := (hbx W3 (Below.refl _ _)).1
 have HV3 := hidE ((HV.out.below (hb3.mono hB)).mono (Nat.le_trans hB hb3.size))
 have HV3' := hidE ((HV'.out.below (hb3.mono hB)).mono (Nat.le_trans hB hb3.size))
 have HC := hidE (refused_any [.mk k x n s ks ts, .mk k' x' n' s' ks' ts'] W3.heap.size (some ⟨w.heap.size + 1 + 1, 0, none⟩) 2 W3 (Nat.le_refl _) (.inr ⟨_, _, rfl, hlt3, two_kids hc3 HV3.out HV3'.out⟩) (Nat.le_refl _) (by unfold maxLen; omega) (hT.below hb3)
  (by intro t ht; simp only [List.mem_cons, List.not_mem_nil, or_false] at ht; rcases ht with rfl | rfl; exact hm; exact hm'))
 have HBX := hidE hbx
 have HW3 := hidE hW3
 clear hbx hW3 hc3 hm hm'
 go_enter Tryz.func37, Tryz.ntmps37
 go_wp2_with fail
 rw [HW3.out]
 refine HC.out.mono ?_
 rintro e w4 ⟨rfl, hb4⟩
 obtain ⟨hbw, hq, hr⟩ := HBX.out w4 hb4
 have q0 := hq 0 _ rfl
 have q1 := hq 1 _ rfl
 have q2 := hq 2 _ rfl
 have q3 := hq 3 _ rfl
 have q4 := hq 4 _ rfl
 have q5 := hq 5 _ rfl
 have r0 := hr 0 _ rfl
 have r1 := hr 1 _ rfl
 have r2 := hr 2 _ rfl
 have r3 := hr 3 _ rfl
 have r4 := hr 4 _ rfl
 have r5 := hr 5 _ rfl
 have HQ := hidE (equal_any _ W3.heap.size _ _ _ w4 hb4.size (HV3.out.below hb4) (HV3'.out.below hb4))
 have hsz := hb4.size
 clear hq hr HBX HC HW3 hb4
 cases hany : [Tree.mk k x n s ks ts, .mk k' x' n' s' ks' ts'].any (fun t => checkN t != 0) with
 | true =>
  have HN : Hid (equalN (.mk k x n s ks ts) (.mk k' x' n' s' ks' ts') = 1) := by
   show _ = _
   unfold equalN
   rw [if_neg]
   rintro ⟨h1, h2⟩
   simp [h1, h2] at hany
  clear hany
  go_wp2_with fail
  go_ret
  exact ⟨by rw [HN.out]; rfl, hbw⟩
 | false =>
  have HN : Hid (equalN (.mk k x n s ks ts) (.mk k' x' n' s' ks' ts') = eqT (.mk k x n s ks ts) (.mk k' x' n' s' ks' ts')) := by
   show _ = _
   unfold equalN
   simp at hany
   rw [if_pos hany]
  clear hany
  go_wp2_with fail
  refine HQ.out.mono ?_
  rintro e w5 ⟨rfl, hb5⟩
  have hfin := below_on hbw hb5
  clear hb5 q0 q1 q2 q3 q4 q5 r0 r1 r2 r3 r4 r5
  go_wp2_with fail
  go_ret
  exact ⟨by rw [HN.out]; rfl, hfin⟩
end Go.Proofs.YtbpmhgcjefpigaaGreatDoor

namespace Go.Proofs.YtbpmhgcjefpigaaGreatDoor
open Go.RowKit Go.Shelf
set_option linter.unusedVariables false
mutual
def Sane : Tree → Prop
 | .mk k b n s ks ts => s.size ≤ 140737488355328 ∧ ks.length ≤ 140737488355328 ∧ ts.length ≤ 140737488355328 ∧ (∀ x ∈ ks, x.size ≤ 140737488355328) ∧ SaneL ts
def SaneL : List Tree → Prop
 | [] => True
 | t :: ts => Sane t ∧ SaneL ts
end
theorem SaneL.mem : ∀ {ts : List Tree} {t : Tree}, SaneL ts → t ∈ ts → Sane t
 | u :: us, t, h, hm => by
  simp only [SaneL] at h
  rcases List.mem_cons.1 hm with rfl | hm
  ·exact h.1
  ·exact SaneL.mem h.2 hm
def keysTo (left : Int) : Int → List ByteArray → Int
 | n, [] => n
 | n, k :: r => if n ≤ left then keysTo left (n + k.size) r else n
mutual
def smallN : Tree → Int → Int
 | .mk k b n s ks ts, left => kidsTo left (keysTo left (1 + s.size + ks.length) ks) ts
def kidsTo (left : Int) : Int → List Tree → Int
 | n, [] => n
 | n, t :: r => if n ≤ left then kidsTo left (n + smallN t (left - n)) r else n
end
mutual
def Tree.total : Tree → Int
 | .mk k b n s ks ts => 1 + s.size + ks.length + keyBytes ks + Tree.totalL ts
def Tree.totalL : List Tree → Int
 | [] => 0
 | t :: ts => t.total + Tree.totalL ts
end
theorem keysTo_ge (left : Int) : ∀ (ks : List ByteArray) (n : Int), n ≤ keysTo left n ks
 | [], n => by simp [keysTo]
 | k :: r, n => by
  simp only [keysTo]
  split
  ·have := keysTo_ge left r (n + k.size); omega
  ·omega
theorem keysTo_eq (left : Int) : ∀ (ks : List ByteArray) (n : Int), keysTo left n ks ≤ left → keysTo left n ks = n + keyBytes ks
 | [], n, _ => by simp [keysTo, keyBytes]
 | k :: r, n, h => by
  simp only [keysTo] at h ⊢
  split at h
  ·rename_i hn
   rw [if_pos hn, keysTo_eq left r _ h]
   simp [keyBytes]; omega
  ·omega
theorem keysTo_le (left : Int) : ∀ (ks : List ByteArray) (n b : Int), (∀ x ∈ ks, (x.size : Int) ≤ 140737488355328) → n ≤ b → left + 140737488355328 ≤ b → keysTo left n ks ≤ b
 | [], n, b, _, h, _ => by simpa [keysTo] using h
 | k :: r, n, b, hk, h, hb => by
  simp only [keysTo]
  split
  ·have := hk k (by simp)
   exact keysTo_le left r _ b (fun x hx => hk x (by simp [hx])) (by omega) hb
  ·exact h
theorem keyBytes_cons (k : ByteArray) (r : List ByteArray) : keyBytes (k :: r) = k.size + keyBytes r := by simp [keyBytes]
mutual
theorem smallN_pos : ∀ (T : Tree) (left : Int), 1 ≤ smallN T left
 | .mk k b n s ks ts, left => by
  simp only [smallN]
  have h1 := keysTo_ge left ks (1 + s.size + ks.length)
  have h2 := kidsTo_ge left ts (keysTo left (1 + s.size + ks.length) ks)
  omega
theorem kidsTo_ge (left : Int) : ∀ (ts : List Tree) (n : Int), n ≤ kidsTo left n ts
 | [], n => by simp [kidsTo]
 | t :: r, n => by
  simp only [kidsTo]
  split
  ·have h1 := smallN_pos t (left - n)
   have h2 := kidsTo_ge left r (n + smallN t (left - n))
   omega
  ·omega
end
mutual
theorem smallN_eq : ∀ (T : Tree) (left : Int), smallN T left ≤ left → smallN T left = T.total
 | .mk k b n s ks ts, left, h => by
  simp only [smallN, Tree.total] at h ⊢
  have h2 := kidsTo_ge left ts (keysTo left (1 + s.size + ks.length) ks)
  rw [kidsTo_eq left ts _ h, keysTo_eq left ks _ (by omega)]
theorem kidsTo_eq (left : Int) : ∀ (ts : List Tree) (n : Int), kidsTo left n ts ≤ left → kidsTo left n ts = n + Tree.totalL ts
 | [], n, _ => by simp [kidsTo, Tree.totalL]
 | t :: r, n, h => by
  simp only [kidsTo] at h ⊢
  split at h
  ·rename_i hn
   have h2 := kidsTo_ge left r (n + smallN t (left - n))
   rw [if_pos hn, kidsTo_eq left r _ h, smallN_eq t (left - n) (by omega)]
   simp only [Tree.totalL]; omega
  ·omega
end
mutual
theorem smallN_le : ∀ (T : Tree) (left : Int), Sane T → 0 ≤ left → smallN T left ≤ 281474976710657 + left
 | .mk k b n s ks ts, left, hs, h0 => by
  simp only [Sane] at hs
  obtain ⟨s1, s2, s3, s4, s5⟩ := hs
  simp only [smallN]
  exact kidsTo_le left h0 ts _ s5 (keysTo_le left ks _ (281474976710657 + left) (fun x hx => by have := s4 x hx; omega) (by omega) (by omega))
theorem kidsTo_le (left : Int) (h0 : 0 ≤ left) : ∀ (ts : List Tree) (n : Int), SaneL ts → n ≤ 281474976710657 + left → kidsTo left n ts ≤ 281474976710657 + left
 | [], n, _, h => by simpa only [kidsTo] using h
 | t :: r, n, hs, h => by
  simp only [SaneL] at hs
  simp only [kidsTo]
  split
  ·have := smallN_le t (left - n) hs.1 (by omega)
   exact kidsTo_le left h0 r _ hs.2 (by omega)
  ·exact h
end
theorem sane_take : ∀ {ts : List Tree}, SaneL ts → ∀ p, SaneL (ts.take p)
 | _, _, 0 => by simp [SaneL]
 | [], _, p + 1 => by simp [SaneL]
 | t :: ts, h, p + 1 => by
  simp only [SaneL, List.take_succ_cons] at h ⊢
  exact ⟨h.1, sane_take h.2 p⟩
theorem keysTo_snoc (left : Int) : ∀ (a : List ByteArray) (n : Int) (x : ByteArray), keysTo left n (a ++ [x]) = if keysTo left n a ≤ left then keysTo left n a + x.size else keysTo left n a
 | [], n, x => by simp only [List.nil_append, keysTo]; rfl
 | k :: r, n, x => by
  simp only [List.cons_append, keysTo]
  split
  ·exact keysTo_snoc left r _ x
  ·rfl
theorem kidsTo_snoc (left : Int) : ∀ (a : List Tree) (n : Int) (x : Tree), kidsTo left n (a ++ [x]) = if kidsTo left n a ≤ left then kidsTo left n a + smallN x (left - kidsTo left n a) else kidsTo left n a
 | [], n, x => by simp only [List.nil_append, kidsTo]; rfl
 | k :: r, n, x => by
  simp only [List.cons_append, kidsTo]
  split
  ·exact kidsTo_snoc left r _ x
  ·rfl
theorem keysTo_stop (left : Int) {a : List ByteArray} {n : Int} {j : Nat} (h : ¬ keysTo left n (a.take j) ≤ left) : keysTo left n a = keysTo left n (a.take j) := by
 have : ∀ (b r : List ByteArray) (n : Int), ¬ keysTo left n b ≤ left → keysTo left n (b ++ r) = keysTo left n b := by
  intro b
  induction b with
  | nil => intro r n h; cases r with
   | nil => rfl
   | cons x r => simp only [keysTo] at h; simp [keysTo, h]
  | cons k b ih =>
   intro r n h
   simp only [List.cons_append, keysTo] at h ⊢
   split at h
   ·rename_i hn; rw [if_pos hn, if_pos hn]; exact ih r _ h
   ·rename_i hn; rw [if_neg hn, if_neg hn]
 have e := this (a.take j) (a.drop j) n h
 rwa [List.take_append_drop] at e
theorem kidsTo_stop (left : Int) {a : List Tree} {n : Int} {j : Nat} (h : ¬ kidsTo left n (a.take j) ≤ left) : kidsTo left n a = kidsTo left n (a.take j) := by
 have : ∀ (b r : List Tree) (n : Int), ¬ kidsTo left n b ≤ left → kidsTo left n (b ++ r) = kidsTo left n b := by
  intro b
  induction b with
  | nil => intro r n h; cases r with
   | nil => rfl
   | cons x r => simp only [kidsTo] at h; simp [kidsTo, h]
  | cons k b ih =>
   intro r n h
   simp only [List.cons_append, kidsTo] at h ⊢
   split at h
   ·rename_i hn; rw [if_pos hn, if_pos hn]; exact ih r _ h
   ·rename_i hn; rw [if_neg hn, if_neg hn]
 have e := this (a.take j) (a.drop j) n h
 rwa [List.take_append_drop] at e
set_option maxHeartbeats 2000000 in
theorem small_any : ∀ (T : Tree) (B : Nat) (v : Value) (left : Int) (w : World), B ≤ w.heap.size → Lies B w v T → Sane T → 0 ≤ left → left ≤ 100000 →
  Calls Tryz.prog 58 #[v, .int .i64 left] w fun e w' => e = .returned (.int .i64 (smallN T left)) ∧ Below w.heap.size w w' := by
 refine Tree.ind ?_
 intro k x n s ks ts ih B v left w hB hv hS h0 h1
 have HSA := hidE hS
 have HLE := hidE (smallN_le (.mk k x n s ks ts) left hS h0)
 simp only [Sane] at hS
 obtain ⟨s1, s2, s3, s4, s5⟩ := hS
 simp only [Lies] at hv
 obtain ⟨ka, kc, la, lc, rfl, ⟨hs1, hs2, hs3, hs4, hs5⟩, hk, ht⟩ := hv
 have HIH := hidE ih
 have HS4 := hidE s4
 have HS5 := hidE s5
 have HRES : Hid (smallN (.mk k x n s ks ts) left = kidsTo left (keysTo left (1 + s.size + ks.length) ks) ts) := by show _ = _; rw [smallN]
 clear ih s4 s5
 unfold maxLen at hs3 hs5
 obtain ⟨W1, hW1⟩ : ∃ W1, w.alloc (.cells #[.int .i64 k, .bool x, .int .i64 n, .string s, .slice ka ks.length kc, .slice la ts.length lc] 26) = W1 := ⟨_, rfl⟩
 have HBX : Hid (∀ W, Below W1.heap.size W1 W → Below w.heap.size w W ∧ W.cell? ⟨w.heap.size, 4, none⟩ = some (.slice ka ks.length kc) ∧ W.cell? ⟨w.heap.size, 5, none⟩ = some (.slice la ts.length lc)) := fun W hb => by
  rw [← hW1] at hb
  refine ⟨below_alloc hb, ?_, ?_⟩
  ·exact (hb.cell (p := ⟨w.heap.size, 4, none⟩) (by simp)).trans (cell_new _ _ _ _ _ rfl)
  ·exact (hb.cell (p := ⟨w.heap.size, 5, none⟩) (by simp)).trans (cell_new _ _ _ _ _ rfl)
 have HW1 := hidE hW1
 clear hW1
 go_enter Tryz.func58, Tryz.ntmps58
 go_wp2_with fail
 rw [HW1.out]
 go_loop [6, 5] (fun i u => ∃ j : Nat, j ≤ ks.length ∧ i = .int .i64 j ∧ u = .int .i64 (keysTo left (1 + s.size + ks.length) (ks.take j))) (fun i _ => ks.length - (intOf i).toNat)
 case atStart => exact ⟨0, Nat.zero_le _, rfl, by simp [keysTo]⟩
 case round =>
  obtain ⟨j, hj, rfl, rfl⟩ := hrel
  obtain ⟨hbw, f4, f5⟩ := HBX.out W1 (Below.refl _ _)
  have hkl := keysTo_le left (ks.take j) (1 + s.size + ks.length) (281474976710657 + left) (fun y hy => by have := HS4.out y (List.mem_of_mem_take hy); omega) (by omega) (by omega)
  have hkg := keysTo_ge left (ks.take j) (1 + s.size + ks.length)
  by_cases hgo : j < ks.length ∧ keysTo left (1 + s.size + ks.length) (ks.take j) ≤ left
  ·obtain ⟨hlt, hle⟩ := hgo
   obtain ⟨bk, off, rfl, hbk, hkey⟩ := hk.resolve_left (by intro e; subst e; simp at hlt)
   have hc := cell_below hbw (Nat.le_refl _) (hkey j hlt).1
   have hks := HS4.out (ks.getD j ⟨#[]⟩) (by rw [List.getD_eq_getElem?_getD, List.getElem?_eq_getElem hlt]; exact List.getElem_mem hlt)
   have HST : Hid (keysTo left (1 + s.size + ks.length) (ks.take (j + 1)) = keysTo left (1 + s.size + ks.length) (ks.take j) + (ks.getD j ⟨#[]⟩).size) := by
    show _ = _
    rw [List.take_add_one, List.getElem?_eq_getElem hlt, List.getD_eq_getElem?_getD, List.getElem?_eq_getElem hlt]
    exact (keysTo_snoc left _ _ _).trans (if_pos hle)
   generalize ks.getD j ⟨#[]⟩ = kx at *
   generalize keysTo left (1 + s.size + ks.length) (ks.take j) = acc at *
   clear hkey
   go_wp2_with fail
   go_round
   case rel => exact ⟨j + 1, by omega, by go_num, by rw [HST.out]⟩
   case measure => simp [intOf]; omega
  ·have HN1 : Hid (keysTo left (1 + s.size + ks.length) (ks.take j) = keysTo left (1 + s.size + ks.length) ks) := by
    show _ = _
    by_cases hlt : j < ks.length
    ·exact (keysTo_stop left (fun h => hgo ⟨hlt, h⟩)).symm
    ·rw [List.take_of_length_le (by omega)]
   rw [HN1.out] at hgo hkl hkg ⊢
   generalize keysTo left (1 + s.size + ks.length) ks = n1 at *
   have hle : ks.length ≤ j ∨ ¬ n1 ≤ left := by
    by_cases hlt : j < ks.length
    ·exact .inr fun h => hgo ⟨hlt, h⟩
    ·exact .inl (by omega)
   clear hgo HN1
   by_cases hlt : j < ks.length
   ·have hle2 : ¬ n1 ≤ left := by omega
    clear hle
    go_wp2_with fail
    go_loopw [7, 5] (fun i u wr => ∃ p : Nat, p ≤ ts.length ∧ i = .int .i64 p ∧ u = .int .i64 (kidsTo left n1 (ts.take p)) ∧ Below W1.heap.size W1 wr) (fun i _ _ => ts.length - (intOf i).toNat)
    case atStart => exact ⟨0, Nat.zero_le _, rfl, by simp [kidsTo], Below.refl _ _⟩
    case round =>
     obtain ⟨p, hp, rfl, rfl, hbr⟩ := hrel
     obtain ⟨hbw2, g4, g5⟩ := HBX.out wr hbr
     clear f4 f5
     have hkl2 := kidsTo_le left h0 (ts.take p) n1 (sane_take HS5.out p) hkl
     have hkg2 := kidsTo_ge left (ts.take p) n1
     by_cases hgo2 : p < ts.length ∧ kidsTo left n1 (ts.take p) ≤ left
     ·exfalso; omega
     ·have HN2 : Hid (kidsTo left n1 (ts.take p) = smallN (.mk k x n s ks ts) left) := by
       show _ = _
       rw [HRES.out]
       by_cases hlt2 : p < ts.length
       ·exact (kidsTo_stop left (fun h => hgo2 ⟨hlt2, h⟩)).symm
       ·rw [List.take_of_length_le (by omega)]
      generalize kidsTo left n1 (ts.take p) = acc at *
      by_cases hlt2 : p < ts.length
      ·have hle4 : ¬ acc ≤ left := fun h => hgo2 ⟨hlt2, h⟩
       clear hgo2
       go_wp2_with fail
       go_ret
       exact ⟨by rw [← HN2.out]; rfl, hbw2⟩
      ·clear hgo2
       go_wp2_with fail
       go_ret
       exact ⟨by rw [← HN2.out]; rfl, hbw2⟩
   ·clear hle
    go_wp2_with fail
    go_loopw [7, 5] (fun i u wr => ∃ p : Nat, p ≤ ts.length ∧ i = .int .i64 p ∧ u = .int .i64 (kidsTo left n1 (ts.take p)) ∧ Below W1.heap.size W1 wr) (fun i _ _ => ts.length - (intOf i).toNat)
    case atStart => exact ⟨0, Nat.zero_le _, rfl, by simp [kidsTo], Below.refl _ _⟩
    case round =>
     obtain ⟨p, hp, rfl, rfl, hbr⟩ := hrel
     obtain ⟨hbw2, g4, g5⟩ := HBX.out wr hbr
     clear f4 f5
     have hkl2 := kidsTo_le left h0 (ts.take p) n1 (sane_take HS5.out p) hkl
     have hkg2 := kidsTo_ge left (ts.take p) n1
     by_cases hgo2 : p < ts.length ∧ kidsTo left n1 (ts.take p) ≤ left
     ·obtain ⟨hlt2, hle3⟩ := hgo2
      obtain ⟨bl, off, rfl, hbl, hkk⟩ := ht.resolve_left (by intro e; subst e; simp at hlt2)
      obtain ⟨⟨p0, p1, p2, p3, p4, p5⟩, hx⟩ : ∃ t, ts[p]? = some t := ⟨_, List.getElem?_eq_getElem hlt2⟩
      obtain ⟨ja, jc, jl, jd, ⟨c0, c1, c2, c3, c4, c5⟩, hlx⟩ := (hkk.below (hbw2.mono hB) hbl).cells hx
      have hsx := HS5.out.mem (List.mem_of_getElem? hx)
      have HST : Hid (kidsTo left n1 (ts.take (p + 1)) = kidsTo left n1 (ts.take p) + smallN (.mk p0 p1 p2 p3 p4 p5) (left - kidsTo left n1 (ts.take p))) := by
       show _ = _
       rw [List.take_add_one, hx]
       exact (kidsTo_snoc left _ _ _).trans (if_pos hle3)
      generalize kidsTo left n1 (ts.take p) = acc at *
      have hsl := smallN_le (.mk p0 p1 p2 p3 p4 p5) (left - acc) hsx (by omega)
      have hsp := smallN_pos (.mk p0 p1 p2 p3 p4 p5) (left - acc)
      have HC := hidE (HIH.out _ (List.mem_of_getElem? hx) B _ (left - acc) wr (Nat.le_trans hB hbw2.size) hlx hsx (by omega) (by omega))
      generalize smallN (.mk p0 p1 p2 p3 p4 p5) (left - acc) = sm at *
      clear hx hkk hlx hsx
      go_wp2_with fail
      refine HC.out.mono ?_
      rintro e w2 ⟨rfl, hb2⟩
      have HB2 : Hid (Below W1.heap.size W1 w2) := below_on hbr hb2
      clear hb2 c0 c1 c2 c3 c4 c5
      go_wp2_with fail
      go_roundw
      case rel => exact ⟨p + 1, by omega, by go_num, by rw [HST.out], HB2.out⟩
      case measure => simp [intOf]; omega
     ·have HN2 : Hid (kidsTo left n1 (ts.take p) = smallN (.mk k x n s ks ts) left) := by
       show _ = _
       rw [HRES.out]
       by_cases hlt2 : p < ts.length
       ·exact (kidsTo_stop left (fun h => hgo2 ⟨hlt2, h⟩)).symm
       ·rw [List.take_of_length_le (by omega)]
      generalize kidsTo left n1 (ts.take p) = acc at *
      by_cases hlt2 : p < ts.length
      ·have hle4 : ¬ acc ≤ left := fun h => hgo2 ⟨hlt2, h⟩
       clear hgo2
       go_wp2_with fail
       go_ret
       exact ⟨by rw [← HN2.out]; rfl, hbw2⟩
      ·clear hgo2
       go_wp2_with fail
       go_ret
       exact ⟨by rw [← HN2.out]; rfl, hbw2⟩
end Go.Proofs.YtbpmhgcjefpigaaGreatDoor

