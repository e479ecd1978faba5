/- Check: whether a value may be, and is not too great. Equal: values that may not be are held for nothing. List, and Less at every two values. Storable, the program's and the document's. -/
import Derived.Test.YthfilnflgahcjaaGreatDoorJoin26
import Derived.Test.YthfilnflgahcjaaGreatDoorJoin20
import Derived.Deep.QuietTactic
import Derived.BigQuiet
import Derived.Deep.RegionWith
namespace Go.Proofs.YthfilnflgahcjaaGreatDoor
open Go.RowKit Go.Shelf
set_option linter.unusedVariables false
attribute [local go_sem] Oper.semAt_some
theorem in_wide {F : Fence} {n : Nat} {P : Program} {f : FuncId} {args : Array Value} {w : World} {R : Ending → World → Prop} (hF : F = Fence.wide) (h : Calls P f args w R) : CallsIn F n P f args w R := by
  rw [hF]; exact callsIn_wide.2 h
/-- What Check answers: its number. -/
def checkN (T : Tree) : Int := if (T.pre 1).all (fun x => shapedB x.2) = true then (if heavy 0 (T.pre 1) = true then 3 else 0) else 110
theorem weigh_calls (v : Value) (T : Tree) (w : World) (hv : Lies w.heap.size w v T) (hh : T.height < 100000000) (hb : bytesOf (T.pre 1) < 4611686018427387904) :
    Calls Tryz.prog 200 #[v] w fun e w' => Below w.heap.size w w' ∧ ((heavy 0 (T.pre 1) = false ∧ ∃ x, e = .returned x) ∨ (heavy 0 (T.pre 1) = true ∧ e = .panicked [{ v := .iface 34 (.int .i64 3), recovered := false }])) := by
  refine CallsIn.calls (F := Fence.list [200, 197, 234, 235] none) (n := 0) ?_ ?_
  · refine weigh_any rfl rfl (by simp [Fence.list]) (by simp [Fence.list]) (by simp [Fence.list]) (by simp [Fence.list]) ?_ 0 v T w hv hh hb
    intro f hf
    simp only [Fence.list, List.mem_cons, List.not_mem_nil, or_false] at hf
    rcases hf with rfl | rfl | rfl | rfl
    · exact ⟨_, Tryz.func200⟩
    · exact ⟨_, Tryz.func197⟩
    · exact ⟨_, Tryz.func234⟩
    · exact ⟨_, Tryz.func235⟩
  · exact room_of_none rfl
set_option maxRecDepth 100000 in
set_option maxHeartbeats 1000000 in
theorem check_any (v : Value) (T : Tree) (w : World) (hv : Lies w.heap.size w v T) (hT : Tabs w) (hh : T.height < 100000000) (hb : bytesOf (T.pre 1) < 4611686018427387904) :
    Calls Tryz.prog 151 #[v] w fun e w' => e = .returned (.int .i64 (checkN T)) ∧ Below w.heap.size w w' := by
  refine (callsIn_wide (n := 0)).1 ?_
  obtain ⟨F, hF⟩ : ∃ F, F = Fence.wide := ⟨_, rfl⟩
  rw [← hF]
  have hd : F.depth = none := by rw [hF]; rfl
  have hro : F.round = none := by rw [hF]; rfl
  have hfn : ∀ f, F.fn f := by rw [hF]; exact fun _ => trivial
  have HF : Hid (F = Fence.wide) := hF
  clear hF
  obtain ⟨k, b, n, s, ks, ts⟩ := T
  have hv0 := hv
  simp only [Lies] at hv
  obtain ⟨ka, kc, la, lc, rfl, ⟨hs1, hs2, hs3, hs4, hs5⟩, hk, ht⟩ := hv
  refine callsIn_of_wp_marks Tryz.func151 rfl (hfn _) ?_ hro
  simp only [Tryz.ntmps151, List.size_toArray, List.length_cons, List.length_nil, Nat.reduceAdd, Nat.reduceSub, Array.replicate_succ, Array.replicate_zero, List.push_toArray, List.append_toArray, List.nil_append, List.cons_append]
  gi_wp2_with (gi_at_call 197; refine (within_any (hfn _) hro _ _ _ _ _ _ _ _ _ _ _ _).mono ?_; rintro e w' ⟨rfl, rfl⟩)
  refine range_wp hro hd (gf := 234) (lb := #[.pointer (some ⟨w.heap.size + 1 + 1, 0, none⟩)]) rfl (hfn _) (enters_of Tryz.func234 (by kernel_rfl) rfl) ?_
  intro fn hfn0
  generalize hrec : Loop.mk _ _ _ _ _ _ _ _ = rec
  simp only [World.size_alloc]
  generalize hW0 : World.alloc _ (Obj.loop rec) = W0
  have hsz : W0.heap.size = w.heap.size + 5 := by rw [← hW0]; simp
  have b0 : W0.heap[w.heap.size]? = some (.cells #[.int .i64 k, .bool b, .int .i64 n, .string s, .slice ka ks.length kc, .slice la ts.length lc] 88 (0, 0)) := by rw [← hW0]; simp only [heap_alloc_at, World.size_alloc]; repeat (first | rw [if_pos trivial] | rw [if_pos (by omega)] | rw [if_neg (by omega)])
  have b1 : W0.heap[w.heap.size + 1]? = some (.cells #[.int .i64 0] 34 (0, 0)) := by rw [← hW0]; simp only [heap_alloc_at, World.size_alloc]; repeat (first | rw [if_pos trivial] | rw [if_pos (by omega)] | rw [if_neg (by omega)])
  have b2 : W0.heap[w.heap.size + 2]? = some (.cells #[.int .i64 k, .bool b, .int .i64 n, .string s, .slice ka ks.length kc, .slice la ts.length lc] 88 (0, 0)) := by rw [← hW0]; simp only [heap_alloc_at, World.size_alloc]; repeat (first | rw [if_pos trivial] | rw [if_pos (by omega)] | rw [if_neg (by omega)])
  have b3 : W0.heap[w.heap.size + 3]? = some (.deferred (some [])) := by rw [← hW0]; simp only [heap_alloc_at, World.size_alloc]; repeat (first | rw [if_pos trivial] | rw [if_pos (by omega)] | rw [if_neg (by omega)])
  have b4 : W0.heap[w.heap.size + 4]? = some (.loop rec) := by rw [← hW0]; simp only [heap_alloc_at, World.size_alloc]; repeat (first | rw [if_pos trivial] | rw [if_pos (by omega)] | rw [if_neg (by omega)])
  have hbl : Below w.heap.size w W0 := by
    rw [← hW0]; exact (((((Below.refl _ w).alloc (Nat.le_refl _) _).alloc (by simp) _).alloc (by simp; omega) _).alloc (by simp; omega) _).alloc (by simp; omega) _
  clear hW0
  have R : Rounds F (w.heap.size + 4) w.heap.size (w.heap.size + 5) w ((Tree.mk k b n s ks ts).pre 1)
      (fun pre W => W.heap[w.heap.size + 4]? = some (.loop rec) ∧ W.heap[w.heap.size + 3]? = some (.deferred (some [])) ∧ W.heap[w.heap.size + 1]? = some (.cells #[.int .i64 0] 34 (0, 0)) ∧
        W.heap[w.heap.size]? = some (.cells #[.int .i64 k, .bool b, .int .i64 n, .string s, .slice ka ks.length kc, .slice la ts.length lc] 88 (0, 0)) ∧
        Below w.heap.size w W ∧ w.heap.size + 5 ≤ W.heap.size ∧ pre.all (fun x => shapedB x.2) = true)
      (fun W => W.heap[w.heap.size + 4]? = some (.loop (asDone rec .ret)) ∧ W.heap[w.heap.size + 3]? = some (.deferred (some [])) ∧ W.heap[w.heap.size + 1]? = some (.cells #[.int .i64 110] 34 (0, 0)) ∧
        Below w.heap.size w W ∧ w.heap.size + 5 ≤ W.heap.size ∧ ((Tree.mk k b n s ks ts).pre 1).all (fun x => shapedB x.2) = false)
      (fun _ _ => False) := by
    refine ⟨?_, ?_, ?_⟩
    · rintro pre W ⟨_, _, _, _, h4, h5, _⟩
      exact ⟨h4, by omega, h5⟩
    · rintro pre W W' ⟨h1, h2, h3, h3', h4, h5, h6⟩ hb
      exact ⟨(hb.block _ (by omega)).trans h1, (hb.block _ (by omega)).trans h2, (hb.block _ (by omega)).trans h3, (hb.block _ (by omega)).trans h3', h4.trans (hb.mono (by omega)), by have := hb.size; omega, h6⟩
    · rintro m' pre d ⟨k', b', n', s', ks', us⟩ v W ⟨h1, h2, h3, h3', h4, h5, h6⟩ hlv hpre
      have hlv0 := hlv
      simp only [Lies] at hlv
      obtain ⟨ka', kc', la', lc', rfl, ⟨g1, g2, g3, g4, g5⟩, hk', ht'⟩ := hlv
      have ea := congrArg Loop.assign hrec
      have eb := congrArg Loop.body hrec
      have et := congrArg Loop.tmps hrec
      have ep := congrArg Loop.params hrec
      have es := congrArg Loop.state hrec
      have ef := congrArg Loop.fn hrec
      have hr0 : asReady rec = rec := by rw [← hrec]; rfl
      dsimp only at ea eb et ep es ef
      clear hrec
      refine yield_round (hfn _) ea eb et ep h1 es.symm (by rw [← ep]; rfl) ?_
      clear ea eb et ep es
      gi_wp2_with fail
      refine ⟨(Below.heap_alloc _ _ _ (by omega)).trans h1, ?_⟩
      generalize hW2 : World.putObj _ _ _ = W2
      have a1 : W2.heap[w.heap.size + 4]? = some (.loop (asBusy rec)) := by rw [← hW2]; refine World.putObj_heap_same ?_; simp; omega
      have a2 : Boxed W2 (w.heap.size + 1) 34 (.int .i64 0) := by rw [← hW2]; show _ = _; rw [World.putObj_heap_other (by omega), Below.heap_alloc _ _ _ (by omega)]; exact h3
      have a0 : W2.heap[w.heap.size]? = some (.cells #[.int .i64 k, .bool b, .int .i64 n, .string s, .slice ka ks.length kc, .slice la ts.length lc] 88 (0, 0)) := by rw [← hW2, World.putObj_heap_other (by omega), Below.heap_alloc _ _ _ (by omega)]; exact h3'
      have a3 : W2.heap[w.heap.size + 3]? = some (.deferred (some [])) := by rw [← hW2, World.putObj_heap_other (by omega), Below.heap_alloc _ _ _ (by omega)]; exact h2
      have a4 : W2.heap[W.heap.size]? = some (.cells #[.int .i64 k', .bool b', .int .i64 n', .string s', .slice ka' ks'.length kc', .slice la' us.length lc'] 88 (0, 0)) := by
        rw [← hW2]; exact (World.putObj_heap_other (by omega)).trans (World.alloc_heap_new _ _)
      have a5 : Below w.heap.size w W2 := by rw [← hW2]; exact (But.putObj _ _).below ((h4.alloc (by omega) _)) (by omega)
      have a6 : W2.heap.size = W.heap.size + 1 := by rw [← hW2]; simp
      have a7 : Above (w.heap.size + 5) W W2 := ⟨by omega, fun i hi hl => by rw [← hW2]; exact (World.putObj_heap_other (by omega)).trans (Below.heap_alloc _ _ _ hl)⟩
      clear hW2 h1 h2 h3 h3'
      have x0 : W2.cell? ⟨W.heap.size, 0, none⟩ = some (.int .i64 k') := by unfold World.cell?; simp only [a4]; rfl
      have x1 : W2.cell? ⟨W.heap.size, 1, none⟩ = some (.bool b') := by unfold World.cell?; simp only [a4]; rfl
      have x2 : W2.cell? ⟨W.heap.size, 2, none⟩ = some (.int .i64 n') := by unfold World.cell?; simp only [a4]; rfl
      have x3 : W2.cell? ⟨W.heap.size, 3, none⟩ = some (.string s') := by unfold World.cell?; simp only [a4]; rfl
      have x4 : W2.cell? ⟨W.heap.size, 4, none⟩ = some (.slice ka' ks'.length kc') := by unfold World.cell?; simp only [a4]; rfl
      have x5 : W2.cell? ⟨W.heap.size, 5, none⟩ = some (.slice la' us.length lc') := by unfold World.cell?; simp only [a4]; rfl
      have hsp := shaped_any w.heap.size _ _ W2 (by have := a5.size; omega) (hlv0.below a5) (hT.below a5)
      gi_wp2_with fail
      refine (CallsIn.inRound _ (in_wide HF.out hsp)).mono ?_
      rintro e W3 ⟨rfl, hb3⟩
      have c1 : W3.heap[w.heap.size + 4]? = some (.loop (asBusy rec)) := (hb3.block _ (by omega)).trans a1
      have c2 : Boxed W3 (w.heap.size + 1) 34 (.int .i64 0) := (hb3.block _ (by omega)).trans a2
      have c3 : W3.heap[w.heap.size + 3]? = some (.deferred (some [])) := (hb3.block _ (by omega)).trans a3
      have c0 : W3.heap[w.heap.size]? = some (.cells #[.int .i64 k, .bool b, .int .i64 n, .string s, .slice ka ks.length kc, .slice la ts.length lc] 88 (0, 0)) := (hb3.block _ (by omega)).trans a0
      have c5 : Below w.heap.size w W3 := a5.trans (hb3.mono (by omega))
      have c7 : Above (w.heap.size + 5) W W3 := a7.trans (Above.of_below hb3 (Nat.le_refl _))
      have hz3 := hb3.size
      have cb := c2.cell
      have fb := c2.frozen
      clear hsp hb3 a0 a1 a2 a3 a4 a5 a7 x0 x1 x2 x3 x4 x5
      cases hsh : shapedB (.mk k' b' n' s' ks' us) with
      | true =>
        have HJ : Hid ((pre ++ [(d, Tree.mk k' b' n' s' ks' us)]).all (fun x => shapedB x.2) = true) := by show _ = _; rw [List.all_append, h6]; simp [hsh]
        clear hsh h6
        gi_wp2_with fail
        refine ⟨c1, .inl ⟨rfl, ⟨?_, ?_, ?_, ?_, ?_, ?_, HJ.out⟩, ?_⟩⟩
        · rw [hr0]; exact World.putObj_heap_same (by omega)
        · rw [World.putObj_heap_other (by omega)]; exact c3
        · rw [World.putObj_heap_other (by omega)]; exact c2
        · rw [World.putObj_heap_other (by omega)]; exact c0
        · exact (But.putObj _ _).below c5 (by omega)
        · rw [World.putObj_size]; omega
        · refine c7.trans ⟨by rw [World.putObj_size]; omega, fun i hi hl => ?_⟩
          rw [World.putObj_heap_other (by omega)]
      | false =>
        have HJ : Hid (((Tree.mk k b n s ks ts).pre 1).all (fun x => shapedB x.2) = false) := by
          obtain ⟨r, hr⟩ := hpre
          show _ = _
          rw [← hr, List.all_append, List.all_append]; simp [hsh]
        clear hsh h6
        gi_wp2_with fail
        have e4 : (W3.setCell ⟨w.heap.size + 1, 0, none⟩ (.int .i64 110)).heap[w.heap.size + 4]? = some (.loop (asBusy rec)) := (Below.heap_setCell _ _ _ _ (by show w.heap.size + 4 ≠ w.heap.size + 1; omega)).trans c1
        have hsz4 : (W3.setCell ⟨w.heap.size + 1, 0, none⟩ (.int .i64 110)).heap.size = W3.heap.size := by simp [World.setCell]
        refine ⟨e4, .inr (.inl ⟨rfl, ?_, ?_, ?_, ?_, ?_, HJ.out⟩)⟩
        · exact World.putObj_heap_same (by omega)
        · rw [World.putObj_heap_other (by omega)]; exact (Below.heap_setCell _ _ _ _ (by show w.heap.size + 3 ≠ w.heap.size + 1; omega)).trans c3
        · rw [World.putObj_heap_other (by omega)]; exact c2.set _
        · exact (But.putObj _ _).below (c5.setCell (p := ⟨w.heap.size + 1, 0, none⟩) (by show _ ≤ w.heap.size + 1; omega) _) (by omega)
        · rw [World.putObj_size]; omega
  have hco : ∀ (i : Nat) (v : Value), (#[Value.int .i64 k, .bool b, .int .i64 n, .string s, .slice ka ks.length kc, .slice la ts.length lc] : Array Value)[i]? = some v → ∀ (W : World) (bx : Nat), W.heap[bx]? = some (.cells #[.int .i64 k, .bool b, .int .i64 n, .string s, .slice ka ks.length kc, .slice la ts.length lc] 88 (0, 0)) → W.cell? ⟨bx, i, none⟩ = some v := by
    intro i v hi W bx hbx; unfold World.cell?; simp only [hbx]; simpa using hi
  refine (within1_any hd (hfn _) (hfn _) hro R _ (w.heap.size + 1 + 1) W0 hv0 ⟨b4, b3, b1, b0, hbl, by omega, rfl⟩ (by simp only [Tree.height] at hh; omega)
    (hco 0 _ rfl _ _ b2) (hco 1 _ rfl _ _ b2) (hco 2 _ rfl _ _ b2) (hco 3 _ rfl _ _ b2) (hco 4 _ rfl _ _ b2) (hco 5 _ rfl _ _ b2)).mono ?_
  rintro e W' (⟨⟨x, rfl⟩, ⟨h1, h2, h3, h3', h4, h5, h6⟩ | ⟨h1, h2, h3, h4, h5, h6⟩⟩ | ⟨ch, _, hx⟩)
  · have hp : rec.pending = none := by rw [← hrec]
    have hst : rec.state ≠ .busy := by rw [← hrec]; simp
    clear hrec R b0 b1 b2 b3 b4 hbl hsz
    refine ⟨rec, h1, hst, ?_⟩
    simp only [hp]
    generalize hW4 : World.putObj _ _ _ = W4
    have d1 : Boxed W4 (w.heap.size + 1) 34 (.int .i64 0) := by rw [← hW4]; show _ = _; rw [World.putObj_heap_other (by omega)]; exact h3
    have d0 : W4.heap[w.heap.size]? = some (.cells #[.int .i64 k, .bool b, .int .i64 n, .string s, .slice ka ks.length kc, .slice la ts.length lc] 88 (0, 0)) := by rw [← hW4, World.putObj_heap_other (by omega)]; exact h3'
    have d3 : W4.heap[w.heap.size + 3]? = some (.deferred (some [])) := by rw [← hW4, World.putObj_heap_other (by omega)]; exact h2
    have d4 : Below w.heap.size w W4 := by rw [← hW4]; exact (But.putObj _ _).below h4 (by omega)
    have d5 : w.heap.size + 5 ≤ W4.heap.size := by rw [← hW4, World.putObj_size]; exact h5
    clear hW4 h1 h2 h3 h3' h4 h5 hst hp
    have x0 := hco 0 _ rfl _ _ d0
    have x1 := hco 1 _ rfl _ _ d0
    have x2 := hco 2 _ rfl _ _ d0
    have x3 := hco 3 _ rfl _ _ d0
    have x4 := hco 4 _ rfl _ _ d0
    have x5 := hco 5 _ rfl _ _ d0
    clear hco
    have hwe := weigh_calls _ _ W4 ((hv0.below d4).mono (by omega)) hh hb
    gi_wp2_with fail
    refine (in_wide HF.out hwe).mono ?_
    clear hwe x0 x1 x2 x3 x4 x5 d0
    rintro e W5 ⟨hb5, ⟨hh0, x, rfl⟩ | ⟨hh1, rfl⟩⟩
    · have f1 : Boxed W5 (w.heap.size + 1) 34 (.int .i64 0) := (hb5.block _ (by omega)).trans d1
      have f3 : W5.heap[w.heap.size + 3]? = some (.deferred (some [])) := (hb5.block _ (by omega)).trans d3
      have f4 : Below w.heap.size w W5 := d4.trans (hb5.mono (by omega))
      have f5 := hb5.size
      have cb := f1.cell
      have fb := f1.frozen
      have HN : Hid (checkN (.mk k b n s ks ts) = 0) := by show _ = _; unfold checkN; rw [if_pos h6, if_neg (by rw [hh0]; simp)]
      clear d1 d3 d4 hb5 hh0 h6
      gi_wp2_with fail
      have hq3 : (W5.setCell ⟨w.heap.size + 1, 0, none⟩ (.int .i64 0)).heap[w.heap.size + 3]? = some (.deferred (some [])) := (Below.heap_setCell _ _ _ _ (by show w.heap.size + 3 ≠ w.heap.size + 1; omega)).trans f3
      have hq4 : Below w.heap.size w (W5.setCell ⟨w.heap.size + 1, 0, none⟩ (.int .i64 0)) := f4.setCell (p := ⟨w.heap.size + 1, 0, none⟩) (by show _ ≤ w.heap.size + 1; omega) _
      have hq1 : Boxed (W5.setCell ⟨w.heap.size + 1, 0, none⟩ (.int .i64 0)) (w.heap.size + 1) 34 (.int .i64 0) := f1.set _
      show LeavesInM _ _ _ _ _ _ [_, _] _ _
      refine ⟨by simp, .inr ⟨depth_none hd _, _, _, 199, #[.pointer (some ⟨w.heap.size + 1, 0, none⟩)], rfl, by simp [invoke, go_sem], fun g _ => hfn g, ?_⟩⟩
      rw [HF.out]
      refine (catch_idle _ _ _).mono ?_
      rintro e u' w'' ⟨rfl, rfl, rfl⟩
      show LeavesInM _ _ _ _ _ _ [_] .returning _
      refine ⟨by simp, .inl ⟨_, _, rfl, run_takeDeferred hq3, ?_⟩⟩
      have hq5 : Boxed ((W5.setCell ⟨w.heap.size + 1, 0, none⟩ (.int .i64 0)).putObj (w.heap.size + 3) (.deferred none)) (w.heap.size + 1) 34 (.int .i64 0) := (World.putObj_heap_other (by omega)).trans hq1
      refine ⟨.int .i64 0, ?_, by rw [HN.out], (But.putObj _ _).below hq4 (by omega)⟩
      have hq6 := hq5.cell
      simp [results, Tryz.results151, go_sem, hq6]
    · have f1 : Boxed W5 (w.heap.size + 1) 34 (.int .i64 0) := (hb5.block _ (by omega)).trans d1
      have f3 : W5.heap[w.heap.size + 3]? = some (.deferred (some [])) := (hb5.block _ (by omega)).trans d3
      have f4 : Below w.heap.size w W5 := d4.trans (hb5.mono (by omega))
      have f5 := hb5.size
      have HN : Hid (checkN (.mk k b n s ks ts) = 3) := by show _ = _; unfold checkN; rw [if_pos h6, if_pos hh1]
      have hq3 : (W5.setCell ⟨w.heap.size + 1, 0, none⟩ (.int .i64 3)).heap[w.heap.size + 3]? = some (.deferred (some [])) := (Below.heap_setCell _ _ _ _ (by show w.heap.size + 3 ≠ w.heap.size + 1; omega)).trans f3
      have hq4 : Below w.heap.size w (W5.setCell ⟨w.heap.size + 1, 0, none⟩ (.int .i64 3)) := f4.setCell (p := ⟨w.heap.size + 1, 0, none⟩) (by show _ ≤ w.heap.size + 1; omega) _
      have hq1 : Boxed (W5.setCell ⟨w.heap.size + 1, 0, none⟩ (.int .i64 3)) (w.heap.size + 1) 34 (.int .i64 3) := f1.set _
      show LeavesInM _ _ _ _ _ _ [_, _] _ _
      refine ⟨by simp, .inr ⟨depth_none hd _, _, _, 199, #[.pointer (some ⟨w.heap.size + 1, 0, none⟩)], rfl, by simp [invoke, go_sem], fun g _ => hfn g, ?_⟩⟩
      rw [HF.out]
      refine (catch_long _ _ 0 _ f1.cell f1.frozen).mono ?_
      rintro e u' w'' ⟨rfl, rfl, rfl⟩
      show LeavesInM _ _ _ _ _ _ [_] .returning _
      refine ⟨by simp, .inl ⟨_, _, rfl, run_takeDeferred hq3, ?_⟩⟩
      have hq5 : Boxed ((W5.setCell ⟨w.heap.size + 1, 0, none⟩ (.int .i64 3)).putObj (w.heap.size + 3) (.deferred none)) (w.heap.size + 1) 34 (.int .i64 3) := (World.putObj_heap_other (by omega)).trans hq1
      refine ⟨.int .i64 3, ?_, by rw [HN.out], (But.putObj _ _).below hq4 (by omega)⟩
      have hq6 := hq5.cell
      simp [results, Tryz.results151, go_sem, hq6]
  · have HN : Hid (checkN (.mk k b n s ks ts) = 110) := by show _ = _; unfold checkN; rw [if_neg (by rw [h6]; simp)]
    refine ⟨asDone rec .ret, h1, by simp [asDone], ?_⟩
    simp only [asDone]
    clear hrec R b0 b1 b2 b3 b4 hbl hsz hco
    generalize hW4 : World.putObj _ _ _ = W4
    have d1 : Boxed W4 (w.heap.size + 1) 34 (.int .i64 110) := by rw [← hW4]; show _ = _; rw [World.putObj_heap_other (by omega)]; exact h3
    have d3 : W4.heap[w.heap.size + 3]? = some (.deferred (some [])) := by rw [← hW4, World.putObj_heap_other (by omega)]; exact h2
    have d4 : Below w.heap.size w W4 := by rw [← hW4]; exact (But.putObj _ _).below h4 (by omega)
    clear hW4 h1 h2 h3 h4 h6
    gi_wp2_with fail
    show LeavesInM _ _ _ _ _ _ [_] .returning _
    refine ⟨by simp, .inl ⟨_, _, rfl, run_takeDeferred d3, ?_⟩⟩
    have hq5 : Boxed (W4.putObj (w.heap.size + 3) (.deferred none)) (w.heap.size + 1) 34 (.int .i64 110) := (World.putObj_heap_other (by omega)).trans d1
    refine ⟨.int .i64 110, ?_, by rw [HN.out], (But.putObj _ _).below d4 (by omega)⟩
    have hq6 := hq5.cell
    simp [results, Tryz.results151, go_sem, hq6]
  · exact hx.elim
end Go.Proofs.YthfilnflgahcjaaGreatDoor

namespace Go.Proofs.YthfilnflgahcjaaGreatDoor
open Go.RowKit Go.Shelf
set_option linter.unusedVariables false
/-- Not too great to be looked at. -/
def Modest (t : Tree) : Prop := t.height < 100000000 ∧ bytesOf (t.pre 1) < 4611686018427387904
end Go.Proofs.YthfilnflgahcjaaGreatDoor

namespace Go.Proofs.YthfilnflgahcjaaGreatDoor
open Go.RowKit Go.Shelf
set_option linter.unusedVariables false
def plainB (k : Int) : Bool := k == 1 || k == 2 || k == 3
theorem plain_any (k : Int) (w : World) : Calls Tryz.prog 213 #[.int .i64 k] w fun e w' => e = .returned (.bool (plainB k)) ∧ w' = w := by
  go_enter Tryz.func213, Tryz.ntmps213
  by_cases h1 : k = 1
  · subst h1; go_wp2_with fail; go_ret; exact ⟨rfl, rfl⟩
  by_cases h2 : k = 2
  · subst h2; go_wp2_with fail; go_ret; exact ⟨rfl, rfl⟩
  go_wp2_with fail
  go_ret
  have e1 : (k == 1) = false := by simpa using h1
  have e2 : (k == 2) = false := by simpa using h2
  refine ⟨?_, rfl⟩
  unfold plainB
  rw [e1, e2]
  rfl
end Go.Proofs.YthfilnflgahcjaaGreatDoor

namespace Go.Proofs.YthfilnflgahcjaaGreatDoor
open Go.RowKit Go.Shelf
set_option linter.unusedVariables false
/-- The kind of the first value of a list. -/
def firstK (ts : List Tree) : Int := match ts with | [] => 0 | t :: _ => t.kind
/-- What Storable answers of a value that may be. -/
def storB (T : Tree) : Bool := if T.kind = 4 then T.kids.all fun t => plainB t.kind && (t.kind == firstK T.kids) else plainB T.kind
theorem take_all_snoc {p : Tree → Bool} {ts : List Tree} {j : Nat} {t : Tree} (h : (ts.take j).all p = true) (hx : ts[j]? = some t) (ht : p t = true) : (ts.take (j + 1)).all p = true := by
  rw [List.take_add_one, hx, List.all_append, h]; simp [ht]
theorem all_false {p : Tree → Bool} {ts : List Tree} {j : Nat} {t : Tree} (hx : ts[j]? = some t) (ht : p t = false) : ts.all p = false := by
  rw [List.all_eq_false]; exact ⟨t, List.mem_of_getElem? hx, by simp [ht]⟩
/-- The first value of a list that lies. -/
theorem KidsLie.first {B bl off : Nat} {w : World} {ts : List Tree} (h : KidsLie B w bl off ts) (h0 : 0 < ts.length) : w.cell? ⟨bl, off, none⟩ = some (.int .i64 (firstK ts)) := by
  obtain ⟨⟨p0, p1, p2, p3, p4, p5⟩, hx⟩ : ∃ t, ts[0]? = some t := ⟨_, List.getElem?_eq_getElem h0⟩
  obtain ⟨_, _, _, _, ⟨c0, _⟩, _⟩ := h.cells hx
  cases ts with
  | nil => simp at h0
  | cons t r =>
    simp at hx; subst hx
    simpa [firstK, Tree.kind] using c0
end Go.Proofs.YthfilnflgahcjaaGreatDoor

