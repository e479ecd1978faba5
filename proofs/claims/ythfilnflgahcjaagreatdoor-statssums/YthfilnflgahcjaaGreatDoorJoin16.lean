/- Whether a value may be: maps, kinds that are none; all together. What Check does with a panic: the function that it defers. Check: whether a value may be, and is not too great. -/
import Derived.Test.YthfilnflgahcjaaGreatDoorShape
import Derived.RecoverIn
import Derived.LaidEql
import Derived.WideLaws
namespace Go.Proofs.YthfilnflgahcjaaGreatDoor
open Go.RowKit Go.Shelf
set_option linter.unusedVariables false
theorem KeysLie.below {B : Nat} {w w' : World} {ka : Option Addr} {ks : List ByteArray} (hk : KeysLie B w ka ks) (h : Below B w w') : KeysLie B w' ka ks := by
  rcases hk with hk | ⟨bk, off, e, hlt, hc⟩
  · exact .inl hk
  · exact .inr ⟨bk, off, e, hlt, fun i hi => ⟨(h.cell (p := ⟨bk, off + i, none⟩) hlt).trans (hc i hi).1, (hc i hi).2⟩⟩
/-- The cells of the value and of its rest behind a call. -/
theorem rest_cells {w w1 : World} {A : Array Value} {v0 v1 v2 v3 v4 v5 : Value} (hb : Below ((w.alloc (.cells A 88)).alloc (.cells #[v0, v1, v2, v3, v4, v5] 88)).heap.size ((w.alloc (.cells A 88)).alloc (.cells #[v0, v1, v2, v3, v4, v5] 88)) w1) :
    w1.cell? ⟨w.heap.size + 1, 0, none⟩ = some v0 ∧ w1.cell? ⟨w.heap.size + 1, 1, none⟩ = some v1 ∧ w1.cell? ⟨w.heap.size + 1, 2, none⟩ = some v2 ∧ w1.cell? ⟨w.heap.size + 1, 3, none⟩ = some v3 ∧
    w1.cell? ⟨w.heap.size + 1, 4, none⟩ = some v4 ∧ w1.cell? ⟨w.heap.size + 1, 5, none⟩ = some v5 ∧ w1.frozen? ⟨w.heap.size + 1, 4, none⟩ = false ∧ w1.frozen? ⟨w.heap.size + 1, 5, none⟩ = false ∧ w.heap.size + 2 ≤ w1.heap.size := by
  have e : w1.heap[w.heap.size + 1]? = some (.cells #[v0, v1, v2, v3, v4, v5] 88 (0, 0)) := by
    rw [hb.block _ (by simp)]
    have := World.alloc_heap_new (w.alloc (.cells A 88)) (.cells #[v0, v1, v2, v3, v4, v5] 88)
    rwa [World.size_alloc] at this
  have hz := hb.size
  simp only [World.size_alloc] at hz
  refine ⟨?_, ?_, ?_, ?_, ?_, ?_, ?_, ?_, hz⟩ <;> first | (unfold World.cell?; simp only [e]; rfl) | (unfold World.frozen?; simp only [e]; rfl)
set_option maxHeartbeats 1000000 in
theorem shaped_5 (B : Nat) (k : Int) (b : Bool) (n : Int) (s : ByteArray) (ka : Option Addr) (kc : Nat) (la : Option Addr) (lc : Nat) (ks : List ByteArray) (ts : List Tree) (w : World) (hs1 : s.size ≤ maxLen) (hs2 : ks.length ≤ kc) (hs3 : kc ≤ maxLen) (hB : B ≤ w.heap.size) (hky : KeysLie B w ka ks) (hT : Tabs w) (hk0 : k = 5) :
    Calls Tryz.prog 198 #[.agg #[.int .i64 k, .bool b, .int .i64 n, .string s, .slice ka ks.length kc, .slice la ts.length lc]] w fun e w' => e = .returned (.bool (shapedB (.mk k b n s ks ts))) ∧ Below w.heap.size w w' := by
  have hsh : shapedB (.mk k b n s ks ts) = (((ks.length == ts.length && risingB ks) && blankB b n s 0 0) && Lib.validD s.data.toList) := by subst hk0; rfl
  have e0 : (k == 0) = false := ne_bool (by omega)
  have e1 : (k == 1) = false := ne_bool (by omega)
  have e2 : (k == 2) = false := ne_bool (by omega)
  have e6 : (k == 6) = false := ne_bool (by omega)
  have e7 : (k == 7) = false := ne_bool (by omega)
  have e3 : (k == 3) = false := ne_bool (by omega)
  have e5 : (k == 5) = true := eq_bool hk0
  clear hk0
  by_cases hl : ks.length = ts.length
  · have hn : ((ks.length : Int) != (ts.length : Int)) = false := by rw [hl]; simp
    have hl2 : (ks.length == ts.length) = true := beq_iff_eq.2 hl
    rw [hl2, Bool.true_and] at hsh
    have HL : Hid (ks.length = ts.length) := hl
    clear hl hl2
    go_enter Tryz.func198, Tryz.ntmps198
    go_wp2_with fail
    refine (rising_any B ka kc ks _ (hky.below (by exact ((Below.refl _ w).alloc hB _).alloc (by simp; omega) _)) hs2 hs3 (hT.below (by exact ((Below.refl _ w).alloc (Nat.le_refl _) _).alloc (by simp) _))).mono ?_
    rintro e w1 ⟨rfl, hb1⟩
    have hB1 : Below w.heap.size w w1 := (two_alloc (v := .string s) hb1 rfl).1
    cases hr : risingB ks with
    | false =>
      have HS : Hid (shapedB (.mk k b n s ks ts) = false) := by unfold Hid; rw [hsh, hr]; rfl
      clear hr hsh hb1
      go_wp2_with fail
      go_ret
      exact ⟨by rw [HS.out]; rfl, hB1⟩
    | true =>
      rw [hr, Bool.true_and] at hsh
      obtain ⟨c0, c1, c2, c3, c4, c5, f4, f5, hz⟩ := rest_cells hb1
      have cs : w1.cell? ⟨w.heap.size, 3, none⟩ = some (.string s) := (two_alloc (v := .string s) hb1 rfl).2
      clear hr hb1
      go_wp2_with fail
      refine (blank_any _ _ _ _ _ _ _ _ _ _ _).mono ?_
      rintro e w2 ⟨rfl, hb2⟩
      have hB2 : Below w.heap.size w w2 := ((hB1.setCell (p := ⟨w.heap.size + 1, 4, none⟩) (by show _ ≤ w.heap.size + 1; omega) _).setCell (p := ⟨w.heap.size + 1, 5, none⟩) (by show _ ≤ w.heap.size + 1; omega) _).trans (hb2.mono (by simp [World.setCell]; omega))
      have cs2 : w2.cell? ⟨w.heap.size, 3, none⟩ = some (.string s) := by
        rw [hb2.cell (p := ⟨w.heap.size, 3, none⟩) (by simp [World.setCell]; omega)]
        rw [World.cell?_of_block (Below.heap_setCell _ _ _ _ (by show w.heap.size ≠ w.heap.size + 1; omega)), World.cell?_of_block (Below.heap_setCell _ _ _ _ (by show w.heap.size ≠ w.heap.size + 1; omega))]
        exact cs
      clear hb2 c0 c1 c2 c3 c4 c5 f4 f5 cs
      have hT2 := hT.below hB2
      cases hbl : blankB b n s 0 0 with
      | false =>
        have HS : Hid (shapedB (.mk k b n s ks ts) = false) := by unfold Hid; rw [hsh, hbl]; rfl
        clear hbl hsh
        go_wp2_with fail
        go_ret
        exact ⟨by rw [HS.out]; rfl, hB2⟩
      | true =>
        have HS : Hid (shapedB (.mk k b n s ks ts) = Lib.validD s.data.toList) := by unfold Hid; rw [hsh, hbl]; rfl
        clear hbl hsh
        go_wp2_with fail
        refine (vvalid_any _ _ hs1 hT2).mono ?_
        rintro e w3 ⟨rfl, hb3⟩
        go_wp2_with fail
        go_ret
        exact ⟨by rw [HS.out]; rfl, hB2.trans (hb3.mono hB2.size)⟩
  · have hn : ((ks.length : Int) != (ts.length : Int)) = true := by rw [bne_iff_ne]; omega
    have hl2 : (ks.length == ts.length) = false := beq_eq_false_iff_ne.2 hl
    have HS : Hid (shapedB (.mk k b n s ks ts) = false) := by unfold Hid; rw [hsh, hl2]; rfl
    clear hl hl2 hsh
    go_enter Tryz.func198, Tryz.ntmps198
    go_wp2_with fail
    go_ret
    exact ⟨by rw [HS.out]; rfl, ((Below.refl _ w).alloc (Nat.le_refl _) _).alloc (by simp) _⟩
set_option maxHeartbeats 1000000 in
theorem shaped_none (k : Int) (b : Bool) (n : Int) (s : ByteArray) (ka : Option Addr) (kc : Nat) (la : Option Addr) (lc : Nat) (ks : List ByteArray) (ts : List Tree) (w : World)
    (h0 : k ≠ 0) (h1 : k ≠ 1) (h2 : k ≠ 2) (h3 : k ≠ 3) (h4 : k ≠ 4) (h5 : k ≠ 5) (h6 : k ≠ 6) (h7 : k ≠ 7) :
    Calls Tryz.prog 198 #[.agg #[.int .i64 k, .bool b, .int .i64 n, .string s, .slice ka ks.length kc, .slice la ts.length lc]] w fun e w' => e = .returned (.bool (shapedB (.mk k b n s ks ts))) ∧ Below w.heap.size w w' := by
  have HS : Hid (shapedB (.mk k b n s ks ts) = false) := by
    unfold Hid
    simp [shapedB, h0, h1, h2, h3, h4, h5, h6, h7]
  have e0 := ne_bool h0
  have e1 := ne_bool h1
  have e2 := ne_bool h2
  have e3 := ne_bool h3
  have e4 := ne_bool h4
  have e5 := ne_bool h5
  have e6 := ne_bool h6
  have e7 := ne_bool h7
  clear h0 h1 h2 h3 h4 h5 h6 h7
  go_enter Tryz.func198, Tryz.ntmps198
  go_wp2_with fail
  go_ret
  exact ⟨by rw [HS.out]; rfl, ((Below.refl _ w).alloc (Nat.le_refl _) _).alloc (by simp) _⟩
theorem shaped_any (B : Nat) (v : Value) (T : Tree) (w : World) (hB : B ≤ w.heap.size) (hv : Lies B w v T) (hT : Tabs w) :
    Calls Tryz.prog 198 #[v] w fun e w' => e = .returned (.bool (shapedB T)) ∧ Below w.heap.size w w' := by
  obtain ⟨k, b, n, s, ks, ts⟩ := T
  simp only [Lies] at hv
  obtain ⟨ka, kc, la, lc, rfl, ⟨hs1, hs2, hs3, hs4, hs5⟩, hk, ht⟩ := hv
  by_cases h0 : k = 0
  · exact shaped_0 _ _ _ _ _ _ _ _ _ _ _ hs1 hT h0
  by_cases h1 : k = 1
  · exact shaped_1 _ _ _ _ _ _ _ _ _ _ _ hs1 hT h1
  by_cases h2 : k = 2
  · exact shaped_2 _ _ _ _ _ _ _ _ _ _ _ hs1 hT h2
  by_cases h3 : k = 3
  · exact shaped_3 _ _ _ _ _ _ _ _ _ _ _ hs1 hT h3
  by_cases h4 : k = 4
  · exact shaped_4 _ _ _ _ _ _ _ _ _ _ _ hs1 hT h4
  by_cases h5 : k = 5
  · exact shaped_5 B _ _ _ _ _ _ _ _ _ _ _ hs1 hs2 hs3 hB hk hT h5
  by_cases h6 : k = 6
  · exact shaped_6 _ _ _ _ _ _ _ _ _ _ _ hs1 hT h6
  by_cases h7 : k = 7
  · exact shaped_7 _ _ _ _ _ _ _ _ _ _ _ hs1 hT h7
  exact shaped_none _ _ _ _ _ _ _ _ _ _ _ h0 h1 h2 h3 h4 h5 h6 h7
end Go.Proofs.YthfilnflgahcjaaGreatDoor

namespace Go.Proofs.YthfilnflgahcjaaGreatDoor
open Go.RowKit Go.Shelf
set_option linter.unusedVariables false
set_option maxRecDepth 100000 in
theorem under20 : ∃ ms, Tryz.prog.underlying 20 = some (.interface ms) := ⟨_, Tryz.underlying20⟩
set_option maxRecDepth 100000 in
theorem comp41 : (Tryz.prog.info? 34).map (·.comparable) = some true := by kernel_rfl
set_option maxRecDepth 100000 in
theorem eq_long (w : World) : (binOp .eql 20 (.iface 34 (.int .i64 3)) (.iface 34 (.int .i64 3))).run Tryz.prog w = .ok (.bool true) w := by
  obtain ⟨ms, h20⟩ := under20
  have h41 : ∃ i, Tryz.prog.info? 34 = some i ∧ i.comparable = true := by
    have := comp41
    cases h : Tryz.prog.info? 34 with
    | none => rw [h] at this; cases this
    | some i => rw [h] at this; exact ⟨i, rfl, by simpa using this⟩
  obtain ⟨i, hi, hc⟩ := h41
  have h : ∀ d : Nat, (Op.equalIn (d + 2) 20 (.iface 34 (.int .i64 3)) (.iface 34 (.int .i64 3))).run Tryz.prog w = .ok true w := fun d => by
    simp [Op.equalIn, run_underlying h20, run_underlying Tryz.underlying34, typeInfo, hi, hc]
  simp only [binOp]
  simp [Op.equal, Op.maxDepth, h 9998]
set_option maxRecDepth 100000 in
set_option maxHeartbeats 1000000 in
theorem catch_long (n : Nat) (p : Addr) (z : Int) (w : World) (hc : w.cell? p = some (.int .i64 z)) (hz : w.frozen? p = false) :
    CallsDIn Fence.wide n Tryz.prog 199 #[.pointer (some p)] (.panicking [{ v := .iface 34 (.int .i64 3), recovered := false }]) w fun e u' w' =>
      e = .returned (.tuple #[]) ∧ u' = .panicking [{ v := .iface 34 (.int .i64 3), recovered := true }] ∧ w' = w.setCell p (.int .i64 3) := by
  have he := eq_long w
  refine callsDIn_of_wpSIn Tryz.func199 rfl trivial fun c₀ cs hu => ?_
  apply wpSIn_seq
  apply wpSIn_region
  simp [wpOpsSIn, go_sem, recoverD, hu, Tryz.ntmps199, Exit.thenS, Oper.about, Fence.wide, Array.replicate_succ]
  refine wpSIn_of_wpIn rfl ?_
  gi_wp2
  exact ⟨rfl, _, rfl, _, (by simp [results, Tryz.results199]), rfl, rfl, rfl⟩
set_option maxRecDepth 100000 in
set_option maxHeartbeats 1000000 in
theorem catch_idle (n : Nat) (p : Addr) (w : World) :
    CallsDIn Fence.wide n Tryz.prog 199 #[.pointer (some p)] .returning w fun e u' w' => e = .returned (.tuple #[]) ∧ u' = .returning ∧ w' = w := by
  have he := run_eql_iface_nil_left (P := Tryz.prog) w 34 (.int .i64 3) Tryz.underlying20
  have hne := run_neq_nil_nil (P := Tryz.prog) w 20 (by kernel_rfl)
  refine callsDIn_of_wpSIn Tryz.func199 rfl trivial fun c₀ cs hu => ?_
  apply wpSIn_seq
  apply wpSIn_region
  simp [wpOpsSIn, go_sem, recoverD, hu, Tryz.ntmps199, Exit.thenS, Oper.about, Fence.wide, Array.replicate_succ]
  refine wpSIn_of_wpIn rfl ?_
  gi_wp2
  cases c₀
  simp only at hu
  subst hu
  exact ⟨rfl, _, rfl, _, (by simp [results, Tryz.results199]), rfl, rfl, rfl⟩
end Go.Proofs.YthfilnflgahcjaaGreatDoor

namespace Go.Proofs.YthfilnflgahcjaaGreatDoor
open Go.RowKit Go.Shelf
set_option linter.unusedVariables false
attribute [local go_sem] Oper.semAt_some
theorem in_wide {F : Fence} {n : Nat} {P : Program} {f : FuncId} {args : Array Value} {w : World} {R : Ending → World → Prop} (hF : F = Fence.wide) (h : Calls P f args w R) : CallsIn F n P f args w R := by
  rw [hF]; exact callsIn_wide.2 h
/-- What Check answers: its number. -/
def checkN (T : Tree) : Int := if (T.pre 1).all (fun x => shapedB x.2) = true then (if heavy 0 (T.pre 1) = true then 3 else 0) else 110
theorem weigh_calls (v : Value) (T : Tree) (w : World) (hv : Lies w.heap.size w v T) (hh : T.height < 100000000) (hb : bytesOf (T.pre 1) < 4611686018427387904) :
    Calls Tryz.prog 200 #[v] w fun e w' => Below w.heap.size w w' ∧ ((heavy 0 (T.pre 1) = false ∧ ∃ x, e = .returned x) ∨ (heavy 0 (T.pre 1) = true ∧ e = .panicked [{ v := .iface 34 (.int .i64 3), recovered := false }])) := by
  refine CallsIn.calls (F := Fence.list [200, 197, 234, 235] none) (n := 0) ?_ ?_
  · refine weigh_any rfl rfl (by simp [Fence.list]) (by simp [Fence.list]) (by simp [Fence.list]) (by simp [Fence.list]) ?_ 0 v T w hv hh hb
    intro f hf
    simp only [Fence.list, List.mem_cons, List.not_mem_nil, or_false] at hf
    rcases hf with rfl | rfl | rfl | rfl
    · exact ⟨_, Tryz.func200⟩
    · exact ⟨_, Tryz.func197⟩
    · exact ⟨_, Tryz.func234⟩
    · exact ⟨_, Tryz.func235⟩
  · exact room_of_none rfl
set_option maxRecDepth 100000 in
set_option maxHeartbeats 1000000 in
theorem check_any (v : Value) (T : Tree) (w : World) (hv : Lies w.heap.size w v T) (hT : Tabs w) (hh : T.height < 100000000) (hb : bytesOf (T.pre 1) < 4611686018427387904) :
    Calls Tryz.prog 151 #[v] w fun e w' => e = .returned (.int .i64 (checkN T)) ∧ Below w.heap.size w w' := by
  refine (callsIn_wide (n := 0)).1 ?_
  obtain ⟨F, hF⟩ : ∃ F, F = Fence.wide := ⟨_, rfl⟩
  rw [← hF]
  have hd : F.depth = none := by rw [hF]; rfl
  have hro : F.round = none := by rw [hF]; rfl
  have hfn : ∀ f, F.fn f := by rw [hF]; exact fun _ => trivial
  have HF : Hid (F = Fence.wide) := hF
  clear hF
  obtain ⟨k, b, n, s, ks, ts⟩ := T
  have hv0 := hv
  simp only [Lies] at hv
  obtain ⟨ka, kc, la, lc, rfl, ⟨hs1, hs2, hs3, hs4, hs5⟩, hk, ht⟩ := hv
  refine callsIn_of_wp_marks Tryz.func151 rfl (hfn _) ?_ hro
  simp only [Tryz.ntmps151, List.size_toArray, List.length_cons, List.length_nil, Nat.reduceAdd, Nat.reduceSub, Array.replicate_succ, Array.replicate_zero, List.push_toArray, List.append_toArray, List.nil_append, List.cons_append]
  gi_wp2_with (gi_at_call 197; refine (within_any (hfn _) hro _ _ _ _ _ _ _ _ _ _ _ _).mono ?_; rintro e w' ⟨rfl, rfl⟩)
  refine range_wp hro hd (gf := 234) (lb := #[.pointer (some ⟨w.heap.size + 1 + 1, 0, none⟩)]) rfl (hfn _) (enters_of Tryz.func234 (by kernel_rfl) rfl) ?_
  intro fn hfn0
  generalize hrec : Loop.mk _ _ _ _ _ _ _ _ = rec
  simp only [World.size_alloc]
  generalize hW0 : World.alloc _ (Obj.loop rec) = W0
  have hsz : W0.heap.size = w.heap.size + 5 := by rw [← hW0]; simp
  have b0 : W0.heap[w.heap.size]? = some (.cells #[.int .i64 k, .bool b, .int .i64 n, .string s, .slice ka ks.length kc, .slice la ts.length lc] 88 (0, 0)) := by rw [← hW0]; simp only [heap_alloc_at, World.size_alloc]; repeat (first | rw [if_pos trivial] | rw [if_pos (by omega)] | rw [if_neg (by omega)])
  have b1 : W0.heap[w.heap.size + 1]? = some (.cells #[.int .i64 0] 34 (0, 0)) := by rw [← hW0]; simp only [heap_alloc_at, World.size_alloc]; repeat (first | rw [if_pos trivial] | rw [if_pos (by omega)] | rw [if_neg (by omega)])
  have b2 : W0.heap[w.heap.size + 2]? = some (.cells #[.int .i64 k, .bool b, .int .i64 n, .string s, .slice ka ks.length kc, .slice la ts.length lc] 88 (0, 0)) := by rw [← hW0]; simp only [heap_alloc_at, World.size_alloc]; repeat (first | rw [if_pos trivial] | rw [if_pos (by omega)] | rw [if_neg (by omega)])
  have b3 : W0.heap[w.heap.size + 3]? = some (.deferred (some [])) := by rw [← hW0]; simp only [heap_alloc_at, World.size_alloc]; repeat (first | rw [if_pos trivial] | rw [if_pos (by omega)] | rw [if_neg (by omega)])
  have b4 : W0.heap[w.heap.size + 4]? = some (.loop rec) := by rw [← hW0]; simp only [heap_alloc_at, World.size_alloc]; repeat (first | rw [if_pos trivial] | rw [if_pos (by omega)] | rw [if_neg (by omega)])
  have hbl : Below w.heap.size w W0 := by
    rw [← hW0]; exact (((((Below.refl _ w).alloc (Nat.le_refl _) _).alloc (by simp) _).alloc (by simp; omega) _).alloc (by simp; omega) _).alloc (by simp; omega) _
  clear hW0
  have R : Rounds F (w.heap.size + 4) w.heap.size (w.heap.size + 5) w ((Tree.mk k b n s ks ts).pre 1)
      (fun pre W => W.heap[w.heap.size + 4]? = some (.loop rec) ∧ W.heap[w.heap.size + 3]? = some (.deferred (some [])) ∧ W.heap[w.heap.size + 1]? = some (.cells #[.int .i64 0] 34 (0, 0)) ∧
        W.heap[w.heap.size]? = some (.cells #[.int .i64 k, .bool b, .int .i64 n, .string s, .slice ka ks.length kc, .slice la ts.length lc] 88 (0, 0)) ∧
        Below w.heap.size w W ∧ w.heap.size + 5 ≤ W.heap.size ∧ pre.all (fun x => shapedB x.2) = true)
      (fun W => W.heap[w.heap.size + 4]? = some (.loop (asDone rec .ret)) ∧ W.heap[w.heap.size + 3]? = some (.deferred (some [])) ∧ W.heap[w.heap.size + 1]? = some (.cells #[.int .i64 110] 34 (0, 0)) ∧
        Below w.heap.size w W ∧ w.heap.size + 5 ≤ W.heap.size ∧ ((Tree.mk k b n s ks ts).pre 1).all (fun x => shapedB x.2) = false)
      (fun _ _ => False) := by
    refine ⟨?_, ?_, ?_⟩
    · rintro pre W ⟨_, _, _, _, h4, h5, _⟩
      exact ⟨h4, by omega, h5⟩
    · rintro pre W W' ⟨h1, h2, h3, h3', h4, h5, h6⟩ hb
      exact ⟨(hb.block _ (by omega)).trans h1, (hb.block _ (by omega)).trans h2, (hb.block _ (by omega)).trans h3, (hb.block _ (by omega)).trans h3', h4.trans (hb.mono (by omega)), by have := hb.size; omega, h6⟩
    · rintro m' pre d ⟨k', b', n', s', ks', us⟩ v W ⟨h1, h2, h3, h3', h4, h5, h6⟩ hlv hpre
      have hlv0 := hlv
      simp only [Lies] at hlv
      obtain ⟨ka', kc', la', lc', rfl, ⟨g1, g2, g3, g4, g5⟩, hk', ht'⟩ := hlv
      have ea := congrArg Loop.assign hrec
      have eb := congrArg Loop.body hrec
      have et := congrArg Loop.tmps hrec
      have ep := congrArg Loop.params hrec
      have es := congrArg Loop.state hrec
      have ef := congrArg Loop.fn hrec
      have hr0 : asReady rec = rec := by rw [← hrec]; rfl
      dsimp only at ea eb et ep es ef
      clear hrec
      refine yield_round (hfn _) ea eb et ep h1 es.symm (by rw [← ep]; rfl) ?_
      clear ea eb et ep es
      gi_wp2_with fail
      refine ⟨(Below.heap_alloc _ _ _ (by omega)).trans h1, ?_⟩
      generalize hW2 : World.putObj _ _ _ = W2
      have a1 : W2.heap[w.heap.size + 4]? = some (.loop (asBusy rec)) := by rw [← hW2]; refine World.putObj_heap_same ?_; simp; omega
      have a2 : Boxed W2 (w.heap.size + 1) 34 (.int .i64 0) := by rw [← hW2]; show _ = _; rw [World.putObj_heap_other (by omega), Below.heap_alloc _ _ _ (by omega)]; exact h3
      have a0 : W2.heap[w.heap.size]? = some (.cells #[.int .i64 k, .bool b, .int .i64 n, .string s, .slice ka ks.length kc, .slice la ts.length lc] 88 (0, 0)) := by rw [← hW2, World.putObj_heap_other (by omega), Below.heap_alloc _ _ _ (by omega)]; exact h3'
      have a3 : W2.heap[w.heap.size + 3]? = some (.deferred (some [])) := by rw [← hW2, World.putObj_heap_other (by omega), Below.heap_alloc _ _ _ (by omega)]; exact h2
      have a4 : W2.heap[W.heap.size]? = some (.cells #[.int .i64 k', .bool b', .int .i64 n', .string s', .slice ka' ks'.length kc', .slice la' us.length lc'] 88 (0, 0)) := by
        rw [← hW2]; exact (World.putObj_heap_other (by omega)).trans (World.alloc_heap_new _ _)
      have a5 : Below w.heap.size w W2 := by rw [← hW2]; exact (But.putObj _ _).below ((h4.alloc (by omega) _)) (by omega)
      have a6 : W2.heap.size = W.heap.size + 1 := by rw [← hW2]; simp
      have a7 : Above (w.heap.size + 5) W W2 := ⟨by omega, fun i hi hl => by rw [← hW2]; exact (World.putObj_heap_other (by omega)).trans (Below.heap_alloc _ _ _ hl)⟩
      clear hW2 h1 h2 h3 h3'
      have x0 : W2.cell? ⟨W.heap.size, 0, none⟩ = some (.int .i64 k') := by unfold World.cell?; simp only [a4]; rfl
      have x1 : W2.cell? ⟨W.heap.size, 1, none⟩ = some (.bool b') := by unfold World.cell?; simp only [a4]; rfl
      have x2 : W2.cell? ⟨W.heap.size, 2, none⟩ = some (.int .i64 n') := by unfold World.cell?; simp only [a4]; rfl
      have x3 : W2.cell? ⟨W.heap.size, 3, none⟩ = some (.string s') := by unfold World.cell?; simp only [a4]; rfl
      have x4 : W2.cell? ⟨W.heap.size, 4, none⟩ = some (.slice ka' ks'.length kc') := by unfold World.cell?; simp only [a4]; rfl
      have x5 : W2.cell? ⟨W.heap.size, 5, none⟩ = some (.slice la' us.length lc') := by unfold World.cell?; simp only [a4]; rfl
      have hsp := shaped_any w.heap.size _ _ W2 (by have := a5.size; omega) (hlv0.below a5) (hT.below a5)
      gi_wp2_with fail
      refine (CallsIn.inRound _ (in_wide HF.out hsp)).mono ?_
      rintro e W3 ⟨rfl, hb3⟩
      have c1 : W3.heap[w.heap.size + 4]? = some (.loop (asBusy rec)) := (hb3.block _ (by omega)).trans a1
      have c2 : Boxed W3 (w.heap.size + 1) 34 (.int .i64 0) := (hb3.block _ (by omega)).trans a2
      have c3 : W3.heap[w.heap.size + 3]? = some (.deferred (some [])) := (hb3.block _ (by omega)).trans a3
      have c0 : W3.heap[w.heap.size]? = some (.cells #[.int .i64 k, .bool b, .int .i64 n, .string s, .slice ka ks.length kc, .slice la ts.length lc] 88 (0, 0)) := (hb3.block _ (by omega)).trans a0
      have c5 : Below w.heap.size w W3 := a5.trans (hb3.mono (by omega))
      have c7 : Above (w.heap.size + 5) W W3 := a7.trans (Above.of_below hb3 (Nat.le_refl _))
      have hz3 := hb3.size
      have cb := c2.cell
      have fb := c2.frozen
      clear hsp hb3 a0 a1 a2 a3 a4 a5 a7 x0 x1 x2 x3 x4 x5
      cases hsh : shapedB (.mk k' b' n' s' ks' us) with
      | true =>
        have HJ : Hid ((pre ++ [(d, Tree.mk k' b' n' s' ks' us)]).all (fun x => shapedB x.2) = true) := by show _ = _; rw [List.all_append, h6]; simp [hsh]
        clear hsh h6
        gi_wp2_with fail
        refine ⟨c1, .inl ⟨rfl, ⟨?_, ?_, ?_, ?_, ?_, ?_, HJ.out⟩, ?_⟩⟩
        · rw [hr0]; exact World.putObj_heap_same (by omega)
        · rw [World.putObj_heap_other (by omega)]; exact c3
        · rw [World.putObj_heap_other (by omega)]; exact c2
        · rw [World.putObj_heap_other (by omega)]; exact c0
        · exact (But.putObj _ _).below c5 (by omega)
        · rw [World.putObj_size]; omega
        · refine c7.trans ⟨by rw [World.putObj_size]; omega, fun i hi hl => ?_⟩
          rw [World.putObj_heap_other (by omega)]
      | false =>
        have HJ : Hid (((Tree.mk k b n s ks ts).pre 1).all (fun x => shapedB x.2) = false) := by
          obtain ⟨r, hr⟩ := hpre
          show _ = _
          rw [← hr, List.all_append, List.all_append]; simp [hsh]
        clear hsh h6
        gi_wp2_with fail
        have e4 : (W3.setCell ⟨w.heap.size + 1, 0, none⟩ (.int .i64 110)).heap[w.heap.size + 4]? = some (.loop (asBusy rec)) := (Below.heap_setCell _ _ _ _ (by show w.heap.size + 4 ≠ w.heap.size + 1; omega)).trans c1
        have hsz4 : (W3.setCell ⟨w.heap.size + 1, 0, none⟩ (.int .i64 110)).heap.size = W3.heap.size := by simp [World.setCell]
        refine ⟨e4, .inr (.inl ⟨rfl, ?_, ?_, ?_, ?_, ?_, HJ.out⟩)⟩
        · exact World.putObj_heap_same (by omega)
        · rw [World.putObj_heap_other (by omega)]; exact (Below.heap_setCell _ _ _ _ (by show w.heap.size + 3 ≠ w.heap.size + 1; omega)).trans c3
        · rw [World.putObj_heap_other (by omega)]; exact c2.set _
        · exact (But.putObj _ _).below (c5.setCell (p := ⟨w.heap.size + 1, 0, none⟩) (by show _ ≤ w.heap.size + 1; omega) _) (by omega)
        · rw [World.putObj_size]; omega
  have hco : ∀ (i : Nat) (v : Value), (#[Value.int .i64 k, .bool b, .int .i64 n, .string s, .slice ka ks.length kc, .slice la ts.length lc] : Array Value)[i]? = some v → ∀ (W : World) (bx : Nat), W.heap[bx]? = some (.cells #[.int .i64 k, .bool b, .int .i64 n, .string s, .slice ka ks.length kc, .slice la ts.length lc] 88 (0, 0)) → W.cell? ⟨bx, i, none⟩ = some v := by
    intro i v hi W bx hbx; unfold World.cell?; simp only [hbx]; simpa using hi
  refine (within1_any hd (hfn _) (hfn _) hro R _ (w.heap.size + 1 + 1) W0 hv0 ⟨b4, b3, b1, b0, hbl, by omega, rfl⟩ (by simp only [Tree.height] at hh; omega)
    (hco 0 _ rfl _ _ b2) (hco 1 _ rfl _ _ b2) (hco 2 _ rfl _ _ b2) (hco 3 _ rfl _ _ b2) (hco 4 _ rfl _ _ b2) (hco 5 _ rfl _ _ b2)).mono ?_
  rintro e W' (⟨⟨x, rfl⟩, ⟨h1, h2, h3, h3', h4, h5, h6⟩ | ⟨h1, h2, h3, h4, h5, h6⟩⟩ | ⟨ch, _, hx⟩)
  · have hp : rec.pending = none := by rw [← hrec]
    have hst : rec.state ≠ .busy := by rw [← hrec]; simp
    clear hrec R b0 b1 b2 b3 b4 hbl hsz
    refine ⟨rec, h1, hst, ?_⟩
    simp only [hp]
    generalize hW4 : World.putObj _ _ _ = W4
    have d1 : Boxed W4 (w.heap.size + 1) 34 (.int .i64 0) := by rw [← hW4]; show _ = _; rw [World.putObj_heap_other (by omega)]; exact h3
    have d0 : W4.heap[w.heap.size]? = some (.cells #[.int .i64 k, .bool b, .int .i64 n, .string s, .slice ka ks.length kc, .slice la ts.length lc] 88 (0, 0)) := by rw [← hW4, World.putObj_heap_other (by omega)]; exact h3'
    have d3 : W4.heap[w.heap.size + 3]? = some (.deferred (some [])) := by rw [← hW4, World.putObj_heap_other (by omega)]; exact h2
    have d4 : Below w.heap.size w W4 := by rw [← hW4]; exact (But.putObj _ _).below h4 (by omega)
    have d5 : w.heap.size + 5 ≤ W4.heap.size := by rw [← hW4, World.putObj_size]; exact h5
    clear hW4 h1 h2 h3 h3' h4 h5 hst hp
    have x0 := hco 0 _ rfl _ _ d0
    have x1 := hco 1 _ rfl _ _ d0
    have x2 := hco 2 _ rfl _ _ d0
    have x3 := hco 3 _ rfl _ _ d0
    have x4 := hco 4 _ rfl _ _ d0
    have x5 := hco 5 _ rfl _ _ d0
    clear hco
    have hwe := weigh_calls _ _ W4 ((hv0.below d4).mono (by omega)) hh hb
    gi_wp2_with fail
    refine (in_wide HF.out hwe).mono ?_
    clear hwe x0 x1 x2 x3 x4 x5 d0
    rintro e W5 ⟨hb5, ⟨hh0, x, rfl⟩ | ⟨hh1, rfl⟩⟩
    · have f1 : Boxed W5 (w.heap.size + 1) 34 (.int .i64 0) := (hb5.block _ (by omega)).trans d1
      have f3 : W5.heap[w.heap.size + 3]? = some (.deferred (some [])) := (hb5.block _ (by omega)).trans d3
      have f4 : Below w.heap.size w W5 := d4.trans (hb5.mono (by omega))
      have f5 := hb5.size
      have cb := f1.cell
      have fb := f1.frozen
      have HN : Hid (checkN (.mk k b n s ks ts) = 0) := by show _ = _; unfold checkN; rw [if_pos h6, if_neg (by rw [hh0]; simp)]
      clear d1 d3 d4 hb5 hh0 h6
      gi_wp2_with fail
      have hq3 : (W5.setCell ⟨w.heap.size + 1, 0, none⟩ (.int .i64 0)).heap[w.heap.size + 3]? = some (.deferred (some [])) := (Below.heap_setCell _ _ _ _ (by show w.heap.size + 3 ≠ w.heap.size + 1; omega)).trans f3
      have hq4 : Below w.heap.size w (W5.setCell ⟨w.heap.size + 1, 0, none⟩ (.int .i64 0)) := f4.setCell (p := ⟨w.heap.size + 1, 0, none⟩) (by show _ ≤ w.heap.size + 1; omega) _
      have hq1 : Boxed (W5.setCell ⟨w.heap.size + 1, 0, none⟩ (.int .i64 0)) (w.heap.size + 1) 34 (.int .i64 0) := f1.set _
      show LeavesInM _ _ _ _ _ _ [_, _] _ _
      refine ⟨by simp, .inr ⟨depth_none hd _, _, _, 199, #[.pointer (some ⟨w.heap.size + 1, 0, none⟩)], rfl, by simp [invoke, go_sem], fun g _ => hfn g, ?_⟩⟩
      rw [HF.out]
      refine (catch_idle _ _ _).mono ?_
      rintro e u' w'' ⟨rfl, rfl, rfl⟩
      show LeavesInM _ _ _ _ _ _ [_] .returning _
      refine ⟨by simp, .inl ⟨_, _, rfl, run_takeDeferred hq3, ?_⟩⟩
      have hq5 : Boxed ((W5.setCell ⟨w.heap.size + 1, 0, none⟩ (.int .i64 0)).putObj (w.heap.size + 3) (.deferred none)) (w.heap.size + 1) 34 (.int .i64 0) := (World.putObj_heap_other (by omega)).trans hq1
      refine ⟨.int .i64 0, ?_, by rw [HN.out], (But.putObj _ _).below hq4 (by omega)⟩
      have hq6 := hq5.cell
      simp [results, Tryz.results151, go_sem, hq6]
    · have f1 : Boxed W5 (w.heap.size + 1) 34 (.int .i64 0) := (hb5.block _ (by omega)).trans d1
      have f3 : W5.heap[w.heap.size + 3]? = some (.deferred (some [])) := (hb5.block _ (by omega)).trans d3
      have f4 : Below w.heap.size w W5 := d4.trans (hb5.mono (by omega))
      have f5 := hb5.size
      have HN : Hid (checkN (.mk k b n s ks ts) = 3) := by show _ = _; unfold checkN; rw [if_pos h6, if_pos hh1]
      have hq3 : (W5.setCell ⟨w.heap.size + 1, 0, none⟩ (.int .i64 3)).heap[w.heap.size + 3]? = some (.deferred (some [])) := (Below.heap_setCell _ _ _ _ (by show w.heap.size + 3 ≠ w.heap.size + 1; omega)).trans f3
      have hq4 : Below w.heap.size w (W5.setCell ⟨w.heap.size + 1, 0, none⟩ (.int .i64 3)) := f4.setCell (p := ⟨w.heap.size + 1, 0, none⟩) (by show _ ≤ w.heap.size + 1; omega) _
      have hq1 : Boxed (W5.setCell ⟨w.heap.size + 1, 0, none⟩ (.int .i64 3)) (w.heap.size + 1) 34 (.int .i64 3) := f1.set _
      show LeavesInM _ _ _ _ _ _ [_, _] _ _
      refine ⟨by simp, .inr ⟨depth_none hd _, _, _, 199, #[.pointer (some ⟨w.heap.size + 1, 0, none⟩)], rfl, by simp [invoke, go_sem], fun g _ => hfn g, ?_⟩⟩
      rw [HF.out]
      refine (catch_long _ _ 0 _ f1.cell f1.frozen).mono ?_
      rintro e u' w'' ⟨rfl, rfl, rfl⟩
      show LeavesInM _ _ _ _ _ _ [_] .returning _
      refine ⟨by simp, .inl ⟨_, _, rfl, run_takeDeferred hq3, ?_⟩⟩
      have hq5 : Boxed ((W5.setCell ⟨w.heap.size + 1, 0, none⟩ (.int .i64 3)).putObj (w.heap.size + 3) (.deferred none)) (w.heap.size + 1) 34 (.int .i64 3) := (World.putObj_heap_other (by omega)).trans hq1
      refine ⟨.int .i64 3, ?_, by rw [HN.out], (But.putObj _ _).below hq4 (by omega)⟩
      have hq6 := hq5.cell
      simp [results, Tryz.results151, go_sem, hq6]
  · have HN : Hid (checkN (.mk k b n s ks ts) = 110) := by show _ = _; unfold checkN; rw [if_neg (by rw [h6]; simp)]
    refine ⟨asDone rec .ret, h1, by simp [asDone], ?_⟩
    simp only [asDone]
    clear hrec R b0 b1 b2 b3 b4 hbl hsz hco
    generalize hW4 : World.putObj _ _ _ = W4
    have d1 : Boxed W4 (w.heap.size + 1) 34 (.int .i64 110) := by rw [← hW4]; show _ = _; rw [World.putObj_heap_other (by omega)]; exact h3
    have d3 : W4.heap[w.heap.size + 3]? = some (.deferred (some [])) := by rw [← hW4, World.putObj_heap_other (by omega)]; exact h2
    have d4 : Below w.heap.size w W4 := by rw [← hW4]; exact (But.putObj _ _).below h4 (by omega)
    clear hW4 h1 h2 h3 h4 h6
    gi_wp2_with fail
    show LeavesInM _ _ _ _ _ _ [_] .returning _
    refine ⟨by simp, .inl ⟨_, _, rfl, run_takeDeferred d3, ?_⟩⟩
    have hq5 : Boxed (W4.putObj (w.heap.size + 3) (.deferred none)) (w.heap.size + 1) 34 (.int .i64 110) := (World.putObj_heap_other (by omega)).trans d1
    refine ⟨.int .i64 110, ?_, by rw [HN.out], (But.putObj _ _).below d4 (by omega)⟩
    have hq6 := hq5.cell
    simp [results, Tryz.results151, go_sem, hq6]
  · exact hx.elim
end Go.Proofs.YthfilnflgahcjaaGreatDoor

