/- What guarded does with a panic: the function that it defers. A step that may give up. -/
import Derived.Test.YtbjcdpenfijfoaaGreatDoorPstep
import Derived.RecoverIn
import Derived.LaidEql
import Derived.WideLaws
namespace Go.Proofs.YtbjcdpenfijfoaaGreatDoor
open Go.RowKit Go.Shelf Go.Lexed
set_option linter.unusedVariables false
set_option maxRecDepth 100000 in
theorem under20 : ∃ ms, Tryz.prog.underlying 20 = some (.interface ms) := ⟨_, Tryz.underlying20⟩
set_option maxRecDepth 100000 in
theorem comp24 : (Tryz.prog.info? 24).map (·.comparable) = some true := by kernel_rfl
set_option maxRecDepth 100000 in
theorem eq_word (w : World) : (binOp .eql 20 (.iface 24 (.int .i64 130)) (.iface 24 (.int .i64 130))).run Tryz.prog w = .ok (.bool true) w := by
  obtain ⟨ms, h20⟩ := under20
  have h41 : ∃ i, Tryz.prog.info? 24 = some i ∧ i.comparable = true := by
    have := comp24
    cases h : Tryz.prog.info? 24 with
    | none => rw [h] at this; cases this
    | some i => rw [h] at this; exact ⟨i, rfl, by simpa using this⟩
  obtain ⟨i, hi, hc⟩ := h41
  have h : ∀ d : Nat, (Op.equalIn (d + 2) 20 (.iface 24 (.int .i64 130)) (.iface 24 (.int .i64 130))).run Tryz.prog w = .ok true w := fun d => by
    simp [Op.equalIn, run_underlying h20, run_underlying Tryz.underlying24, typeInfo, hi, hc]
  simp only [binOp]
  simp [Op.equal, Op.maxDepth, h 9998]
/-- The results of guarded, as they lie: a word, a truth, an error. -/
structure Res (w : World) (g : Nat) (k i n : Int) (t : ByteArray) (b : Bool) (e : Int) : Prop where
  word : Wo w g k i n t
  there : Boxed w (g + 1) 4 (.bool b)
  err : Boxed w (g + 2) 24 (.int .i64 e)
def resSet (w : World) (g : Nat) (k i n : Int) (t : ByteArray) (b : Bool) (e : Int) : World :=
  (((((w.setCell ⟨g, 0, none⟩ (.int .i64 k)).setCell ⟨g, 1, none⟩ (.int .i64 i)).setCell ⟨g, 2, none⟩ (.string t)).setCell ⟨g, 3, none⟩ (.int .u64 n)).setCell ⟨g + 1, 0, none⟩ (.bool b)).setCell ⟨g + 2, 0, none⟩ (.int .i64 e)
theorem boxed_other {W : World} {B B' c : Nat} {t : TypeId} {v u : Value} (h : Boxed W B t v) (hne : B ≠ B') : Boxed (W.setCell ⟨B', c, none⟩ u) B t v := (Below.heap_setCell _ _ _ _ hne).trans h
theorem Res.set {w : World} {g : Nat} {k i n : Int} {t : ByteArray} {b : Bool} {e : Int} (h : Res w g k i n t b e) (k' i' n' : Int) (t' : ByteArray) (b' : Bool) (e' : Int) : Res (resSet w g k' i' n' t' b' e') g k' i' n' t' b' e' := by
  refine ⟨?_, ?_, ?_⟩
  · exact (((((h.word.set0 k').set1 i').set2 t').set3 n').other (by omega)).other (by omega)
  · exact boxed_other ((boxed_other (boxed_other (boxed_other (boxed_other h.there (by omega)) (by omega)) (by omega)) (by omega)).set _) (by omega)
  · exact (boxed_other (boxed_other (boxed_other (boxed_other (boxed_other h.err (by omega)) (by omega)) (by omega)) (by omega)) (by omega)).set _
theorem Fr.resSet {a B : Nat} {w w' : World} (h : Fr a B w w') {g : Nat} (hg : B ≤ g) (k i n : Int) (t : ByteArray) (b : Bool) (e : Int) : Fr a B w (Go.Proofs.YtbjcdpenfijfoaaGreatDoor.resSet w' g k i n t b e) :=
  (((((h.elsewhere hg _).elsewhere hg _).elsewhere hg _).elsewhere hg _).elsewhere (by omega) _).elsewhere (by omega) _
theorem Rd.resSet {w : World} {a : Nat} {s : ByteArray} {k0 b0 : Nat} (h : Rd w a s k0 b0) {g : Nat} (hg : a < g) (k i n : Int) (t : ByteArray) (b : Bool) (e : Int) : Rd (Go.Proofs.YtbjcdpenfijfoaaGreatDoor.resSet w g k i n t b e) a s k0 b0 :=
  (((((h.other (by omega)).other (by omega)).other (by omega)).other (by omega)).other (by omega)).other (by omega)
set_option maxRecDepth 100000 in
set_option maxHeartbeats 2000000 in
theorem catch_word (m : Nat) (g : Nat) (w : World) (k i n : Int) (t : ByteArray) (b : Bool) (e0 : Int) (h : Res w g k i n t b e0) :
    CallsDIn Fence.wide m Tryz.prog 78 #[.pointer (some ⟨g, 0, none⟩), .pointer (some ⟨g + 1, 0, none⟩), .pointer (some ⟨g + 2, 0, none⟩)] (.panicking [{ v := .iface 24 (.int .i64 130), recovered := false }]) w fun e u' w' =>
      e = .returned (.tuple #[]) ∧ u' = .panicking [{ v := .iface 24 (.int .i64 130), recovered := true }] ∧ w' = resSet w g 0 0 0 ⟨#[]⟩ false 130 := by
  have he := eq_word w
  have c0 := h.word.c0
  have c1 := h.word.c1
  have c2 := h.word.c2
  have c3 := h.word.c3
  have z0 := h.word.z 0
  have z1 := h.word.z 1
  have z2 := h.word.z 2
  have z3 := h.word.z 3
  have c4 := h.there.cell
  have z4 := h.there.frozen
  have c5 := h.err.cell
  have z5 := h.err.frozen
  clear h
  refine callsDIn_of_wpSIn Tryz.func78 rfl trivial fun c₀ cs hu => ?_
  apply wpSIn_seq
  apply wpSIn_region
  simp [wpOpsSIn, go_sem, recoverD, hu, Tryz.ntmps78, Exit.thenS, Oper.about, Fence.wide, Array.replicate_succ]
  refine wpSIn_of_wpIn rfl ?_
  gi_wp2
  exact ⟨rfl, _, rfl, _, (by simp [results, Tryz.results78]), rfl, rfl, rfl⟩
set_option maxRecDepth 100000 in
set_option maxHeartbeats 1000000 in
theorem catch_idle (m : Nat) (p0 p1 p2 : Addr) (w : World) :
    CallsDIn Fence.wide m Tryz.prog 78 #[.pointer (some p0), .pointer (some p1), .pointer (some p2)] .returning w fun e u' w' => e = .returned (.tuple #[]) ∧ u' = .returning ∧ w' = w := by
  have he := run_eql_iface_nil_left (P := Tryz.prog) w 24 (.int .i64 130) Tryz.underlying20
  have hne := run_neq_nil_nil (P := Tryz.prog) w 20 (by kernel_rfl)
  refine callsDIn_of_wpSIn Tryz.func78 rfl trivial fun c₀ cs hu => ?_
  apply wpSIn_seq
  apply wpSIn_region
  simp [wpOpsSIn, go_sem, recoverD, hu, Tryz.ntmps78, Exit.thenS, Oper.about, Fence.wide, Array.replicate_succ]
  refine wpSIn_of_wpIn rfl ?_
  gi_wp2
  cases c₀
  simp only at hu
  subst hu
  exact ⟨rfl, _, rfl, _, (by simp [results, Tryz.results78]), rfl, rfl, rfl⟩
end Go.Proofs.YtbjcdpenfijfoaaGreatDoor

namespace Go.Proofs.YtbjcdpenfijfoaaGreatDoor
open Go.RowKit Go.Shelf Go.Lexed
set_option linter.unusedVariables false
set_option linter.unusedSimpArgs false
attribute [local go_sem] Oper.semAt_some
theorem in_wide {F : Fence} {n : Nat} {P : Program} {f : FuncId} {args : Array Value} {w : World} {R : Ending → World → Prop} (hF : F = Fence.wide) (h : Calls P f args w R) : CallsIn F n P f args w R := by
  rw [hF]; exact callsIn_wide.2 h
theorem rd_drew {w : World} {a : Nat} {s : ByteArray} {k b : Nat} (h : Rd w a s k b) : Rd w.drew a s k b := h
/-- What a guarded step answers. -/
def Guarded (a : Nat) (s : ByteArray) (k : Nat) (w : World) (e : Ending) (w' : World) : Prop :=
  ∃ j i : Nat, k ≤ j ∧ j ≤ s.size ∧ i ≤ s.size ∧ Rd w' a s i j ∧ Fr a w.heap.size w w' ∧
    ((e = .returned (.tuple #[noWord, .bool false, .int .i64 0]) ∧ skipB (suf s k) = ([], true)) ∨
     (∃ d : Wd, e = .returned (.tuple #[wordV d j, .bool true, .int .i64 0]) ∧ j < i ∧ d.text.length ≤ 4 * s.size ∧ skipB (suf s k) = (suf s j, true) ∧ j < s.size ∧ wordB Lib.validD (suf s j) = some (d, suf s i)) ∨
     (e = .returned (.tuple #[noWord, .bool false, .int .i64 130]) ∧ (skipB (suf s k) = (suf s j, false) ∨ (skipB (suf s k) = (suf s j, true) ∧ j < s.size ∧ wordB Lib.validD (suf s j) = none))))
set_option maxRecDepth 100000 in
set_option maxHeartbeats 4000000 in
theorem guard_any (a : Nat) (s : ByteArray) (k b : Nat) (w : World) (h : Rd w a s k b) (hk : k ≤ s.size) (hs : s.size ≤ 10000000) (hE : Env w) (h8 : 8 ≤ a) :
    Calls Tryz.prog 51 #[.func (.func 50) #[.pointer (some ⟨a, 0, none⟩)] #[]] w fun e w' => Guarded a s k w e w' := by
  refine (callsIn_wide (n := 0)).1 ?_
  obtain ⟨F, hF⟩ : ∃ F, F = Fence.wide := ⟨_, rfl⟩
  rw [← hF]
  have hd : F.depth = none := by rw [hF]; rfl
  have hro : F.round = none := by rw [hF]; rfl
  have hfn : ∀ f, F.fn f := by rw [hF]; exact fun _ => trivial
  have HF : Hid (F = Fence.wide) := hF
  clear hF
  have ha := h.lt
  refine callsIn_of_wp_marks Tryz.func51 rfl (hfn _) ?_ hro
  simp only [Tryz.ntmps51, List.size_toArray, List.length_cons, List.length_nil, Nat.reduceAdd, Nat.reduceSub, Array.replicate_succ, Array.replicate_zero, List.push_toArray, List.append_toArray, List.nil_append, List.cons_append]
  gi_wp2_with fail
  generalize hW0 : World.alloc _ _ = W0
  have HB0 : Hid (Below w.heap.size w W0) := by rw [← hW0]; exact (((Below.refl _ _).alloc (Nat.le_refl _) _).alloc (by simp) _).alloc (by simp; omega) _
  have HS0 : Hid (Res W0 w.heap.size 0 0 0 ⟨#[]⟩ false 0) := by
    rw [← hW0]
    refine ⟨?_, ?_, ?_⟩
    · show _ = _
      simp only [heap_alloc_at, World.size_alloc]
      repeat (first | rw [if_pos trivial] | rw [if_pos (by omega)] | rw [if_neg (by omega)])
    · show _ = _
      simp only [heap_alloc_at, World.size_alloc]
      repeat (first | rw [if_pos trivial] | rw [if_pos (by omega)] | rw [if_neg (by omega)])
    · show _ = _
      simp only [heap_alloc_at, World.size_alloc]
      repeat (first | rw [if_pos trivial] | rw [if_pos (by omega)] | rw [if_neg (by omega)])
  have hz0 : w.heap.size + 2 < W0.heap.size := by rw [← hW0]; simp
  clear hW0
  refine (in_wide HF.out (step_any a s k b W0 (h.below HB0.out ha) hk hs (hE.below HB0.out hE.room) h8)).mono ?_
  rintro e w1 ⟨j, i, hkj, hj, hi, hr1, hf1, hcase⟩
  have HR1 := hidE hr1
  have HF1 : Hid (Fr a w.heap.size w w1) := (Fr.of_below HB0.out).trans (hf1.mono (by omega))
  have HS1 : Hid (Res w1 w.heap.size 0 0 0 ⟨#[]⟩ false 0) := ⟨HS0.out.word.fr hf1 (by omega) (by omega), (hf1.block _ (by omega) (by omega)).trans HS0.out.there, (hf1.block _ (by omega) (by omega)).trans HS0.out.err⟩
  clear hr1 hf1 HS0 HB0 h hE
  by_cases hgu : e = gaveUp
  · subst hgu
    have HG : Hid (∀ w', Rd w' a s i j → Fr a w.heap.size w w' → Guarded a s k w (.returned (.tuple #[noWord, .bool false, .int .i64 130])) w') := fun w' h1 h2 => by
      refine ⟨j, i, hkj, hj, hi, h1, h2, .inr (.inr ⟨rfl, ?_⟩)⟩
      rcases hcase with ⟨e, _⟩ | ⟨d, e, _⟩ | ⟨_, hb⟩
      · cases e
      · cases e
      · exact hb
    clear hcase
    show LeavesInM _ _ _ _ _ _ [_] _ _
    refine ⟨by simp, .inr ⟨depth_none hd _, _, _, 78, #[.pointer (some ⟨w.heap.size, 0, none⟩), .pointer (some ⟨w.heap.size + 1, 0, none⟩), .pointer (some ⟨w.heap.size + 1 + 1, 0, none⟩)], rfl, by simp [invoke, go_sem], fun g _ => hfn g, ?_⟩⟩
    rw [HF.out]
    refine (catch_word _ _ _ 0 0 0 ⟨#[]⟩ false 0 HS1.out).mono ?_
    rintro e u' w'' ⟨rfl, rfl, rfl⟩
    have hS := HS1.out.set 0 0 0 ⟨#[]⟩ false 130
    have hRf := HG.out _ (HR1.out.resSet ha 0 0 0 ⟨#[]⟩ false 130) (HF1.out.resSet (Nat.le_refl _) 0 0 0 ⟨#[]⟩ false 130)
    have q0 := hS.word.c0
    have q1 := hS.word.c1
    have q2 := hS.word.c2
    have q3 := hS.word.c3
    have q4 := hS.there.cell
    have q5 := hS.err.cell
    show LeavesInM _ _ _ _ _ _ [] .returning _
    refine ⟨_, ?_, hRf⟩
    simp [results, Tryz.results51, go_sem, q0, q1, q2, q3, q4, q5, noWord]
  · obtain ⟨kk, ii, nn, tt, bb, rfl, hg⟩ : ∃ (kk ii nn : Int) (tt : ByteArray) (bb : Bool), e = .returned (.tuple #[.agg #[.int .i64 kk, .int .i64 ii, .string tt, .int .u64 nn], .bool bb]) ∧ (∀ w', Rd w' a s i j → Fr a w.heap.size w w' → Guarded a s k w (.returned (.tuple #[.agg #[.int .i64 kk, .int .i64 ii, .string tt, .int .u64 nn], .bool bb, .int .i64 0])) w') := by
      rcases hcase with ⟨rfl, hsk⟩ | ⟨d, rfl, hr⟩ | ⟨rfl, _⟩
      · exact ⟨0, 0, 0, ⟨#[]⟩, false, rfl, fun w' h1 h2 => ⟨j, i, hkj, hj, hi, h1, h2, .inl ⟨rfl, hsk⟩⟩⟩
      · exact ⟨_, _, _, _, true, rfl, fun w' h1 h2 => ⟨j, i, hkj, hj, hi, h1, h2, .inr (.inl ⟨d, rfl, hr⟩)⟩⟩
      · exact absurd rfl hgu
    have HG := hidE hg
    clear hg hcase hgu
    have c0 := HS1.out.word.c0
    have c1 := HS1.out.word.c1
    have c2 := HS1.out.word.c2
    have c3 := HS1.out.word.c3
    have z0 := HS1.out.word.z 0
    have z1 := HS1.out.word.z 1
    have z2 := HS1.out.word.z 2
    have z3 := HS1.out.word.z 3
    have c4 := HS1.out.there.cell
    have z4 := HS1.out.there.frozen
    have c5 := HS1.out.err.cell
    have z5 := HS1.out.err.frozen
    gi_wp2_with fail
    generalize hW2 : World.setCell _ _ _ = W2
    have HS2 : Hid (Res W2 w.heap.size kk ii nn tt bb 0) := by
      rw [← hW2]
      refine ⟨((((HS1.out.word.set0 kk).set1 ii).set2 tt).set3 nn).other (by omega), ?_, ?_⟩
      · exact (boxed_other (boxed_other (boxed_other (boxed_other HS1.out.there (by omega)) (by omega)) (by omega)) (by omega)).set _
      · exact boxed_other (boxed_other (boxed_other (boxed_other (boxed_other HS1.out.err (by omega)) (by omega)) (by omega)) (by omega)) (by omega)
    have HR2 : Hid (Rd W2 a s i j) := by rw [← hW2]; exact ((((HR1.out.other (by omega)).other (by omega)).other (by omega)).other (by omega)).other (by omega)
    have HF2 : Hid (Fr a w.heap.size w W2) := by rw [← hW2]; exact ((((HF1.out.elsewhere (Nat.le_refl _) _).elsewhere (Nat.le_refl _) _).elsewhere (Nat.le_refl _) _).elsewhere (Nat.le_refl _) _).elsewhere (by omega) _
    clear hW2 HS1 HR1 HF1 c0 c1 c2 c3 c4 c5 z0 z1 z2 z3 z4 z5
    have c0 := HS2.out.word.c0
    have c1 := HS2.out.word.c1
    have c2 := HS2.out.word.c2
    have c3 := HS2.out.word.c3
    have z0 := HS2.out.word.z 0
    have z1 := HS2.out.word.z 1
    have z2 := HS2.out.word.z 2
    have z3 := HS2.out.word.z 3
    have c4 := HS2.out.there.cell
    have z4 := HS2.out.there.frozen
    have c5 := HS2.out.err.cell
    have z5 := HS2.out.err.frozen
    gi_region
    all_goals
      gi_wp2_with fail
      have hS := HS2.out.set kk ii nn tt bb 0
      have hRf := HG.out (resSet W2 w.heap.size kk ii nn tt bb 0).drew (rd_drew (HR2.out.resSet ha kk ii nn tt bb 0)) (HF2.out.resSet (Nat.le_refl _) kk ii nn tt bb 0).drew
      have q0 := hS.word.c0
      have q1 := hS.word.c1
      have q2 := hS.word.c2
      have q3 := hS.word.c3
      have q4 := hS.there.cell
      have q5 := hS.err.cell
      show LeavesInM _ _ _ _ _ _ [_] .returning (resSet W2 w.heap.size kk ii nn tt bb 0).drew
      refine ⟨by simp, .inr ⟨depth_none hd _, _, _, 78, #[.pointer (some ⟨w.heap.size, 0, none⟩), .pointer (some ⟨w.heap.size + 1, 0, none⟩), .pointer (some ⟨w.heap.size + 1 + 1, 0, none⟩)], rfl, by simp [invoke, go_sem], fun g _ => hfn g, ?_⟩⟩
      rw [HF.out]
      refine (catch_idle _ _ _ _ _).mono ?_
      rintro e u' w'' ⟨rfl, rfl, rfl⟩
      show LeavesInM _ _ _ _ _ _ [] .returning _
      refine ⟨_, ?_, hRf⟩
      simp [results, Tryz.results51, go_sem, q0, q1, q2, q3, q4, q5]
end Go.Proofs.YtbjcdpenfijfoaaGreatDoor

