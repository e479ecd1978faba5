/- What guarded does with a panic: the function that it defers. -/
import Derived.Test.YtbjcdpenfijfoaaGreatDoorPstep
import Derived.RecoverIn
import Derived.LaidEql
import Derived.WideLaws
namespace Go.Proofs.YtbjcdpenfijfoaaGreatDoor
open Go.RowKit Go.Shelf Go.Lexed
set_option linter.unusedVariables false
set_option maxRecDepth 100000 in
theorem under20 : ∃ ms, Tryz.prog.underlying 20 = some (.interface ms) := ⟨_, Tryz.underlying20⟩
set_option maxRecDepth 100000 in
theorem comp24 : (Tryz.prog.info? 24).map (·.comparable) = some true := by kernel_rfl
set_option maxRecDepth 100000 in
theorem eq_word (w : World) : (binOp .eql 20 (.iface 24 (.int .i64 130)) (.iface 24 (.int .i64 130))).run Tryz.prog w = .ok (.bool true) w := by
  obtain ⟨ms, h20⟩ := under20
  have h41 : ∃ i, Tryz.prog.info? 24 = some i ∧ i.comparable = true := by
    have := comp24
    cases h : Tryz.prog.info? 24 with
    | none => rw [h] at this; cases this
    | some i => rw [h] at this; exact ⟨i, rfl, by simpa using this⟩
  obtain ⟨i, hi, hc⟩ := h41
  have h : ∀ d : Nat, (Op.equalIn (d + 2) 20 (.iface 24 (.int .i64 130)) (.iface 24 (.int .i64 130))).run Tryz.prog w = .ok true w := fun d => by
    simp [Op.equalIn, run_underlying h20, run_underlying Tryz.underlying24, typeInfo, hi, hc]
  simp only [binOp]
  simp [Op.equal, Op.maxDepth, h 9998]
/-- The results of guarded, as they lie: a word, a truth, an error. -/
structure Res (w : World) (g : Nat) (k i n : Int) (t : ByteArray) (b : Bool) (e : Int) : Prop where
  word : Wo w g k i n t
  there : Boxed w (g + 1) 4 (.bool b)
  err : Boxed w (g + 2) 24 (.int .i64 e)
def resSet (w : World) (g : Nat) (k i n : Int) (t : ByteArray) (b : Bool) (e : Int) : World :=
  (((((w.setCell ⟨g, 0, none⟩ (.int .i64 k)).setCell ⟨g, 1, none⟩ (.int .i64 i)).setCell ⟨g, 2, none⟩ (.string t)).setCell ⟨g, 3, none⟩ (.int .u64 n)).setCell ⟨g + 1, 0, none⟩ (.bool b)).setCell ⟨g + 2, 0, none⟩ (.int .i64 e)
theorem boxed_other {W : World} {B B' c : Nat} {t : TypeId} {v u : Value} (h : Boxed W B t v) (hne : B ≠ B') : Boxed (W.setCell ⟨B', c, none⟩ u) B t v := (Below.heap_setCell _ _ _ _ hne).trans h
theorem Res.set {w : World} {g : Nat} {k i n : Int} {t : ByteArray} {b : Bool} {e : Int} (h : Res w g k i n t b e) (k' i' n' : Int) (t' : ByteArray) (b' : Bool) (e' : Int) : Res (resSet w g k' i' n' t' b' e') g k' i' n' t' b' e' := by
  refine ⟨?_, ?_, ?_⟩
  · exact (((((h.word.set0 k').set1 i').set2 t').set3 n').other (by omega)).other (by omega)
  · exact boxed_other ((boxed_other (boxed_other (boxed_other (boxed_other h.there (by omega)) (by omega)) (by omega)) (by omega)).set _) (by omega)
  · exact (boxed_other (boxed_other (boxed_other (boxed_other (boxed_other h.err (by omega)) (by omega)) (by omega)) (by omega)) (by omega)).set _
theorem Fr.resSet {a B : Nat} {w w' : World} (h : Fr a B w w') {g : Nat} (hg : B ≤ g) (k i n : Int) (t : ByteArray) (b : Bool) (e : Int) : Fr a B w (Go.Proofs.YtbjcdpenfijfoaaGreatDoor.resSet w' g k i n t b e) :=
  (((((h.elsewhere hg _).elsewhere hg _).elsewhere hg _).elsewhere hg _).elsewhere (by omega) _).elsewhere (by omega) _
theorem Rd.resSet {w : World} {a : Nat} {s : ByteArray} {k0 b0 : Nat} (h : Rd w a s k0 b0) {g : Nat} (hg : a < g) (k i n : Int) (t : ByteArray) (b : Bool) (e : Int) : Rd (Go.Proofs.YtbjcdpenfijfoaaGreatDoor.resSet w g k i n t b e) a s k0 b0 :=
  (((((h.other (by omega)).other (by omega)).other (by omega)).other (by omega)).other (by omega)).other (by omega)
set_option maxRecDepth 100000 in
set_option maxHeartbeats 2000000 in
theorem catch_word (m : Nat) (g : Nat) (w : World) (k i n : Int) (t : ByteArray) (b : Bool) (e0 : Int) (h : Res w g k i n t b e0) :
    CallsDIn Fence.wide m Tryz.prog 78 #[.pointer (some ⟨g, 0, none⟩), .pointer (some ⟨g + 1, 0, none⟩), .pointer (some ⟨g + 2, 0, none⟩)] (.panicking [{ v := .iface 24 (.int .i64 130), recovered := false }]) w fun e u' w' =>
      e = .returned (.tuple #[]) ∧ u' = .panicking [{ v := .iface 24 (.int .i64 130), recovered := true }] ∧ w' = resSet w g 0 0 0 ⟨#[]⟩ false 130 := by
  have he := eq_word w
  have c0 := h.word.c0
  have c1 := h.word.c1
  have c2 := h.word.c2
  have c3 := h.word.c3
  have z0 := h.word.z 0
  have z1 := h.word.z 1
  have z2 := h.word.z 2
  have z3 := h.word.z 3
  have c4 := h.there.cell
  have z4 := h.there.frozen
  have c5 := h.err.cell
  have z5 := h.err.frozen
  clear h
  refine callsDIn_of_wpSIn Tryz.func78 rfl trivial fun c₀ cs hu => ?_
  apply wpSIn_seq
  apply wpSIn_region
  simp [wpOpsSIn, go_sem, recoverD, hu, Tryz.ntmps78, Exit.thenS, Oper.about, Fence.wide, Array.replicate_succ]
  refine wpSIn_of_wpIn rfl ?_
  gi_wp2
  exact ⟨rfl, _, rfl, _, (by simp [results, Tryz.results78]), rfl, rfl, rfl⟩
set_option maxRecDepth 100000 in
set_option maxHeartbeats 1000000 in
theorem catch_idle (m : Nat) (p0 p1 p2 : Addr) (w : World) :
    CallsDIn Fence.wide m Tryz.prog 78 #[.pointer (some p0), .pointer (some p1), .pointer (some p2)] .returning w fun e u' w' => e = .returned (.tuple #[]) ∧ u' = .returning ∧ w' = w := by
  have he := run_eql_iface_nil_left (P := Tryz.prog) w 24 (.int .i64 130) Tryz.underlying20
  have hne := run_neq_nil_nil (P := Tryz.prog) w 20 (by kernel_rfl)
  refine callsDIn_of_wpSIn Tryz.func78 rfl trivial fun c₀ cs hu => ?_
  apply wpSIn_seq
  apply wpSIn_region
  simp [wpOpsSIn, go_sem, recoverD, hu, Tryz.ntmps78, Exit.thenS, Oper.about, Fence.wide, Array.replicate_succ]
  refine wpSIn_of_wpIn rfl ?_
  gi_wp2
  cases c₀
  simp only at hu
  subst hu
  exact ⟨rfl, _, rfl, _, (by simp [results, Tryz.results78]), rfl, rfl, rfl⟩
end Go.Proofs.YtbjcdpenfijfoaaGreatDoor
