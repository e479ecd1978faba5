/- The document's signs. What guarded does with a panic: the function that it defers. -/
import Derived.Test.YtbjcdpenfijfoaaGreatDoorRtxt
import Derived.Test.YtbjcdpenfijfoaaGreatDoorSign
import Derived.Test.YtbjcdpenfijfoaaGreatDoorRnum
import Derived.Test.YtbjcdpenfijfoaaGreatDoorPstep
import Derived.RecoverIn
import Derived.LaidEql
import Derived.WideLaws
namespace Go.Proofs.YtbjcdpenfijfoaaGreatDoor
open Go.RowKit Go.Shelf Go.Lexed
open Go.Lib (byteCells byteCells_length)
set_option linter.unusedVariables false
set_option linter.unusedSimpArgs false
attribute [local go_sem] Oper.semAt_some
def sgL : List ByteArray := [⟨#[60, 62]⟩, ⟨#[60, 61]⟩, ⟨#[62, 61]⟩, ⟨#[40]⟩, ⟨#[41]⟩, ⟨#[91]⟩, ⟨#[93]⟩, ⟨#[123]⟩, ⟨#[125]⟩, ⟨#[44]⟩, ⟨#[46]⟩, ⟨#[58]⟩, ⟨#[124]⟩, ⟨#[61]⟩, ⟨#[60]⟩, ⟨#[62]⟩, ⟨#[43]⟩, ⟨#[45]⟩, ⟨#[42]⟩, ⟨#[47]⟩, ⟨#[37]⟩, ⟨#[36]⟩]
/-- The table of the signs lies at a place. -/
def SignsAt (w : World) (p : Nat) : Prop := ∀ (q : Nat) (K : ByteArray), sgL[q]? = some K → w.cell? ⟨p, q, none⟩ = some (.string K)
set_option maxRecDepth 100000 in
theorem rsigns_any (w : World) : Calls Tryz.prog 58 #[] w fun e w' => e = .returned (.slice (some ⟨w.heap.size, 0, none⟩) 22 22) ∧ Below w.heap.size w w' ∧ w.heap.size < w'.heap.size ∧ SignsAt w' w.heap.size := by
  go_enter Tryz.func58, Tryz.ntmps58
  go_wp2_with fail
  generalize hW1 : World.alloc _ _ = W1
  have HB1 : Hid (Below w.heap.size w W1) := by rw [← hW1]; exact (Below.refl _ _).alloc (Nat.le_refl _) _
  have HT : Hid (SignsAt W1 w.heap.size) := by
    intro q K hq
    rw [← hW1]
    refine cell_new _ _ _ _ _ ?_
    have : (sgL.map Value.string).toArray[q]? = some (.string K) := by rw [List.getElem?_toArray, List.getElem?_map, hq]; rfl
    exact this
  clear hW1
  go_ret
  exact ⟨rfl, HB1.out, lt_of_cell (HT.out 0 _ rfl), HT.out⟩
def sg2 : List ByteArray := [⟨#[60, 62]⟩, ⟨#[60, 61]⟩, ⟨#[62, 61]⟩]
def sg1 : List ByteArray := [⟨#[40]⟩, ⟨#[41]⟩, ⟨#[91]⟩, ⟨#[93]⟩, ⟨#[123]⟩, ⟨#[125]⟩, ⟨#[44]⟩, ⟨#[46]⟩, ⟨#[58]⟩, ⟨#[124]⟩, ⟨#[61]⟩, ⟨#[60]⟩, ⟨#[62]⟩, ⟨#[43]⟩, ⟨#[45]⟩, ⟨#[42]⟩, ⟨#[47]⟩, ⟨#[37]⟩, ⟨#[36]⟩]
def begins (l : List UInt8) (K : ByteArray) : Bool := K.data.toList.isPrefixOf l
set_option maxRecDepth 100000 in
theorem one_first (a : UInt8) : (sg1.find? (begins [a])) = if oneB a then some ⟨#[a]⟩ else none := by
  refine all_bytes (p := fun a => (sg1.find? (begins [a])) = if oneB a then some ⟨#[a]⟩ else none) ?_ a
  decide +kernel
theorem one_more (a : UInt8) (l : List UInt8) : sg1.find? (begins (a :: l)) = sg1.find? (begins [a]) := by
  have h : ∀ K ∈ sg1, begins (a :: l) K = begins [a] K := by
    intro K hK
    simp only [sg1, List.mem_cons, List.not_mem_nil, or_false] at hK
    rcases hK with rfl | rfl | rfl | rfl | rfl | rfl | rfl | rfl | rfl | rfl | rfl | rfl | rfl | rfl | rfl | rfl | rfl | rfl | rfl <;> simp [begins, List.isPrefixOf]
  generalize sg1 = L at h
  induction L with
  | nil => rfl
  | cons K L ih => rw [List.find?_cons, List.find?_cons, h K (by simp), ih fun K' hK => h K' (by simp [hK])]
theorem two_none {a b : UInt8} (l : List UInt8) (h : twoB a b = false) : sg2.find? (begins (a :: b :: l)) = none := by
  rw [List.find?_eq_none]
  intro K hK hp
  have hp' : begins (a :: b :: l) K = true := hp
  simp only [sg2, List.mem_cons, List.not_mem_nil, or_false] at hK
  unfold twoB at h
  rcases hK with rfl | rfl | rfl <;>
  · simp only [begins, List.isPrefixOf, Bool.and_true, Bool.and_eq_true, beq_iff_eq] at hp'
    obtain ⟨rfl, rfl⟩ := hp'
    simp at h
/-- The first sign that a text begins with. -/
theorem sign_first (l : List UInt8) : signB l = (sgL.find? (begins l)).map fun K => (⟨5, K.data.toList, 0⟩, l.drop K.size) := by
  have e : sgL = sg2 ++ sg1 := rfl
  rw [e, List.find?_append]
  match l with
  | [] => rfl
  | [a] =>
    have h2 : sg2.find? (begins [a]) = none := by
      rw [List.find?_eq_none]
      intro K hK hp
      have hp' : begins [a] K = true := hp
      simp only [sg2, List.mem_cons, List.not_mem_nil, or_false] at hK
      rcases hK with rfl | rfl | rfl <;> simp [begins, List.isPrefixOf] at hp'
    rw [h2, one_first, signB]
    cases oneB a <;> rfl
  | a :: b :: r =>
    by_cases ht : twoB a b = true
    · have hab : (a = 60 ∧ b = 62) ∨ (a = 60 ∧ b = 61) ∨ (a = 62 ∧ b = 61) := by
        simpa [twoB, or_assoc] using ht
      rcases hab with ⟨rfl, rfl⟩ | ⟨rfl, rfl⟩ | ⟨rfl, rfl⟩ <;> rfl
    · have ht' : twoB a b = false := by simpa using ht
      rw [two_none r ht', one_more, one_first, signB]
      simp only [ht']
      cases oneB a <;> rfl
/-- .. told one by one. -/
theorem find_step {L : List ByteArray} {p : ByteArray → Bool} {q : Nat} {K : ByteArray} (h : L[q]? = some K) : (L.drop q).find? p = if p K = true then some K else (L.drop (q + 1)).find? p := by
  have hq := (List.getElem?_eq_some_iff.1 h).1
  have hK := (List.getElem?_eq_some_iff.1 h).2
  rw [List.drop_eq_getElem_cons hq, List.find?_cons, hK]
  cases p K <;> rfl
end Go.Proofs.YtbjcdpenfijfoaaGreatDoor

namespace Go.Proofs.YtbjcdpenfijfoaaGreatDoor
open Go.RowKit Go.Shelf Go.Lexed
set_option linter.unusedVariables false
set_option maxRecDepth 100000 in
theorem under20 : ∃ ms, Tryz.prog.underlying 20 = some (.interface ms) := ⟨_, Tryz.underlying20⟩
set_option maxRecDepth 100000 in
theorem comp24 : (Tryz.prog.info? 24).map (·.comparable) = some true := by kernel_rfl
set_option maxRecDepth 100000 in
theorem eq_word (w : World) : (binOp .eql 20 (.iface 24 (.int .i64 130)) (.iface 24 (.int .i64 130))).run Tryz.prog w = .ok (.bool true) w := by
  obtain ⟨ms, h20⟩ := under20
  have h41 : ∃ i, Tryz.prog.info? 24 = some i ∧ i.comparable = true := by
    have := comp24
    cases h : Tryz.prog.info? 24 with
    | none => rw [h] at this; cases this
    | some i => rw [h] at this; exact ⟨i, rfl, by simpa using this⟩
  obtain ⟨i, hi, hc⟩ := h41
  have h : ∀ d : Nat, (Op.equalIn (d + 2) 20 (.iface 24 (.int .i64 130)) (.iface 24 (.int .i64 130))).run Tryz.prog w = .ok true w := fun d => by
    simp [Op.equalIn, run_underlying h20, run_underlying Tryz.underlying24, typeInfo, hi, hc]
  simp only [binOp]
  simp [Op.equal, Op.maxDepth, h 9998]
/-- The results of guarded, as they lie: a word, a truth, an error. -/
structure Res (w : World) (g : Nat) (k i n : Int) (t : ByteArray) (b : Bool) (e : Int) : Prop where
  word : Wo w g k i n t
  there : Boxed w (g + 1) 4 (.bool b)
  err : Boxed w (g + 2) 24 (.int .i64 e)
def resSet (w : World) (g : Nat) (k i n : Int) (t : ByteArray) (b : Bool) (e : Int) : World :=
  (((((w.setCell ⟨g, 0, none⟩ (.int .i64 k)).setCell ⟨g, 1, none⟩ (.int .i64 i)).setCell ⟨g, 2, none⟩ (.string t)).setCell ⟨g, 3, none⟩ (.int .u64 n)).setCell ⟨g + 1, 0, none⟩ (.bool b)).setCell ⟨g + 2, 0, none⟩ (.int .i64 e)
theorem boxed_other {W : World} {B B' c : Nat} {t : TypeId} {v u : Value} (h : Boxed W B t v) (hne : B ≠ B') : Boxed (W.setCell ⟨B', c, none⟩ u) B t v := (Below.heap_setCell _ _ _ _ hne).trans h
theorem Res.set {w : World} {g : Nat} {k i n : Int} {t : ByteArray} {b : Bool} {e : Int} (h : Res w g k i n t b e) (k' i' n' : Int) (t' : ByteArray) (b' : Bool) (e' : Int) : Res (resSet w g k' i' n' t' b' e') g k' i' n' t' b' e' := by
  refine ⟨?_, ?_, ?_⟩
  · exact (((((h.word.set0 k').set1 i').set2 t').set3 n').other (by omega)).other (by omega)
  · exact boxed_other ((boxed_other (boxed_other (boxed_other (boxed_other h.there (by omega)) (by omega)) (by omega)) (by omega)).set _) (by omega)
  · exact (boxed_other (boxed_other (boxed_other (boxed_other (boxed_other h.err (by omega)) (by omega)) (by omega)) (by omega)) (by omega)).set _
theorem Fr.resSet {a B : Nat} {w w' : World} (h : Fr a B w w') {g : Nat} (hg : B ≤ g) (k i n : Int) (t : ByteArray) (b : Bool) (e : Int) : Fr a B w (Go.Proofs.YtbjcdpenfijfoaaGreatDoor.resSet w' g k i n t b e) :=
  (((((h.elsewhere hg _).elsewhere hg _).elsewhere hg _).elsewhere hg _).elsewhere (by omega) _).elsewhere (by omega) _
theorem Rd.resSet {w : World} {a : Nat} {s : ByteArray} {k0 b0 : Nat} (h : Rd w a s k0 b0) {g : Nat} (hg : a < g) (k i n : Int) (t : ByteArray) (b : Bool) (e : Int) : Rd (Go.Proofs.YtbjcdpenfijfoaaGreatDoor.resSet w g k i n t b e) a s k0 b0 :=
  (((((h.other (by omega)).other (by omega)).other (by omega)).other (by omega)).other (by omega)).other (by omega)
set_option maxRecDepth 100000 in
set_option maxHeartbeats 2000000 in
theorem catch_word (m : Nat) (g : Nat) (w : World) (k i n : Int) (t : ByteArray) (b : Bool) (e0 : Int) (h : Res w g k i n t b e0) :
    CallsDIn Fence.wide m Tryz.prog 78 #[.pointer (some ⟨g, 0, none⟩), .pointer (some ⟨g + 1, 0, none⟩), .pointer (some ⟨g + 2, 0, none⟩)] (.panicking [{ v := .iface 24 (.int .i64 130), recovered := false }]) w fun e u' w' =>
      e = .returned (.tuple #[]) ∧ u' = .panicking [{ v := .iface 24 (.int .i64 130), recovered := true }] ∧ w' = resSet w g 0 0 0 ⟨#[]⟩ false 130 := by
  have he := eq_word w
  have c0 := h.word.c0
  have c1 := h.word.c1
  have c2 := h.word.c2
  have c3 := h.word.c3
  have z0 := h.word.z 0
  have z1 := h.word.z 1
  have z2 := h.word.z 2
  have z3 := h.word.z 3
  have c4 := h.there.cell
  have z4 := h.there.frozen
  have c5 := h.err.cell
  have z5 := h.err.frozen
  clear h
  refine callsDIn_of_wpSIn Tryz.func78 rfl trivial fun c₀ cs hu => ?_
  apply wpSIn_seq
  apply wpSIn_region
  simp [wpOpsSIn, go_sem, recoverD, hu, Tryz.ntmps78, Exit.thenS, Oper.about, Fence.wide, Array.replicate_succ]
  refine wpSIn_of_wpIn rfl ?_
  gi_wp2
  exact ⟨rfl, _, rfl, _, (by simp [results, Tryz.results78]), rfl, rfl, rfl⟩
set_option maxRecDepth 100000 in
set_option maxHeartbeats 1000000 in
theorem catch_idle (m : Nat) (p0 p1 p2 : Addr) (w : World) :
    CallsDIn Fence.wide m Tryz.prog 78 #[.pointer (some p0), .pointer (some p1), .pointer (some p2)] .returning w fun e u' w' => e = .returned (.tuple #[]) ∧ u' = .returning ∧ w' = w := by
  have he := run_eql_iface_nil_left (P := Tryz.prog) w 24 (.int .i64 130) Tryz.underlying20
  have hne := run_neq_nil_nil (P := Tryz.prog) w 20 (by kernel_rfl)
  refine callsDIn_of_wpSIn Tryz.func78 rfl trivial fun c₀ cs hu => ?_
  apply wpSIn_seq
  apply wpSIn_region
  simp [wpOpsSIn, go_sem, recoverD, hu, Tryz.ntmps78, Exit.thenS, Oper.about, Fence.wide, Array.replicate_succ]
  refine wpSIn_of_wpIn rfl ?_
  gi_wp2
  cases c₀
  simp only at hu
  subst hu
  exact ⟨rfl, _, rfl, _, (by simp [results, Tryz.results78]), rfl, rfl, rfl⟩
end Go.Proofs.YtbjcdpenfijfoaaGreatDoor

