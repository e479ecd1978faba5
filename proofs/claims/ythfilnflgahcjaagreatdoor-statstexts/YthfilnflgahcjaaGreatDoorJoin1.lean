/- Small things that the texts of this seat stand on. A range over a function whose rounds may panic: one round, out of its body's walk. Small things of worlds and cells. Rows of things of some cells each: where they lie, rows of the call's own, one more. -/
import Derived.Test.YthfilnflgahcjaaGreatDoorRows
import Derived.BigQuiet
import Derived.Deep.QuietTactic
import Derived.Laws.Bits128
import Derived.Laws.MathBits
import Derived.Maps.AppendAt
import Derived.WalkKit
import Derived.WalkLawsBesides
import Derived.WalkMore
import Derived.WalkSmall
import Derived.WalkSpells
import Derived.RangeFuncKeeps
import Derived.RangeFuncBound
import Derived.RangeFuncCalls
import Derived.RangeFuncNested
import Derived.RangeFuncBox
import Derived.Shelf.Abstract
import Derived.Shelf.RegionOpen
import Derived.OwnWalkIn
import Derived.TacticsInMore
import Derived.LoopNIn
import Derived.LoopIn
import Derived.Orders
import Derived.Below
import Derived.RangeFuncRecord
import Derived.Deep.RegionWith
import Derived.Laws.AppendOwn
import Derived.Laws.OwnMore
namespace Go.Proofs.YthfilnflgahcjaaGreatDoor
open Go.RowKit
set_option linter.unusedVariables false
theorem below_on {w w1 w2 : World} (h : Below w.heap.size w w1) (k : Below w1.heap.size w1 w2) : Below w.heap.size w w2 := h.trans (k.mono h.size)
end Go.Proofs.YthfilnflgahcjaaGreatDoor

namespace Go.Proofs.YthfilnflgahcjaaGreatDoor
open Go.RowKit
set_option linter.unusedVariables false
variable {F : Fence} {n : Nat} {P : Program}
def asBusy (r : Loop) : Loop := { r with state := .busy }
def asReady (r : Loop) : Loop := { r with state := .ready, pending := none }
def asDone (r : Loop) (c : Code) : Loop := { r with state := .done, pending := some c }
def asSpent (r : Loop) : Loop := { r with state := .exhausted }
/-- How a round may be left: its record is still busy; what is handed back, and in which world. -/
def leftBy (P : Program) (l : Nat) (rec : Loop) (R : Ending → World → Prop) : Exit → Act → World → Prop
  | .normal, _, W => W.heap[l]? = some (.loop (asBusy rec)) ∧ R (.returned (.bool true)) (W.putObj l (.loop (asReady rec)))
  | .ret, _, W => W.heap[l]? = some (.loop (asBusy rec)) ∧ R (.returned (.bool false)) (W.putObj l (.loop (asDone rec .ret)))
  | .exit id, _, W => W.heap[l]? = some (.loop (asBusy rec)) ∧ R (.returned (.bool false)) (W.putObj l (.loop (asDone rec (.exit id))))
  | .panic ch, a, W => a.defers = [] ∧ (∃ fn, P.funcs[rec.fn]? = some fn) ∧ R (.panicked ch) W
  | _, _, _ => False
/-- One call of yield. -/
theorem yield_round {l : Nat} {rec : Loop} {W : World} {args : Array Value} {R : Ending → World → Prop} {assign body : Code} {tmps : Array Value} {params : Array Tmp} (hfn : F.fn rec.fn) (ea : assign = rec.assign) (eb : body = rec.body) (et : tmps = rec.tmps) (ep : params = rec.params)
    (hl : W.heap[l]? = some (.loop rec)) (hready : rec.state = .ready) (hsz : args.size = rec.params.size)
    (hround : assign.wpIn (F.inRound l) n P (Exit.then (fun a₁ W₁ => W₁.heap[l]? = some (.loop rec) ∧ body.wpIn (F.inRound l) n P (leftBy P l rec R) a₁ (W₁.putObj l (.loop (asBusy rec)))) (fun _ _ _ => False))
      { tmps := (params.zip args).foldl (fun tmps (t, a) => tmps.setIfInBounds t a) tmps, defers := [] } W) :
    YieldAt F n P l args W R := by
  subst ea eb et ep
  refine ⟨rec.fn, _, rec.assign, rec.body, run_yield hl hsz, hfn, fun c cs hr => ?_⟩
  have hr' : (F.inRound l).room ((c :: cs).length + 1 + n) := hr
  obtain ⟨e, a, w, hq, harr⟩ := hround { (default : Frame) with fn := rec.fn, kind := .normal, roundOf := some l } [.beginRound, .code rec.body] (c :: cs) rfl hfn hr'
  cases e with
  | normal =>
    obtain ⟨hl2, hbody⟩ := hq
    have s0 := StepsIn.one (I := Machine.fenced P (F.inRound l)) (fenced_calm (fr := Frame.atR { (default : Frame) with fn := rec.fn, kind := .normal, roundOf := some l } a [.beginRound, .code rec.body]) hfn hr' rfl)
      (stepR_beginRound (P := P) (b := { (default : Frame) with fn := rec.fn, kind := .normal, roundOf := some l }) (a := a) (k := [.code rec.body]) (cs := c :: cs) rfl (run_beginRound hl2 hready))
    obtain ⟨e, a2, w2, hq, harr2⟩ := hbody { (default : Frame) with fn := rec.fn, kind := .normal, roundOf := some l } [] (c :: cs) rfl hfn hr'
    have hgo := StepsIn.trans harr s0
    cases e with
    | normal =>
      obtain ⟨h1, h2⟩ := hq
      have hend := run_endRound (P := P) none h1
      exact ⟨_, _, h2, hgo.trans (StepsIn.trans harr2 (.one (fenced_calm hfn hr' rfl) (stepR_round_end rfl rfl hend)))⟩
    | ret =>
      obtain ⟨h1, h2⟩ := hq
      have hend := run_endRound (P := P) (some .ret) h1
      obtain ⟨k1, hs⟩ := harr2.2 rfl
      exact ⟨_, _, h2, hgo.trans (StepsIn.trans hs (.one (fenced_calm hfn hr' rfl) (stepR_round_ret rfl rfl hend)))⟩
    | exit id =>
      obtain ⟨h1, h2⟩ := hq
      have hend := run_endRound (P := P) (some (.exit id)) h1
      obtain ⟨k1, hk, hs⟩ := harr2.2 rfl rfl
      exact ⟨_, _, h2, hgo.trans (StepsIn.trans hs (.one (fenced_calm hfn hr' rfl) (stepR_round_exit rfl rfl hk hend)))⟩
    | panic ch =>
      obtain ⟨h1, ⟨fn, hex⟩, h2⟩ := hq
      obtain ⟨todo, hs⟩ := harr2
      refine ⟨.panicked ch, w2, h2, hgo.trans (StepsIn.trans hs (.one ?_ (step_leave_panicked ⟨rfl, h1, fn, hex⟩)))⟩
      exact fenced_leaving (e := .panicked ch) hfn hr' ⟨rfl, h1, fn, hex⟩
    | goto t => exact hq.elim
    | outgrown => exact hq.elim
  | exit id => exact hq.elim
  | goto t => exact hq.elim
  | ret => exact hq.elim
  | panic ch => exact hq.elim
  | outgrown => exact hq.elim
/-- What comes behind the function that was ranged over. -/
def behind (F : Fence) (n : Nat) (P : Program) (l : Nat) (Q : Exit → Act → World → Prop) (a : Act) : Ending → World → Prop
  | .returned _, W => ∃ rec : Loop, W.heap[l]? = some (.loop rec) ∧ rec.state ≠ .busy ∧
      (match rec.pending with
       | none => Q .normal a (W.putObj l (.loop (asSpent rec)))
       | some c => c.wpIn F n P Q a (W.putObj l (.loop (asSpent rec))))
  | .panicked ch, W => Q (.panic ch) a W
  | .outgrown, _ => False
/-- A range over a function value: the record is laid, and the function is called with yield. -/
theorem range_wp {g : Operand} {ps : Array Tmp} {assign body : Code} {Q : Exit → Act → World → Prop} {a : Act} {w : World} (hro : F.round = none) (hn : F.depth = none)
    {gf : Nat} {lb : Array Value} (hg : a.eval g = .func (.func gf) #[] lb) (hFg : F.fn gf) (eg : ∀ args w, (callFunc gf args).run P w = .ok (.enter gf args) w)
    (h : ∀ fn, F.fn fn → CallsIn F (n - 1) P gf (#[.func (.yield (w.heap.size + 1)) #[] #[]] ++ lb)
      ((w.alloc (.deferred (some []))).alloc (.loop { state := .ready, pending := none, fn, tmps := a.tmps, params := ps, assign, body, defers := w.heap.size }))
      (behind F n P (w.heap.size + 1) Q { a with defers := { target := .collected w.heap.size, args := #[] } :: a.defers })) :
    (Code.rangeFunc g ps assign body).wpIn F n P Q a w := by
  refine wpIn_rangeFunc fun fn hfn => ?_
  refine ⟨_, _, _, { target := .fn (.func gf) lb, args := #[.func (.yield (w.heap.size + 1)) #[] #[]] },
    (w.alloc (.deferred (some []))).alloc (.loop { state := .ready, pending := none, fn, tmps := a.tmps, params := ps, assign, body, defers := w.heap.size }), gf, _, _, (by rw [hro]; exact run_enterLoop_outer _ _ _ _ _), ?_, ?_, ?_, fun hs => (by rw [hn] at hs; cases hs), (h fn hfn).mono ?_⟩
  · simp only [resolve, hg]; simp [go_sem]
  · intro f' hf'; simp [Target.leads] at hf'; subst hf'; exact hFg
  · simp [invoke, go_sem, eg]
  · rintro e W hb
    cases e with
    | returned v =>
      obtain ⟨rec, h1, h2, h3⟩ := hb
      refine ⟨rec.pending, _, run_endLoop h1 h2, ?_⟩
      have e : (asSpent rec) = { rec with state := .exhausted } := rfl
      rw [e] at h3
      cases hp : rec.pending <;> simp only [hp] at h3 ⊢ <;> exact h3
    | panicked ch => exact hb
    | outgrown => exact hb.elim
/-- A world in which nothing from C on has turned. -/
structure Above (C : Nat) (W W' : World) : Prop where
  size : W.heap.size ≤ W'.heap.size
  block : ∀ k, C ≤ k → k < W.heap.size → W'.heap[k]? = W.heap[k]?
theorem Above.refl (C : Nat) (W : World) : Above C W W := ⟨Nat.le_refl _, fun _ _ _ => rfl⟩
theorem Above.trans {C : Nat} {A B D : World} (h : Above C A B) (k : Above C B D) : Above C A D :=
  ⟨Nat.le_trans h.size k.size, fun i hi hl => (k.block i hi (Nat.lt_of_lt_of_le hl h.size)).trans (h.block i hi hl)⟩
theorem Above.of_below {C B : Nat} {A D : World} (h : Below B A D) (hB : A.heap.size ≤ B) : Above C A D := ⟨h.size, fun i _ hl => h.block i (by omega)⟩
theorem Above.cell {C : Nat} {W W' : World} (h : Above C W W') {p : Addr} (h1 : C ≤ p.block) (h2 : p.block < W.heap.size) : W'.cell? p = W.cell? p := World.cell?_of_block (h.block _ h1 h2)
theorem Above.alloc {C : Nat} {A D : World} (h : Above C A D) (o : Obj) : Above C A (D.alloc o) := h.trans ⟨by simp, fun k _ hl => Below.heap_alloc _ _ _ hl⟩
theorem heap_alloc_at (w : World) (o : Obj) (k : Nat) : (w.alloc o).heap[k]? = if k = w.heap.size then some o else w.heap[k]? := by
  show (w.heap.push o)[k]? = _
  rw [Array.getElem?_push]
/-- A world that parts from another in one block alone. -/
structure But (i : Nat) (A B : World) : Prop where
  os : B.os = A.os
  tape : B.tape = A.tape
  output : B.output = A.output
  size : B.heap.size = A.heap.size
  block : ∀ k, k ≠ i → B.heap[k]? = A.heap[k]?
theorem But.refl (i : Nat) (A : World) : But i A A := ⟨rfl, rfl, rfl, rfl, fun _ _ => rfl⟩
theorem But.setCell {i : Nat} {A B : World} (h : But i A B) {p : Addr} (hp : p.block = i) (u : Value) : But i A (B.setCell p u) :=
  ⟨h.os, h.tape, h.output, (by simp [World.setCell, h.size]), fun k hk => (Below.heap_setCell _ _ _ _ (by omega)).trans (h.block k hk)⟩
theorem But.cell {i : Nat} {A B : World} (h : But i A B) {p : Addr} (hp : p.block ≠ i) : B.cell? p = A.cell? p := World.cell?_of_block (h.block _ hp)
theorem But.below {i n : Nat} {w A B : World} (h : But i A B) (k : Below n w A) (hi : n ≤ i) : Below n w B :=
  ⟨h.os.trans k.os, h.tape.trans k.tape, h.output.trans k.output, (by rw [h.size]; exact k.size), fun j hj => (h.block j (by omega)).trans (k.block j hj)⟩
theorem But.putObj {A : World} (i : Nat) (o : Obj) : But i A (A.putObj i o) := ⟨rfl, rfl, rfl, (by simp), fun k hk => World.putObj_heap_other hk⟩
theorem room_of_none {F : Fence} (hd : F.depth = none) (k : Nat) : F.room k := fun d h => by rw [hd] at h; cases h
theorem depth_none {F : Fence} (hd : F.depth = none) (k : Nat) : (F.depth.isSome = true → 1 ≤ k) := fun h => by rw [hd] at h; cases h
end Go.Proofs.YthfilnflgahcjaaGreatDoor

namespace Go.Proofs.YthfilnflgahcjaaGreatDoor
open Go.RowKit Go.Shelf
set_option linter.unusedVariables false
theorem hidE {p : Prop} (h : p) : Hid p := h
theorem lt_of_cell {w : World} {p : Addr} {v : Value} (h : w.cell? p = some v) : p.block < w.heap.size := by
  obtain ⟨o, ho, _⟩ := cells_of_cell h
  exact (Array.getElem?_eq_some_iff.1 ho).1
theorem cell_below {B : Nat} {w w' : World} (h : Below B w w') (hB : w.heap.size ≤ B) {p : Addr} {v : Value} (hc : w.cell? p = some v) : w'.cell? p = some v :=
  (h.cell (p := p) (Nat.lt_of_lt_of_le (lt_of_cell hc) hB)).trans hc
theorem cell_new (W : World) (cs : Array Value) (ty : TypeId) (i : Nat) (v : Value) (h : cs[i]? = some v) : (W.alloc (.cells cs ty)).cell? ⟨W.heap.size, i, none⟩ = some v := by
  have e := World.alloc_heap_new W (.cells cs ty)
  unfold World.cell?
  simp only [e, h]
  rfl
theorem ne_bool {a b : Int} (h : a ≠ b) : (a == b) = false := beq_eq_false_iff_ne.2 h
theorem eq_bool {a b : Int} (h : a = b) : (a == b) = true := beq_iff_eq.2 h
end Go.Proofs.YthfilnflgahcjaaGreatDoor

namespace Go.Proofs.YthfilnflgahcjaaGreatDoor
open Go.RowKit Go.Shelf
set_option linter.unusedVariables false
set_option linter.unusedSimpArgs false
/-- A row of things, each of k cells. -/
def SRow {α : Type} (k : Nat) (enc : α → List Value) (B : Nat) (w : World) (v : Value) (xs : List α) : Prop :=
  ∃ a c, v = .slice a xs.length c ∧ xs.length ≤ c ∧ c ≤ 9223372036854775807 ∧ (xs = [] ∨ ∃ bl off, a = some ⟨bl, off, none⟩ ∧ bl < B ∧ ∀ (i : Nat) (x : α), xs[i]? = some x → ∀ (j : Nat) (u : Value), (enc x)[j]? = some u → w.cell? ⟨bl, off + i * k + j, none⟩ = some u)
theorem SRow.keep {α : Type} {k : Nat} {enc : α → List Value} {B : Nat} {w w' : World} {v : Value} {xs : List α} (h : SRow k enc B w v xs) (hb : Below B w w') : SRow k enc B w' v xs := by
  obtain ⟨a, c, h1, h2, h3, h4⟩ := h
  exact ⟨a, c, h1, h2, h3, h4.imp id fun ⟨bl, off, e, hl, hc⟩ => ⟨bl, off, e, hl, fun i x hx j u hu => (hb.cell (p := ⟨bl, off + i * k + j, none⟩) hl).trans (hc i x hx j u hu)⟩⟩
theorem SRow.mono {α : Type} {k : Nat} {enc : α → List Value} {B B' : Nat} {w : World} {v : Value} {xs : List α} (h : SRow k enc B w v xs) (hb : B ≤ B') : SRow k enc B' w v xs := by
  obtain ⟨a, c, h1, h2, h3, h4⟩ := h
  exact ⟨a, c, h1, h2, h3, h4.imp id fun ⟨bl, off, e, hl, hc⟩ => ⟨bl, off, e, Nat.lt_of_lt_of_le hl hb, hc⟩⟩
theorem SRow.up {α : Type} {k : Nat} {enc : α → List Value} {B : Nat} {w w' : World} {v : Value} {xs : List α} (h : SRow k enc B w v xs) (hb : Below B w w') (hB : B ≤ w'.heap.size) : SRow k enc w'.heap.size w' v xs := (h.keep hb).mono hB
theorem srow_nil {α : Type} (k : Nat) (enc : α → List Value) (B : Nat) (w : World) : SRow k enc B w (.slice none 0 0) [] := ⟨none, 0, rfl, Nat.le_refl _, by decide, .inl rfl⟩
theorem sflat_len {k : Nat} : ∀ (css : List (List Value)), (∀ c ∈ css, c.length = k) → css.flatten.length = css.length * k
  | [], _ => by simp
  | c :: r, h => by
    rw [List.flatten_cons, List.length_append, h c List.mem_cons_self, sflat_len r (fun d hd => h d (List.mem_cons_of_mem _ hd)), List.length_cons, Nat.add_mul, Nat.one_mul, Nat.add_comm]
theorem sflat_at {k : Nat} : ∀ (css : List (List Value)) (i q : Nat) (cs : List Value), (∀ c ∈ css, c.length = k) → css[i]? = some cs → q < k → css.flatten[i * k + q]? = cs[q]?
  | [], i, q, cs, _, hi, _ => by simp at hi
  | c :: r, 0, q, cs, h, hi, hq => by
    simp only [List.getElem?_cons_zero, Option.some.injEq] at hi
    subst hi
    rw [List.flatten_cons, Nat.zero_mul, Nat.zero_add, List.getElem?_append_left (by rw [h c List.mem_cons_self]; exact hq)]
  | c :: r, i + 1, q, cs, h, hi, hq => by
    simp only [List.getElem?_cons_succ] at hi
    have hc := h c List.mem_cons_self
    rw [List.flatten_cons, List.getElem?_append_right (by rw [hc, Nat.add_mul]; omega), hc, show (i + 1) * k + q - k = i * k + q by rw [Nat.add_mul]; omega]
    exact sflat_at r i q cs (fun d hd => h d (List.mem_cons_of_mem _ hd)) hi hq
/-- A row of the call's own. -/
def ORow {α : Type} (e k : Nat) (enc : α → List Value) (base : Nat) (w : World) (v : Value) (xs : List α) : Prop := w.ownsRow base e k v xs.length ((xs.map enc).flatten)
theorem ORow.srow {α : Type} {e k base : Nat} {enc : α → List Value} {w : World} {v : Value} {xs : List α} (hk : ∀ x, (enc x).length = k) (h : ORow e k enc base w v xs) : SRow k enc w.heap.size w v xs := by
  obtain ⟨h0, ⟨rfl, hn⟩ | ⟨g, cap, cur, rfl, hg, hh, hn, hc, hs, ht⟩⟩ := h
  · have : xs = [] := List.eq_nil_of_length_eq_zero hn
    subst this
    exact srow_nil _ _ _ _
  · refine ⟨_, cap, rfl, hn, Nat.le_trans hc (by decide), .inr ⟨g, 0, rfl, (Array.getElem?_eq_some_iff.1 hh).1, fun i x hx j u hu => ?_⟩⟩
    have hi := (List.getElem?_eq_some_iff.1 hx).1
    have hj : j < k := by have := (List.getElem?_eq_some_iff.1 hu).1; rwa [hk] at this
    have e1 := sflat_at (xs.map enc) i j (enc x) (fun c hc => by obtain ⟨y, _, rfl⟩ := List.mem_map.1 hc; exact hk y) (by rw [List.getElem?_map, hx]; rfl) hj
    have hlt : i * k + j < xs.length * k := Nat.lt_of_lt_of_le (Nat.add_lt_add_left hj _) (by rw [← Nat.add_one_mul]; exact Nat.mul_le_mul_right _ hi)
    rw [← ht, List.getElem?_take_of_lt hlt, hu, Array.getElem?_toList] at e1
    simp only [World.cell?, hh]
    simpa [Nat.zero_add] using e1
theorem orow_nil {α : Type} (e k : Nat) (enc : α → List Value) (base : Nat) (w : World) : ORow e k enc base w (.slice none 0 0) [] := ⟨by simp, .inl ⟨rfl, rfl⟩⟩
theorem ORow.keep {α : Type} {e k base : Nat} {enc : α → List Value} {w w' : World} {v : Value} {xs : List α} (h : ORow e k enc base w v xs) (hb : ∀ g, base ≤ g → g < w.heap.size → w'.heap[g]? = w.heap[g]?) : ORow e k enc base w' v xs := by
  obtain ⟨g1, ⟨g2, g3⟩ | ⟨g, cap, cur, g2, g3, g4, g5⟩⟩ := h
  · exact ⟨g1, .inl ⟨g2, g3⟩⟩
  · exact ⟨g1, .inr ⟨g, cap, cur, g2, g3, (hb g g3 (Array.getElem?_eq_some_iff.1 g4).1).trans g4, g5⟩⟩
theorem ORow.below {α : Type} {e k base : Nat} {enc : α → List Value} {w w' : World} {v : Value} {xs : List α} (h : ORow e k enc base w v xs) (hb : Below w.heap.size w w') : ORow e k enc base w' v xs := h.keep fun g _ hg => hb.block g hg
theorem ORow.slice {α : Type} {e k base : Nat} {enc : α → List Value} {w : World} {v : Value} {xs : List α} (h : ORow e k enc base w v xs) : ∃ a c, v = .slice a xs.length c := by
  obtain ⟨_, ⟨h1, h2⟩ | ⟨g, cap, cur, h1, _⟩⟩ := h
  · rw [h2]; exact ⟨none, 0, h1⟩
  · exact ⟨_, _, h1⟩
theorem ORow.base {α : Type} {e k b b' : Nat} {enc : α → List Value} {w : World} {v : Value} {xs : List α} (h : ORow e k enc b w v xs) (hb : b' ≤ b) : ORow e k enc b' w v xs := by
  obtain ⟨g1, ⟨g2, g3⟩ | ⟨g, cap, cur, g2, g3, g4, g5⟩⟩ := h
  · exact ⟨g1, .inl ⟨g2, g3⟩⟩
  · exact ⟨g1, .inr ⟨g, cap, cur, g2, Nat.le_trans hb g3, g4, g5⟩⟩
/-- What a type is, as an append wants it. -/
def ElemIs (t e k bytes : Nat) (z : Value) : Prop := Tryz.prog.underlying t = some (.slice e) ∧ ∃ i0, Tryz.prog.info? e = some i0 ∧ i0.zero = some z ∧ i0.size = k ∧ i0.bytes = bytes ∧ z.cells.size = k ∧ 0 < k ∧ bytes ≤ 4096
theorem elem_of {t e k bytes : Nat} {z : Value} (ht : Tryz.prog.underlying t = some (.slice e)) (h : (Tryz.prog.info? e).map (fun i => (i.zero, i.size, i.bytes)) = some (some z, k, bytes)) (hz : z.cells.size = k) (hk : 0 < k) (hb : bytes ≤ 4096) : ElemIs t e k bytes z := by
  obtain ⟨i0, h1, h2⟩ := Option.map_eq_some_iff.1 h
  simp only [Prod.mk.injEq] at h2
  exact ⟨ht, i0, h1, h2.1, h2.2.1, h2.2.2, hz, hk, hb⟩
/-- One more. -/
theorem append_one {α : Type} {t e ty k bytes base : Nat} {z : Value} (hE : ElemIs t e k bytes z) {enc : α → List Value} (hk : ∀ x, (enc x).length = k) (h1 : ∀ x, ∀ u ∈ enc x, u.oneCell' = true) {v : Value} {xs : List α} {x : α} {w : World} {bl off c : Nat} (hown : ORow e k enc base w v xs) (hsrc : ∀ j u, (enc x)[j]? = some u → w.cell? ⟨bl, off + j, none⟩ = some u) (hn : xs.length < 1000000) (hb : base ≤ w.heap.size) :
    ∃ v' w', (Builtin.append_ #[t, t] ty #[v, .slice (some ⟨bl, off, none⟩) 1 c]).run Tryz.prog w = .ok v' w' ∧ ORow e k enc base w' v' (xs ++ [x]) ∧ Below base w w' ∧ (∀ g, some g ≠ v.ownBlock → g < w.heap.size → w'.heap[g]? = w.heap[g]?) := by
  obtain ⟨ht, i0, hi, hz, hsize, hby, hzs, hk0, hbb⟩ := hE
  obtain ⟨v', w', q1, q2, q3, _⟩ := run_append_own (P := Tryz.prog) (w := w) base t ty e i0 z k bytes ht hi hz hsize hby hzs hk0 v xs.length _ hown ⟨bl, off, none⟩ 1 c (enc x) (by rw [hk, Nat.one_mul]) (fun j u hu => by
    have hadd : (⟨bl, off, none⟩ : Addr).add j = ⟨bl, off + j, none⟩ := by unfold Addr.add; split <;> simp_all
    rw [hadd]; exact hsrc j u hu) (h1 x) (by unfold maxLen; omega) (Nat.le_trans (Nat.mul_le_mul (show xs.length + 1 ≤ 1000000 by omega) hbb) (by decide)) hb
  refine ⟨v', w', q1, ?_, (Below.refl base w).grown q3 hb fun q h => (hown.lt q h).1, fun g hg hl => q3.block g hl hg⟩
  unfold ORow
  rw [List.length_append, List.map_append, List.flatten_append]
  simpa using q2
end Go.Proofs.YthfilnflgahcjaaGreatDoor

