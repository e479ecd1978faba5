/- Small things that the texts of this seat stand on. A range over a function whose rounds may panic: one round, out of its body's walk. Small things of worlds and cells. Values as trees, and how a tree lies in memory. Going over a value: walk, within, and what a round must keep. A value is weighed: too great a one gives up. -/
import Derived.Test.YthfilnflgahcjaaGreatDoorRows
import Derived.BigQuiet
import Derived.Deep.QuietTactic
import Derived.Laws.Bits128
import Derived.Laws.MathBits
import Derived.Maps.AppendAt
import Derived.WalkKit
import Derived.WalkLawsBesides
import Derived.WalkMore
import Derived.WalkSmall
import Derived.WalkSpells
import Derived.RangeFuncKeeps
import Derived.RangeFuncBound
import Derived.RangeFuncCalls
import Derived.RangeFuncNested
import Derived.RangeFuncBox
import Derived.Shelf.Abstract
import Derived.Shelf.RegionOpen
import Derived.OwnWalkIn
import Derived.TacticsInMore
import Derived.LoopNIn
import Derived.LoopIn
import Derived.Orders
import Derived.Below
import Derived.RangeFuncRecord
import Derived.Deep.RegionWith
namespace Go.Proofs.YthfilnflgahcjaaGreatDoor
open Go.RowKit
set_option linter.unusedVariables false
theorem below_on {w w1 w2 : World} (h : Below w.heap.size w w1) (k : Below w1.heap.size w1 w2) : Below w.heap.size w w2 := h.trans (k.mono h.size)
end Go.Proofs.YthfilnflgahcjaaGreatDoor

namespace Go.Proofs.YthfilnflgahcjaaGreatDoor
open Go.RowKit
set_option linter.unusedVariables false
variable {F : Fence} {n : Nat} {P : Program}
def asBusy (r : Loop) : Loop := { r with state := .busy }
def asReady (r : Loop) : Loop := { r with state := .ready, pending := none }
def asDone (r : Loop) (c : Code) : Loop := { r with state := .done, pending := some c }
def asSpent (r : Loop) : Loop := { r with state := .exhausted }
/-- How a round may be left: its record is still busy; what is handed back, and in which world. -/
def leftBy (P : Program) (l : Nat) (rec : Loop) (R : Ending → World → Prop) : Exit → Act → World → Prop
  | .normal, _, W => W.heap[l]? = some (.loop (asBusy rec)) ∧ R (.returned (.bool true)) (W.putObj l (.loop (asReady rec)))
  | .ret, _, W => W.heap[l]? = some (.loop (asBusy rec)) ∧ R (.returned (.bool false)) (W.putObj l (.loop (asDone rec .ret)))
  | .exit id, _, W => W.heap[l]? = some (.loop (asBusy rec)) ∧ R (.returned (.bool false)) (W.putObj l (.loop (asDone rec (.exit id))))
  | .panic ch, a, W => a.defers = [] ∧ (∃ fn, P.funcs[rec.fn]? = some fn) ∧ R (.panicked ch) W
  | _, _, _ => False
/-- One call of yield. -/
theorem yield_round {l : Nat} {rec : Loop} {W : World} {args : Array Value} {R : Ending → World → Prop} {assign body : Code} {tmps : Array Value} {params : Array Tmp} (hfn : F.fn rec.fn) (ea : assign = rec.assign) (eb : body = rec.body) (et : tmps = rec.tmps) (ep : params = rec.params)
    (hl : W.heap[l]? = some (.loop rec)) (hready : rec.state = .ready) (hsz : args.size = rec.params.size)
    (hround : assign.wpIn (F.inRound l) n P (Exit.then (fun a₁ W₁ => W₁.heap[l]? = some (.loop rec) ∧ body.wpIn (F.inRound l) n P (leftBy P l rec R) a₁ (W₁.putObj l (.loop (asBusy rec)))) (fun _ _ _ => False))
      { tmps := (params.zip args).foldl (fun tmps (t, a) => tmps.setIfInBounds t a) tmps, defers := [] } W) :
    YieldAt F n P l args W R := by
  subst ea eb et ep
  refine ⟨rec.fn, _, rec.assign, rec.body, run_yield hl hsz, hfn, fun c cs hr => ?_⟩
  have hr' : (F.inRound l).room ((c :: cs).length + 1 + n) := hr
  obtain ⟨e, a, w, hq, harr⟩ := hround { (default : Frame) with fn := rec.fn, kind := .normal, roundOf := some l } [.beginRound, .code rec.body] (c :: cs) rfl hfn hr'
  cases e with
  | normal =>
    obtain ⟨hl2, hbody⟩ := hq
    have s0 := StepsIn.one (I := Machine.fenced P (F.inRound l)) (fenced_calm (fr := Frame.atR { (default : Frame) with fn := rec.fn, kind := .normal, roundOf := some l } a [.beginRound, .code rec.body]) hfn hr' rfl)
      (stepR_beginRound (P := P) (b := { (default : Frame) with fn := rec.fn, kind := .normal, roundOf := some l }) (a := a) (k := [.code rec.body]) (cs := c :: cs) rfl (run_beginRound hl2 hready))
    obtain ⟨e, a2, w2, hq, harr2⟩ := hbody { (default : Frame) with fn := rec.fn, kind := .normal, roundOf := some l } [] (c :: cs) rfl hfn hr'
    have hgo := StepsIn.trans harr s0
    cases e with
    | normal =>
      obtain ⟨h1, h2⟩ := hq
      have hend := run_endRound (P := P) none h1
      exact ⟨_, _, h2, hgo.trans (StepsIn.trans harr2 (.one (fenced_calm hfn hr' rfl) (stepR_round_end rfl rfl hend)))⟩
    | ret =>
      obtain ⟨h1, h2⟩ := hq
      have hend := run_endRound (P := P) (some .ret) h1
      obtain ⟨k1, hs⟩ := harr2.2 rfl
      exact ⟨_, _, h2, hgo.trans (StepsIn.trans hs (.one (fenced_calm hfn hr' rfl) (stepR_round_ret rfl rfl hend)))⟩
    | exit id =>
      obtain ⟨h1, h2⟩ := hq
      have hend := run_endRound (P := P) (some (.exit id)) h1
      obtain ⟨k1, hk, hs⟩ := harr2.2 rfl rfl
      exact ⟨_, _, h2, hgo.trans (StepsIn.trans hs (.one (fenced_calm hfn hr' rfl) (stepR_round_exit rfl rfl hk hend)))⟩
    | panic ch =>
      obtain ⟨h1, ⟨fn, hex⟩, h2⟩ := hq
      obtain ⟨todo, hs⟩ := harr2
      refine ⟨.panicked ch, w2, h2, hgo.trans (StepsIn.trans hs (.one ?_ (step_leave_panicked ⟨rfl, h1, fn, hex⟩)))⟩
      exact fenced_leaving (e := .panicked ch) hfn hr' ⟨rfl, h1, fn, hex⟩
    | goto t => exact hq.elim
    | outgrown => exact hq.elim
  | exit id => exact hq.elim
  | goto t => exact hq.elim
  | ret => exact hq.elim
  | panic ch => exact hq.elim
  | outgrown => exact hq.elim
/-- What comes behind the function that was ranged over. -/
def behind (F : Fence) (n : Nat) (P : Program) (l : Nat) (Q : Exit → Act → World → Prop) (a : Act) : Ending → World → Prop
  | .returned _, W => ∃ rec : Loop, W.heap[l]? = some (.loop rec) ∧ rec.state ≠ .busy ∧
      (match rec.pending with
       | none => Q .normal a (W.putObj l (.loop (asSpent rec)))
       | some c => c.wpIn F n P Q a (W.putObj l (.loop (asSpent rec))))
  | .panicked ch, W => Q (.panic ch) a W
  | .outgrown, _ => False
/-- A range over a function value: the record is laid, and the function is called with yield. -/
theorem range_wp {g : Operand} {ps : Array Tmp} {assign body : Code} {Q : Exit → Act → World → Prop} {a : Act} {w : World} (hro : F.round = none) (hn : F.depth = none)
    {gf : Nat} {lb : Array Value} (hg : a.eval g = .func (.func gf) #[] lb) (hFg : F.fn gf) (eg : ∀ args w, (callFunc gf args).run P w = .ok (.enter gf args) w)
    (h : ∀ fn, F.fn fn → CallsIn F (n - 1) P gf (#[.func (.yield (w.heap.size + 1)) #[] #[]] ++ lb)
      ((w.alloc (.deferred (some []))).alloc (.loop { state := .ready, pending := none, fn, tmps := a.tmps, params := ps, assign, body, defers := w.heap.size }))
      (behind F n P (w.heap.size + 1) Q { a with defers := { target := .collected w.heap.size, args := #[] } :: a.defers })) :
    (Code.rangeFunc g ps assign body).wpIn F n P Q a w := by
  refine wpIn_rangeFunc fun fn hfn => ?_
  refine ⟨_, _, _, { target := .fn (.func gf) lb, args := #[.func (.yield (w.heap.size + 1)) #[] #[]] },
    (w.alloc (.deferred (some []))).alloc (.loop { state := .ready, pending := none, fn, tmps := a.tmps, params := ps, assign, body, defers := w.heap.size }), gf, _, _, (by rw [hro]; exact run_enterLoop_outer _ _ _ _ _), ?_, ?_, ?_, fun hs => (by rw [hn] at hs; cases hs), (h fn hfn).mono ?_⟩
  · simp only [resolve, hg]; simp [go_sem]
  · intro f' hf'; simp [Target.leads] at hf'; subst hf'; exact hFg
  · simp [invoke, go_sem, eg]
  · rintro e W hb
    cases e with
    | returned v =>
      obtain ⟨rec, h1, h2, h3⟩ := hb
      refine ⟨rec.pending, _, run_endLoop h1 h2, ?_⟩
      have e : (asSpent rec) = { rec with state := .exhausted } := rfl
      rw [e] at h3
      cases hp : rec.pending <;> simp only [hp] at h3 ⊢ <;> exact h3
    | panicked ch => exact hb
    | outgrown => exact hb.elim
/-- A world in which nothing from C on has turned. -/
structure Above (C : Nat) (W W' : World) : Prop where
  size : W.heap.size ≤ W'.heap.size
  block : ∀ k, C ≤ k → k < W.heap.size → W'.heap[k]? = W.heap[k]?
theorem Above.refl (C : Nat) (W : World) : Above C W W := ⟨Nat.le_refl _, fun _ _ _ => rfl⟩
theorem Above.trans {C : Nat} {A B D : World} (h : Above C A B) (k : Above C B D) : Above C A D :=
  ⟨Nat.le_trans h.size k.size, fun i hi hl => (k.block i hi (Nat.lt_of_lt_of_le hl h.size)).trans (h.block i hi hl)⟩
theorem Above.of_below {C B : Nat} {A D : World} (h : Below B A D) (hB : A.heap.size ≤ B) : Above C A D := ⟨h.size, fun i _ hl => h.block i (by omega)⟩
theorem Above.cell {C : Nat} {W W' : World} (h : Above C W W') {p : Addr} (h1 : C ≤ p.block) (h2 : p.block < W.heap.size) : W'.cell? p = W.cell? p := World.cell?_of_block (h.block _ h1 h2)
theorem Above.alloc {C : Nat} {A D : World} (h : Above C A D) (o : Obj) : Above C A (D.alloc o) := h.trans ⟨by simp, fun k _ hl => Below.heap_alloc _ _ _ hl⟩
theorem heap_alloc_at (w : World) (o : Obj) (k : Nat) : (w.alloc o).heap[k]? = if k = w.heap.size then some o else w.heap[k]? := by
  show (w.heap.push o)[k]? = _
  rw [Array.getElem?_push]
/-- A world that parts from another in one block alone. -/
structure But (i : Nat) (A B : World) : Prop where
  os : B.os = A.os
  tape : B.tape = A.tape
  output : B.output = A.output
  size : B.heap.size = A.heap.size
  block : ∀ k, k ≠ i → B.heap[k]? = A.heap[k]?
theorem But.refl (i : Nat) (A : World) : But i A A := ⟨rfl, rfl, rfl, rfl, fun _ _ => rfl⟩
theorem But.setCell {i : Nat} {A B : World} (h : But i A B) {p : Addr} (hp : p.block = i) (u : Value) : But i A (B.setCell p u) :=
  ⟨h.os, h.tape, h.output, (by simp [World.setCell, h.size]), fun k hk => (Below.heap_setCell _ _ _ _ (by omega)).trans (h.block k hk)⟩
theorem But.cell {i : Nat} {A B : World} (h : But i A B) {p : Addr} (hp : p.block ≠ i) : B.cell? p = A.cell? p := World.cell?_of_block (h.block _ hp)
theorem But.below {i n : Nat} {w A B : World} (h : But i A B) (k : Below n w A) (hi : n ≤ i) : Below n w B :=
  ⟨h.os.trans k.os, h.tape.trans k.tape, h.output.trans k.output, (by rw [h.size]; exact k.size), fun j hj => (h.block j (by omega)).trans (k.block j hj)⟩
theorem But.putObj {A : World} (i : Nat) (o : Obj) : But i A (A.putObj i o) := ⟨rfl, rfl, rfl, (by simp), fun k hk => World.putObj_heap_other hk⟩
theorem room_of_none {F : Fence} (hd : F.depth = none) (k : Nat) : F.room k := fun d h => by rw [hd] at h; cases h
theorem depth_none {F : Fence} (hd : F.depth = none) (k : Nat) : (F.depth.isSome = true → 1 ≤ k) := fun h => by rw [hd] at h; cases h
end Go.Proofs.YthfilnflgahcjaaGreatDoor

namespace Go.Proofs.YthfilnflgahcjaaGreatDoor
open Go.RowKit Go.Shelf
set_option linter.unusedVariables false
theorem hidE {p : Prop} (h : p) : Hid p := h
theorem lt_of_cell {w : World} {p : Addr} {v : Value} (h : w.cell? p = some v) : p.block < w.heap.size := by
  obtain ⟨o, ho, _⟩ := cells_of_cell h
  exact (Array.getElem?_eq_some_iff.1 ho).1
theorem cell_below {B : Nat} {w w' : World} (h : Below B w w') (hB : w.heap.size ≤ B) {p : Addr} {v : Value} (hc : w.cell? p = some v) : w'.cell? p = some v :=
  (h.cell (p := p) (Nat.lt_of_lt_of_le (lt_of_cell hc) hB)).trans hc
theorem cell_new (W : World) (cs : Array Value) (ty : TypeId) (i : Nat) (v : Value) (h : cs[i]? = some v) : (W.alloc (.cells cs ty)).cell? ⟨W.heap.size, i, none⟩ = some v := by
  have e := World.alloc_heap_new W (.cells cs ty)
  unfold World.cell?
  simp only [e, h]
  rfl
theorem ne_bool {a b : Int} (h : a ≠ b) : (a == b) = false := beq_eq_false_iff_ne.2 h
theorem eq_bool {a b : Int} (h : a = b) : (a == b) = true := beq_iff_eq.2 h
end Go.Proofs.YthfilnflgahcjaaGreatDoor

namespace Go.Proofs.YthfilnflgahcjaaGreatDoor
open Go.RowKit
set_option linter.unusedVariables false
/-- A value: its kind, truth, number, text, keys, and what is in it. -/
inductive Tree where
  | mk (k : Int) (b : Bool) (n : Int) (s : ByteArray) (ks : List ByteArray) (ts : List Tree)
theorem Tree.ind {p : Tree → Prop} (h : ∀ k b n s ks ts, (∀ t ∈ ts, p t) → p (.mk k b n s ks ts)) : ∀ T, p T
  | .mk k b n s ks ts => h k b n s ks ts fun t ht => Tree.ind h t
termination_by T => SizeOf.sizeOf T
decreasing_by
  have := List.sizeOf_lt_of_mem ht
  simp
  omega
def Tree.kind : Tree → Int | .mk k _ _ _ _ _ => k
def Tree.text : Tree → ByteArray | .mk _ _ _ s _ _ => s
def Tree.keys : Tree → List ByteArray | .mk _ _ _ _ ks _ => ks
def Tree.kids : Tree → List Tree | .mk _ _ _ _ _ ts => ts
/-- Texts in a row from a place on. -/
def KeysLie (B : Nat) (w : World) (ad : Option Addr) (ks : List ByteArray) : Prop :=
  ks = [] ∨ ∃ b off, ad = some ⟨b, off, none⟩ ∧ b < B ∧ ∀ i, i < ks.length → w.cell? ⟨b, off + i, none⟩ = some (.string (ks.getD i ⟨#[]⟩)) ∧ (ks.getD i ⟨#[]⟩).size ≤ maxLen
mutual
/-- A value in registers, what is in it in blocks below B. -/
def Lies (B : Nat) (w : World) : Value → Tree → Prop
  | v, .mk k b n s ks ts => ∃ ka kc la lc, v = .agg #[.int .i64 k, .bool b, .int .i64 n, .string s, .slice ka ks.length kc, .slice la ts.length lc] ∧
      (s.size ≤ maxLen ∧ ks.length ≤ kc ∧ kc ≤ maxLen ∧ ts.length ≤ lc ∧ lc ≤ maxLen) ∧ KeysLie B w ka ks ∧ (ts = [] ∨ ∃ bl off, la = some ⟨bl, off, none⟩ ∧ bl < B ∧ KidsLie B w bl off ts)
/-- Values in a row: six cells each. -/
def KidsLie (B : Nat) (w : World) (bl : Nat) : Nat → List Tree → Prop
  | _, [] => True
  | off, t :: ts => (∃ v0 v1 v2 v3 v4 v5, (w.cell? ⟨bl, off, none⟩ = some v0 ∧ w.cell? ⟨bl, off + 1, none⟩ = some v1 ∧ w.cell? ⟨bl, off + 2, none⟩ = some v2 ∧ w.cell? ⟨bl, off + 3, none⟩ = some v3 ∧
      w.cell? ⟨bl, off + 4, none⟩ = some v4 ∧ w.cell? ⟨bl, off + 5, none⟩ = some v5) ∧ Lies B w (.agg #[v0, v1, v2, v3, v4, v5]) t) ∧ KidsLie B w bl (off + 6) ts
end
mutual
theorem Lies.below {B : Nat} {w w' : World} (h : Below B w w') : ∀ {v : Value} {T : Tree}, Lies B w v T → Lies B w' v T
  | v, .mk k b n s ks ts, hl => by
    simp only [Lies] at hl ⊢
    obtain ⟨ka, kc, la, lc, hv, hb, hk, ht⟩ := hl
    refine ⟨ka, kc, la, lc, hv, hb, ?_, ?_⟩
    · rcases hk with hk | ⟨bk, off, e, hlt, hc⟩
      · exact .inl hk
      · exact .inr ⟨bk, off, e, hlt, fun i hi => ⟨(h.cell (p := ⟨bk, off + i, none⟩) hlt).trans (hc i hi).1, (hc i hi).2⟩⟩
    · rcases ht with ht | ⟨bl, off, e, hlt, hc⟩
      · exact .inl ht
      · exact .inr ⟨bl, off, e, hlt, KidsLie.below h hlt hc⟩
theorem KidsLie.below {B : Nat} {w w' : World} (h : Below B w w') {bl : Nat} (hlt : bl < B) : ∀ {off : Nat} {ts : List Tree}, KidsLie B w bl off ts → KidsLie B w' bl off ts
  | off, [], hl => by simp only [KidsLie]
  | off, t :: ts, hl => by
    simp only [KidsLie] at hl ⊢
    obtain ⟨⟨v0, v1, v2, v3, v4, v5, ⟨c0, c1, c2, c3, c4, c5⟩, hv⟩, hr⟩ := hl
    exact ⟨⟨v0, v1, v2, v3, v4, v5, ⟨(h.cell (p := ⟨bl, off, none⟩) hlt).trans c0, (h.cell (p := ⟨bl, off + 1, none⟩) hlt).trans c1, (h.cell (p := ⟨bl, off + 2, none⟩) hlt).trans c2, (h.cell (p := ⟨bl, off + 3, none⟩) hlt).trans c3,
      (h.cell (p := ⟨bl, off + 4, none⟩) hlt).trans c4, (h.cell (p := ⟨bl, off + 5, none⟩) hlt).trans c5⟩, Lies.below h hv⟩, KidsLie.below h hlt hr⟩
end
mutual
theorem Lies.mono {B B' : Nat} {w : World} (h : B ≤ B') : ∀ {v : Value} {T : Tree}, Lies B w v T → Lies B' w v T
  | v, .mk k b n s ks ts, hl => by
    simp only [Lies] at hl ⊢
    obtain ⟨ka, kc, la, lc, hv, hb, hk, ht⟩ := hl
    refine ⟨ka, kc, la, lc, hv, hb, ?_, ?_⟩
    · rcases hk with hk | ⟨bk, off, e, hlt, hc⟩
      · exact .inl hk
      · exact .inr ⟨bk, off, e, Nat.lt_of_lt_of_le hlt h, hc⟩
    · rcases ht with ht | ⟨bl, off, e, hlt, hc⟩
      · exact .inl ht
      · exact .inr ⟨bl, off, e, Nat.lt_of_lt_of_le hlt h, KidsLie.mono h hc⟩
theorem KidsLie.mono {B B' : Nat} {w : World} (h : B ≤ B') {bl : Nat} : ∀ {off : Nat} {ts : List Tree}, KidsLie B w bl off ts → KidsLie B' w bl off ts
  | off, [], hl => by simp only [KidsLie]
  | off, t :: ts, hl => by
    simp only [KidsLie] at hl ⊢
    obtain ⟨⟨v0, v1, v2, v3, v4, v5, hc, hv⟩, hr⟩ := hl
    exact ⟨⟨v0, v1, v2, v3, v4, v5, hc, Lies.mono h hv⟩, KidsLie.mono h hr⟩
end
/-- One value of a row. -/
theorem KidsLie.at {B : Nat} {w : World} {bl : Nat} : ∀ {ts : List Tree} {off : Nat}, KidsLie B w bl off ts → ∀ {i : Nat} {t : Tree}, ts[i]? = some t →
    ∃ v0 v1 v2 v3 v4 v5, (w.cell? ⟨bl, off + i * 6, none⟩ = some v0 ∧ w.cell? ⟨bl, off + i * 6 + 1, none⟩ = some v1 ∧ w.cell? ⟨bl, off + i * 6 + 2, none⟩ = some v2 ∧ w.cell? ⟨bl, off + i * 6 + 3, none⟩ = some v3 ∧
      w.cell? ⟨bl, off + i * 6 + 4, none⟩ = some v4 ∧ w.cell? ⟨bl, off + i * 6 + 5, none⟩ = some v5) ∧ Lies B w (.agg #[v0, v1, v2, v3, v4, v5]) t
  | [], off, _, i, t, h => by simp at h
  | t :: ts, off, hl, 0, u, h => by
    simp only [KidsLie] at hl
    simp at h; subst h
    simpa using hl.1
  | t :: ts, off, hl, i + 1, u, h => by
    simp only [KidsLie] at hl
    have := KidsLie.at hl.2 (i := i) (t := u) (by simpa using h)
    rw [show off + 6 + i * 6 = off + (i + 1) * 6 from by omega] at this
    exact this
/-- One value of a row, field by field. -/
theorem KidsLie.cells {B : Nat} {w : World} {bl : Nat} {ts : List Tree} {off : Nat} (h : KidsLie B w bl off ts) {i : Nat} {k : Int} {b : Bool} {n : Int} {s : ByteArray} {ks : List ByteArray} {us : List Tree} (ht : ts[i]? = some (.mk k b n s ks us)) :
    ∃ ka kc la lc, (w.cell? ⟨bl, off + i * 6, none⟩ = some (.int .i64 k) ∧ w.cell? ⟨bl, off + i * 6 + 1, none⟩ = some (.bool b) ∧ w.cell? ⟨bl, off + i * 6 + 2, none⟩ = some (.int .i64 n) ∧ w.cell? ⟨bl, off + i * 6 + 3, none⟩ = some (.string s) ∧
      w.cell? ⟨bl, off + i * 6 + 4, none⟩ = some (.slice ka ks.length kc) ∧ w.cell? ⟨bl, off + i * 6 + 5, none⟩ = some (.slice la us.length lc)) ∧
      Lies B w (.agg #[.int .i64 k, .bool b, .int .i64 n, .string s, .slice ka ks.length kc, .slice la us.length lc]) (.mk k b n s ks us) := by
  obtain ⟨v0, v1, v2, v3, v4, v5, ⟨c0, c1, c2, c3, c4, c5⟩, hl⟩ := h.at ht
  have hl' := hl
  simp only [Lies] at hl
  obtain ⟨ka, kc, la, lc, e, _⟩ := hl
  simp only [Value.agg.injEq, Array.mk.injEq, List.cons.injEq, and_true] at e
  obtain ⟨rfl, rfl, rfl, rfl, rfl, rfl⟩ := e
  exact ⟨ka, kc, la, lc, ⟨c0, c1, c2, c3, c4, c5⟩, hl'⟩
mutual
/-- All values of a tree, from the root on, each with how deep it lies. -/
def Tree.pre (d : Int) : Tree → List (Int × Tree)
  | .mk k b n s ks ts => (d, .mk k b n s ks ts) :: Tree.preL (d + 1) ts
def Tree.preL (d : Int) : List Tree → List (Int × Tree)
  | [] => []
  | t :: ts => t.pre d ++ Tree.preL d ts
end
mutual
/-- How deep it is. -/
def Tree.height : Tree → Nat
  | .mk _ _ _ _ _ ts => Tree.heightL ts + 1
def Tree.heightL : List Tree → Nat
  | [] => 0
  | t :: ts => max t.height (Tree.heightL ts)
end
theorem Tree.height_mem : ∀ {ts : List Tree} {t : Tree}, t ∈ ts → t.height ≤ Tree.heightL ts
  | [], _, h => by simp at h
  | u :: us, t, h => by
    simp only [Tree.heightL]
    rcases List.mem_cons.1 h with rfl | h
    · omega
    · have := Tree.height_mem h; omega
theorem Tree.preL_append (d : Int) : ∀ a b : List Tree, Tree.preL d (a ++ b) = Tree.preL d a ++ Tree.preL d b
  | [], b => by simp [Tree.preL]
  | t :: a, b => by simp [Tree.preL, Tree.preL_append d a b]
theorem Tree.preL_take (d : Int) (ts : List Tree) (i : Nat) (t : Tree) (h : ts[i]? = some t) : Tree.preL d (ts.take (i + 1)) = Tree.preL d (ts.take i) ++ t.pre d := by
  rw [List.take_add_one, h, Tree.preL_append]
  simp [Tree.preL]
end Go.Proofs.YthfilnflgahcjaaGreatDoor

namespace Go.Proofs.YthfilnflgahcjaaGreatDoor
open Go.RowKit Go.Shelf
set_option linter.unusedVariables false
attribute [local go_sem] Oper.semAt_some
/-- What the rounds of a loop over a value say of the worlds: J: how far it has come; Jx: it was left; Jp: it died. -/
structure Rounds (F : Fence) (l B C : Nat) (w0 : World) (L : List (Int × Tree)) (J : List (Int × Tree) → World → Prop) (Jx : World → Prop) (Jp : List PanicEntry → World → Prop) : Prop where
  old : ∀ pre W, J pre W → Below B w0 W ∧ B ≤ W.heap.size ∧ C ≤ W.heap.size
  more : ∀ pre W W', J pre W → Below W.heap.size W W' → J pre W'
  round : ∀ m pre d t v W, J pre W → Lies B w0 v t → pre ++ [(d, t)] <+: L → YieldAt F m Tryz.prog l #[.int .i64 d, v] W fun e W' =>
    (e = .returned (.bool true) ∧ J (pre ++ [(d, t)]) W' ∧ Above C W W') ∨ (e = .returned (.bool false) ∧ Jx W') ∨ (∃ ch, e = .panicked ch ∧ Jp ch W')
set_option maxRecDepth 100000 in
set_option maxHeartbeats 1000000 in
theorem walk_any {F : Fence} (hd : F.depth = none) (h58 : F.fn 235) (hro : F.round = none) {l B C : Nat} {w0 : World} {L : List (Int × Tree)} {J : List (Int × Tree) → World → Prop} {Jx : World → Prop} {Jp : List PanicEntry → World → Prop}
    (R : Rounds F l B C w0 L J Jx Jp) : ∀ (T : Tree) (n : Nat) (d : Int) (v : Value) (pre : List (Int × Tree)) (W : World), Lies B w0 v T → J pre W → 0 ≤ d → d + T.height ≤ 1000000000 → pre ++ T.pre d <+: L →
    CallsIn F n Tryz.prog 235 #[.int .i64 d, v, .func (.yield l) #[] #[]] W fun e W' =>
      (e = .returned (.bool true) ∧ J (pre ++ T.pre d) W' ∧ Above C W W') ∨ (e = .returned (.bool false) ∧ Jx W') ∨ (∃ ch, e = .panicked ch ∧ Jp ch W') := by
  refine Tree.ind ?_
  intro k b n s ks ts ih m d v pre W hv hJ hd1 hd2 hL
  simp only [Tree.pre] at hL
  have HL : Hid (pre ++ [(d, .mk k b n s ks ts)] ++ Tree.preL (d + 1) ts <+: L) := by simpa [Hid] using hL
  clear hL
  have hdd := depth_none hd
  have hv0 := hv
  simp only [Lies] at hv
  obtain ⟨ka, kc, la, lc, rfl, ⟨hs1, hs2, hs3, hs4, hs5⟩, hk, ht⟩ := hv
  unfold maxLen at hs1 hs3 hs5
  have ho := R.old pre W hJ
  have hy := R.round (m - 1) pre d (.mk k b n s ks ts) _ (W.alloc (.cells #[.int .i64 k, .bool b, .int .i64 n, .string s, .slice ka ks.length kc, .slice la ts.length lc] 88)) (R.more _ _ _ hJ ((Below.refl _ _).alloc (Nat.le_refl _) _)) hv0 ((List.prefix_append _ _).trans HL.out)
  obtain ⟨fn, tmps, assign, body, hy1, hR⟩ := hy
  refine callsIn_of_wp Tryz.func235 rfl h58 ?_ hro
  simp only [Tryz.ntmps235, List.size_toArray, List.length_cons, List.length_nil, Nat.reduceAdd, Nat.reduceSub, Array.replicate_succ, Array.replicate_zero, List.push_toArray, List.append_toArray, List.nil_append, List.cons_append]
  gi_wp2_with fail
  refine hR.mono ?_
  clear hR hy1
  have hC : C ≤ W.heap.size := ho.2.2
  rintro e W2 (⟨rfl, hJ2, ha2⟩ | ⟨rfl, hx2⟩ | ⟨ch, rfl, hp⟩)
  · have c5 : W2.cell? ⟨W.heap.size, 5, none⟩ = some (.slice la ts.length lc) := (ha2.cell (p := ⟨W.heap.size, 5, none⟩) hC (by simp)).trans (cell_new _ _ _ _ _ rfl)
    have HA : Hid (Above C W W2) := (((Above.refl C W).alloc _).trans ha2 : Above C W W2)
    clear ha2 ho hv0 hk hJ
    gi_wp2_with fail
    gi_loopw [17] (fun i wr => ∃ j : Nat, j ≤ ts.length ∧ i = .int .i64 j ∧ J (pre ++ [(d, .mk k b n s ks ts)] ++ Tree.preL (d + 1) (ts.take j)) wr ∧ Above C W wr) (fun i _ => ts.length - (intOf i).toNat)
    case atStart => exact ⟨0, Nat.zero_le _, rfl, by simpa [Tree.preL] using hJ2, HA.out⟩
    case round =>
      obtain ⟨j, hj, rfl, hJr, har⟩ := hrel
      by_cases hlt : j < ts.length
      · obtain ⟨⟨k', b', n', s', ks', us⟩, hti⟩ : ∃ t, ts[j]? = some t := ⟨_, List.getElem?_eq_getElem hlt⟩
        have hmem : Tree.mk k' b' n' s' ks' us ∈ ts := List.mem_of_getElem? hti
        obtain ⟨bl, off, rfl, hbl, hkids⟩ := ht.resolve_left (by intro e; subst e; simp at hlt)
        obtain ⟨ka', kc', la', lc', ⟨c0, c1, c2, c3, c4, c6⟩, hlv⟩ := hkids.cells hti
        have hold := (R.old _ _ hJr).1
        replace c0 := (hold.cell (p := ⟨bl, off + j * 6, none⟩) hbl).trans c0
        replace c1 := (hold.cell (p := ⟨bl, off + j * 6 + 1, none⟩) hbl).trans c1
        replace c2 := (hold.cell (p := ⟨bl, off + j * 6 + 2, none⟩) hbl).trans c2
        replace c3 := (hold.cell (p := ⟨bl, off + j * 6 + 3, none⟩) hbl).trans c3
        replace c4 := (hold.cell (p := ⟨bl, off + j * 6 + 4, none⟩) hbl).trans c4
        replace c6 := (hold.cell (p := ⟨bl, off + j * 6 + 5, none⟩) hbl).trans c6
        have Hti : Hid (ts[j]? = some (Tree.mk k' b' n' s' ks' us)) := hti
        have HJ : Hid (J (pre ++ [(d, .mk k b n s ks ts)] ++ Tree.preL (d + 1) (ts.take j)) wr) := hJr
        clear hti hold hkids hJr ht c5 hJ2
        have hh := Tree.height_mem hmem
        have HLt : Hid (pre ++ [(d, .mk k b n s ks ts)] ++ Tree.preL (d + 1) (ts.take j) ++ (Tree.mk k' b' n' s' ks' us).pre (d + 1) <+: pre ++ [(d, .mk k b n s ks ts)] ++ Tree.preL (d + 1) ts) := by
          have e := Tree.preL_take (d + 1) ts j _ Hti.out
          have e2 : Tree.preL (d + 1) ts = Tree.preL (d + 1) (ts.take (j + 1)) ++ Tree.preL (d + 1) (ts.drop (j + 1)) := by rw [← Tree.preL_append, List.take_append_drop]
          rw [e2, e]
          exact ⟨Tree.preL (d + 1) (ts.drop (j + 1)), by simp [List.append_assoc]⟩
        simp only [Tree.height] at hd2 hh
        gi_wp2_with fail
        refine (ih _ hmem (m - 1) (d + 1) _ _ _ hlv (R.more _ _ _ HJ.out ((Below.refl _ _).alloc (Nat.le_refl _) _)) (by omega) (by simp only [Tree.height]; omega) (HLt.out.trans HL.out)).mono ?_
        rintro e W3 (⟨rfl, hJ3, ha3⟩ | ⟨rfl, hx3⟩ | ⟨ch, rfl, hp3⟩)
        · have HJ3 : Hid (J (pre ++ [(d, .mk k b n s ks ts)] ++ Tree.preL (d + 1) (ts.take (j + 1))) W3) := by
            rw [Tree.preL_take _ _ _ _ Hti.out, ← List.append_assoc]; exact hJ3
          have HA3 : Hid (Above C W W3) := har.trans (((Above.refl C wr).alloc _).trans ha3)
          clear hJ3 ha3
          gi_wp2_with fail
          go_roundw
          case rel => exact ⟨j + 1, by omega, by go_num, HJ3.out, HA3.out⟩
          case measure => simp [intOf]; omega
        · gi_wp2_with fail
          go_ret
          exact .inr (.inl ⟨rfl, hx3⟩)
        · exact ⟨rfl, .inr (.inr ⟨ch, rfl, hp3⟩)⟩
      · gi_wp2_with fail
        go_ret
        refine .inl ⟨rfl, ?_, har⟩
        rw [List.take_of_length_le (by omega)] at hJr
        simpa [Tree.pre] using hJr
  · gi_wp2_with fail
    go_ret
    exact .inr (.inl ⟨rfl, hx2⟩)
  · exact ⟨rfl, .inr (.inr ⟨ch, rfl, hp⟩)⟩
/-- The function that within answers. -/
theorem within1_any {F : Fence} (hd : F.depth = none) (h57 : F.fn 234) (h58 : F.fn 235) (hro : F.round = none) {l B C : Nat} {w0 : World} {J : List (Int × Tree) → World → Prop} {Jx : World → Prop} {Jp : List PanicEntry → World → Prop}
    {k : Int} {b : Bool} {n : Int} {s : ByteArray} {ks : List ByteArray} {ts : List Tree} {ka : Option Addr} {kc : Nat} {la : Option Addr} {lc : Nat}
    (R : Rounds F l B C w0 ((Tree.mk k b n s ks ts).pre 1) J Jx Jp) (m bx : Nat) (W : World) (hv : Lies B w0 (.agg #[.int .i64 k, .bool b, .int .i64 n, .string s, .slice ka ks.length kc, .slice la ts.length lc]) (.mk k b n s ks ts))
    (hJ : J [] W) (hh : Tree.heightL ts < 100000000)
    (c0 : W.cell? ⟨bx, 0, none⟩ = some (.int .i64 k)) (c1 : W.cell? ⟨bx, 1, none⟩ = some (.bool b)) (c2 : W.cell? ⟨bx, 2, none⟩ = some (.int .i64 n)) (c3 : W.cell? ⟨bx, 3, none⟩ = some (.string s))
    (c4 : W.cell? ⟨bx, 4, none⟩ = some (.slice ka ks.length kc)) (c5 : W.cell? ⟨bx, 5, none⟩ = some (.slice la ts.length lc)) :
    CallsIn F m Tryz.prog 234 #[.func (.yield l) #[] #[], .pointer (some ⟨bx, 0, none⟩)] W fun e W' =>
      ((∃ x, e = .returned x) ∧ (J ((Tree.mk k b n s ks ts).pre 1) W' ∨ Jx W')) ∨ (∃ ch, e = .panicked ch ∧ Jp ch W') := by
  have hw := walk_any hd h58 hro R (.mk k b n s ks ts) (m - 1) 1 _ [] W hv hJ (by omega) (by simp only [Tree.height]; omega) (List.prefix_refl _)
  refine callsIn_of_wp Tryz.func234 rfl h57 ?_ hro
  simp only [Tryz.ntmps234, List.size_toArray, List.length_cons, List.length_nil, Nat.reduceAdd, Nat.reduceSub, Array.replicate_succ, Array.replicate_zero, List.push_toArray, List.append_toArray, List.nil_append, List.cons_append]
  gi_wp2_with fail
  refine hw.mono ?_
  rintro e W3 (⟨rfl, hJ3, ha3⟩ | ⟨rfl, hx3⟩ | ⟨ch, rfl, hp3⟩)
  · clear hw
    gi_wp2_with fail
    go_end0
    exact .inl ⟨⟨_, rfl⟩, .inl (by simpa using hJ3)⟩
  · clear hw
    gi_wp2_with fail
    go_end0
    exact .inl ⟨⟨_, rfl⟩, .inr hx3⟩
  · exact ⟨rfl, .inr ⟨ch, rfl, hp3⟩⟩
theorem within_any {F : Fence} (h45 : F.fn 197) (hro : F.round = none) (m : Nat) (k : Int) (b : Bool) (n : Int) (s : ByteArray) (ka : Option Addr) (kl kc : Nat) (la : Option Addr) (ll lc : Nat) (w : World) :
    CallsIn F m Tryz.prog 197 #[.agg #[.int .i64 k, .bool b, .int .i64 n, .string s, .slice ka kl kc, .slice la ll lc]] w fun e w' =>
      e = .returned (.func (.func 234) #[] #[.pointer (some ⟨w.heap.size, 0, none⟩)]) ∧ w' = w.alloc (.cells #[.int .i64 k, .bool b, .int .i64 n, .string s, .slice ka kl kc, .slice la ll lc] 88) := by
  refine callsIn_of_wp Tryz.func197 rfl h45 ?_ hro
  simp only [Tryz.ntmps197, List.size_toArray, List.length_cons, List.length_nil, Nat.reduceAdd, Nat.reduceSub, Array.replicate_succ, Array.replicate_zero, List.push_toArray, List.append_toArray, List.nil_append, List.cons_append]
  gi_wp2
  go_ret
  exact ⟨rfl, rfl⟩
end Go.Proofs.YthfilnflgahcjaaGreatDoor

namespace Go.Proofs.YthfilnflgahcjaaGreatDoor
open Go.RowKit Go.Shelf
set_option linter.unusedVariables false
attribute [local go_sem] Oper.semAt_some
def keyBytes (ks : List ByteArray) : Int := (ks.map fun k => (k.size : Int)).sum
/-- The bytes of a value's own text and keys. -/
def Tree.bytes (t : Tree) : Int := t.text.size + keyBytes t.keys
/-- Is a value in a row of values too great, with so many bytes ahead? -/
def heavy : Int → List (Int × Tree) → Bool
  | _, [] => false
  | a, (d, t) :: r => decide (64 < d ∨ 65536 < t.kids.length ∨ 1048576 < a + t.bytes) || heavy (a + t.bytes) r
def bytesOf (l : List (Int × Tree)) : Int := (l.map fun x => x.2.bytes).sum
theorem heavy_snoc (l : List (Int × Tree)) : ∀ (a d : Int) (t : Tree), heavy a (l ++ [(d, t)]) = (heavy a l || decide (64 < d ∨ 65536 < t.kids.length ∨ 1048576 < a + bytesOf l + t.bytes)) := by
  induction l with
  | nil => intro a d t; simp [heavy, bytesOf]
  | cons x r ih =>
    intro a d t
    obtain ⟨e, u⟩ := x
    simp only [List.cons_append, heavy, ih, bytesOf, List.map_cons, List.sum_cons, Bool.or_assoc]
    congr 2
    rw [show a + (u.bytes + (r.map fun x => x.2.bytes).sum) + t.bytes = a + u.bytes + (r.map fun x => x.2.bytes).sum + t.bytes from by omega]
    rfl
theorem heavy_prefix {p l : List (Int × Tree)} (h : p <+: l) : ∀ a, heavy a p = true → heavy a l = true := by
  obtain ⟨r, rfl⟩ := h
  induction p with
  | nil => intro a h; simp [heavy] at h
  | cons x p ih =>
    intro a h
    obtain ⟨d, t⟩ := x
    simp only [List.cons_append, heavy, Bool.or_eq_true] at h ⊢
    exact h.imp id (ih _)
theorem keyBytes_nonneg (ks : List ByteArray) : 0 ≤ keyBytes ks := by
  induction ks with
  | nil => simp [keyBytes]
  | cons k r ih => simp only [keyBytes, List.map_cons, List.sum_cons] at ih ⊢; omega
theorem bytes_nonneg (t : Tree) : 0 ≤ t.bytes := by have := keyBytes_nonneg t.keys; unfold Tree.bytes; omega
theorem bytesOf_append (a b : List (Int × Tree)) : bytesOf (a ++ b) = bytesOf a + bytesOf b := by simp [bytesOf]
theorem bytesOf_one (d : Int) (k : Int) (b : Bool) (n : Int) (s : ByteArray) (ks : List ByteArray) (ts : List Tree) : bytesOf [(d, .mk k b n s ks ts)] = s.size + keyBytes ks := by simp [bytesOf, Tree.bytes, Tree.text, Tree.keys]
theorem bytesOf_nonneg (l : List (Int × Tree)) : 0 ≤ bytesOf l := by
  induction l with
  | nil => simp [bytesOf]
  | cons x r ih => have := bytes_nonneg x.2; simp only [bytesOf, List.map_cons, List.sum_cons] at ih ⊢; omega
theorem bytesOf_prefix {p l : List (Int × Tree)} (h : p <+: l) : bytesOf p ≤ bytesOf l := by
  obtain ⟨r, rfl⟩ := h
  have := bytesOf_nonneg r
  rw [bytesOf_append]; omega
theorem keyBytes_take (ks : List ByteArray) (j : Nat) (h : j < ks.length) : keyBytes (ks.take (j + 1)) = keyBytes (ks.take j) + (ks.getD j ⟨#[]⟩).size := by
  rw [List.take_add_one, List.getD_eq_getElem?_getD, List.getElem?_eq_getElem h]; simp only [keyBytes, Option.toList_some, List.map_append, List.sum_append, List.map_cons, List.map_nil, List.sum_cons, List.sum_nil, Option.getD_some]; omega
theorem keyBytes_le (ks : List ByteArray) (j : Nat) : keyBytes (ks.take j) ≤ keyBytes ks := by
  have h : keyBytes ks = keyBytes (ks.take j) + keyBytes (ks.drop j) := by
    have := congrArg keyBytes (List.take_append_drop j ks)
    rw [← this]; simp [keyBytes, -List.take_append_drop]
  have := keyBytes_nonneg (ks.drop j); omega
set_option maxRecDepth 100000 in
set_option maxHeartbeats 1000000 in
theorem weigh_any {F : Fence} (hd : F.depth = none) (hro : F.round = none) (h48 : F.fn 200) (h45 : F.fn 197) (h57 : F.fn 234) (h58 : F.fn 235) (hex : ∀ f, F.fn f → ∃ fn, Tryz.prog.funcs[f]? = some fn) (m : Nat) (v : Value) (T : Tree) (w : World)
    (hv : Lies w.heap.size w v T) (hh : T.height < 100000000) (hb : bytesOf (T.pre 1) < 4611686018427387904) :
    CallsIn F m Tryz.prog 200 #[v] w fun e w' => Below w.heap.size w w' ∧ ((heavy 0 (T.pre 1) = false ∧ ∃ x, e = .returned x) ∨ (heavy 0 (T.pre 1) = true ∧ e = .panicked [{ v := .iface 34 (.int .i64 3), recovered := false }])) := by
  obtain ⟨k, b, n, s, ks, ts⟩ := T
  have hv0 := hv
  simp only [Lies] at hv
  obtain ⟨ka, kc, la, lc, rfl, ⟨hs1, hs2, hs3, hs4, hs5⟩, hk, ht⟩ := hv
  refine callsIn_of_wp_marks Tryz.func200 rfl h48 ?_ hro
  simp only [Tryz.ntmps200, List.size_toArray, List.length_cons, List.length_nil, Nat.reduceAdd, Nat.reduceSub, Array.replicate_succ, Array.replicate_zero, List.push_toArray, List.append_toArray, List.nil_append, List.cons_append]
  gi_wp2_with (gi_at_call 197; refine (within_any h45 hro _ _ _ _ _ _ _ _ _ _ _ _).mono ?_; rintro e w' ⟨rfl, rfl⟩)
  refine range_wp hro hd (gf := 234) (lb := #[.pointer (some ⟨w.heap.size + 1 + 1, 0, none⟩)]) rfl h57 (enters_of Tryz.func234 (by kernel_rfl) rfl) ?_
  intro fn hfn
  generalize hrec : Loop.mk _ _ _ _ _ _ _ _ = rec
  simp only [World.size_alloc]
  generalize hW0 : World.alloc _ (Obj.loop rec) = W0
  have hsz : W0.heap.size = w.heap.size + 5 := by rw [← hW0]; simp
  have b1 : W0.heap[w.heap.size + 1]? = some (.cells #[.int .i64 0] 3 (0, 0)) := by rw [← hW0]; simp only [heap_alloc_at, World.size_alloc]; repeat (first | rw [if_pos trivial] | rw [if_pos (by omega)] | rw [if_neg (by omega)])
  have b2 : W0.heap[w.heap.size + 2]? = some (.cells #[.int .i64 k, .bool b, .int .i64 n, .string s, .slice ka ks.length kc, .slice la ts.length lc] 88 (0, 0)) := by rw [← hW0]; simp only [heap_alloc_at, World.size_alloc]; repeat (first | rw [if_pos trivial] | rw [if_pos (by omega)] | rw [if_neg (by omega)])
  have b3 : W0.heap[w.heap.size + 3]? = some (.deferred (some [])) := by rw [← hW0]; simp only [heap_alloc_at, World.size_alloc]; repeat (first | rw [if_pos trivial] | rw [if_pos (by omega)] | rw [if_neg (by omega)])
  have b4 : W0.heap[w.heap.size + 4]? = some (.loop rec) := by rw [← hW0]; simp only [heap_alloc_at, World.size_alloc]; repeat (first | rw [if_pos trivial] | rw [if_pos (by omega)] | rw [if_neg (by omega)])
  have hbl : Below w.heap.size w W0 := by
    rw [← hW0]; exact (((((Below.refl _ w).alloc (Nat.le_refl _) _).alloc (by simp) _).alloc (by simp; omega) _).alloc (by simp; omega) _).alloc (by simp; omega) _
  clear hW0
  have R : Rounds F (w.heap.size + 4) w.heap.size (w.heap.size + 5) w ((Tree.mk k b n s ks ts).pre 1)
      (fun pre W => W.heap[w.heap.size + 4]? = some (.loop rec) ∧ W.heap[w.heap.size + 3]? = some (.deferred (some [])) ∧ W.heap[w.heap.size + 1]? = some (.cells #[.int .i64 (bytesOf pre)] 3 (0, 0)) ∧
        Below w.heap.size w W ∧ w.heap.size + 5 ≤ W.heap.size ∧ heavy 0 pre = false)
      (fun _ => False)
      (fun ch W => ch = [{ v := .iface 34 (.int .i64 3), recovered := false }] ∧ W.heap[w.heap.size + 3]? = some (.deferred (some [])) ∧ Below w.heap.size w W ∧ heavy 0 ((Tree.mk k b n s ks ts).pre 1) = true) := by
    refine ⟨?_, ?_, ?_⟩
    · rintro pre W ⟨_, _, _, h4, h5, _⟩
      exact ⟨h4, by omega, h5⟩
    · rintro pre W W' ⟨h1, h2, h3, h4, h5, h6⟩ hb
      exact ⟨(hb.block _ (by omega)).trans h1, (hb.block _ (by omega)).trans h2, (hb.block _ (by omega)).trans h3, h4.trans (hb.mono (by omega)), by have := hb.size; omega, h6⟩
    · rintro m' pre d ⟨k', b', n', s', ks', us⟩ v W ⟨h1, h2, h3, h4, h5, h6⟩ hlv hpre
      simp only [Lies] at hlv
      obtain ⟨ka', kc', la', lc', rfl, ⟨g1, g2, g3, g4, g5⟩, hk', ht'⟩ := hlv
      have ea := congrArg Loop.assign hrec
      have eb := congrArg Loop.body hrec
      have et := congrArg Loop.tmps hrec
      have ep := congrArg Loop.params hrec
      have es := congrArg Loop.state hrec
      have ef := congrArg Loop.fn hrec
      have hr0 : asReady rec = rec := by rw [← hrec]; rfl
      dsimp only at ea eb et ep es ef
      clear hrec
      refine yield_round (by rw [← ef]; exact hfn) ea eb et ep h1 es.symm (by rw [← ep]; rfl) ?_
      clear ea eb et ep es
      gi_wp2_with fail
      refine ⟨(Below.heap_alloc _ _ _ (by omega)).trans h1, ?_⟩
      unfold maxLen at g1 g3 g5
      generalize hW2 : World.putObj _ _ _ = W2
      have a1 : W2.heap[w.heap.size + 4]? = some (.loop (asBusy rec)) := by rw [← hW2]; refine World.putObj_heap_same ?_; simp; omega
      have a2 : Boxed W2 (w.heap.size + 1) 3 (.int .i64 (bytesOf pre)) := by rw [← hW2]; show _ = _; rw [World.putObj_heap_other (by omega), Below.heap_alloc _ _ _ (by omega)]; exact h3
      have a3 : W2.heap[w.heap.size + 3]? = some (.deferred (some [])) := by rw [← hW2, World.putObj_heap_other (by omega), Below.heap_alloc _ _ _ (by omega)]; exact h2
      have a4 : W2.heap[W.heap.size]? = some (.cells #[.int .i64 k', .bool b', .int .i64 n', .string s', .slice ka' ks'.length kc', .slice la' us.length lc'] 88 (0, 0)) := by
        rw [← hW2]; exact (World.putObj_heap_other (by omega)).trans (World.alloc_heap_new _ _)
      have a5 : Below w.heap.size w W2 := by rw [← hW2]; exact (But.putObj _ _).below ((h4.alloc (by omega) _)) (by omega)
      have a6 : W2.heap.size = W.heap.size + 1 := by rw [← hW2]; simp
      have a7 : Above (w.heap.size + 5) W W2 := ⟨by omega, fun i hi hl => by rw [← hW2]; exact (World.putObj_heap_other (by omega)).trans (Below.heap_alloc _ _ _ hl)⟩
      clear hW2 h1 h2 h3
      have cb := a2.cell
      have fb := a2.frozen
      have x3 : W2.cell? ⟨W.heap.size, 3, none⟩ = some (.string s') := by unfold World.cell?; simp only [a4]; rfl
      have x4 : W2.cell? ⟨W.heap.size, 4, none⟩ = some (.slice ka' ks'.length kc') := by unfold World.cell?; simp only [a4]; rfl
      have hne : ¬ (W.heap.size = w.heap.size + 1) := by omega
      have hnb := bytesOf_nonneg pre
      have hbb := bytesOf_prefix hpre
      rw [bytesOf_append, bytesOf_one] at hbb
      have hkb := keyBytes_nonneg ks'
      gi_wp2_with fail
      gi_loopw [19] (fun i wr => ∃ j : Nat, j ≤ ks'.length ∧ i = .int .i64 j ∧ But (w.heap.size + 1) W2 wr ∧ Boxed wr (w.heap.size + 1) 3 (.int .i64 (bytesOf pre + s'.size + keyBytes (ks'.take j)))) (fun i _ => ks'.length - (intOf i).toNat)
      case atStart => exact ⟨0, Nat.zero_le _, rfl, (But.refl _ _).setCell (p := ⟨w.heap.size + 1, 0, none⟩) rfl _, by simpa [keyBytes] using a2.set _⟩
      case round =>
        obtain ⟨j, hj, rfl, hbut, hbx⟩ := hrel
        have kj := keyBytes_nonneg (ks'.take j)
        have kl := keyBytes_le ks' j
        have cb' := hbx.cell
        have fb' := hbx.frozen
        clear cb fb x3 x4
        by_cases hlt : j < ks'.length
        · obtain ⟨bk, off, rfl, hbk, hkey⟩ := hk'.resolve_left (by intro e; subst e; simp at hlt)
          have hc := hkey j hlt
          have hck : wr.cell? ⟨bk, off + j, none⟩ = some (.string (ks'.getD j ⟨#[]⟩)) := ((hbut.cell (p := ⟨bk, off + j, none⟩) (by show bk ≠ _; omega)).trans (a5.cell (p := ⟨bk, off + j, none⟩) hbk)).trans hc.1
          have HS : Hid (keyBytes (ks'.take (j + 1)) = keyBytes (ks'.take j) + (ks'.getD j ⟨#[]⟩).size) := keyBytes_take ks' j hlt
          have kl2 := keyBytes_le ks' (j + 1)
          rw [HS.out] at kl2
          have hsz := hc.2
          unfold maxLen at hsz
          generalize ks'.getD j ⟨#[]⟩ = kx at *
          clear hkey hc
          gi_wp2_with fail
          go_roundw
          case rel => exact ⟨j + 1, by omega, by go_num, hbut.setCell (p := ⟨w.heap.size + 1, 0, none⟩) rfl _, by rw [HS.out, ← Int.add_assoc]; exact hbx.set _⟩
          case measure => simp [intOf]; omega
        · rw [List.take_of_length_le (by omega)] at hbx kj kl cb'
          have x5 : wr.cell? ⟨W.heap.size, 5, none⟩ = some (.slice la' us.length lc') := (hbut.cell (p := ⟨W.heap.size, 5, none⟩) (by show W.heap.size ≠ _; omega)).trans (by unfold World.cell?; simp only [a4]; rfl)
          have HH : Hid (heavy 0 (pre ++ [(d, .mk k' b' n' s' ks' us)]) = decide (64 < d ∨ 65536 < us.length ∨ 1048576 < bytesOf pre + s'.size + keyBytes ks')) := by
            show _ = _
            rw [heavy_snoc, h6]; simp [Tree.kids, Tree.bytes, Tree.text, Tree.keys, Int.add_assoc]
          have HB : Hid (bytesOf (pre ++ [(d, .mk k' b' n' s' ks' us)]) = bytesOf pre + s'.size + keyBytes ks') := by show _ = _; rw [bytesOf_append, bytesOf_one]; omega
          have HW : Hid (wr.heap[w.heap.size + 4]? = some (.loop (asBusy rec))) := (hbut.block _ (by omega)).trans a1
          have HD : Hid (wr.heap[w.heap.size + 3]? = some (.deferred (some []))) := (hbut.block _ (by omega)).trans a3
          have HBel : Below w.heap.size w wr := hbut.below a5 (by omega)
          have hs2 := hbut.size
          clear h6 a1 a2 a3 a4
          have HX : Hid (∃ fn, Tryz.prog.funcs[rec.fn]? = some fn) := hex _ (by rw [← ef]; exact hfn)
          by_cases q1 : 64 < d
          · gi_wp2_with fail
            have HP := heavy_prefix hpre 0 (HH.out.trans (by simp [q1]))
            first | exact ⟨rfl, HX.out, .inr (.inr ⟨_, rfl, rfl, HD.out, HBel, HP⟩)⟩ | exact ⟨rfl, HX.out, .inr ⟨_, rfl, rfl, HD.out, HBel, HP⟩⟩
          · by_cases q2 : 65536 < us.length
            · have q2' : (65536 : Int) < us.length := by omega
              gi_wp2_with fail
              have HP := heavy_prefix hpre 0 (HH.out.trans (by simp [q2]))
              first | exact ⟨rfl, HX.out, .inr (.inr ⟨_, rfl, rfl, HD.out, HBel, HP⟩)⟩ | exact ⟨rfl, HX.out, .inr ⟨_, rfl, rfl, HD.out, HBel, HP⟩⟩
            · have q2' : ¬ (65536 : Int) < us.length := by omega
              by_cases q3 : 1048576 < bytesOf pre + s'.size + keyBytes ks'
              · gi_wp2_with fail
                have HP := heavy_prefix hpre 0 (HH.out.trans (by simp [q3]))
                first | exact ⟨rfl, HX.out, .inr (.inr ⟨_, rfl, rfl, HD.out, HBel, HP⟩)⟩ | exact ⟨rfl, HX.out, .inr ⟨_, rfl, rfl, HD.out, HBel, HP⟩⟩
              · gi_wp2_with fail
                have hlt4 : w.heap.size + 4 < wr.heap.size := by omega
                refine ⟨HW.out, .inl ⟨rfl, ⟨?_, ?_, ?_, ?_, ?_, ?_⟩, ?_⟩⟩
                · rw [hr0]; exact World.putObj_heap_same hlt4
                · rw [World.putObj_heap_other (by omega)]; exact HD.out
                · rw [World.putObj_heap_other (by omega), HB.out]; exact hbx
                · exact (But.putObj _ _).below HBel (by omega)
                · rw [World.putObj_size]; omega
                · exact HH.out.trans (by simp [q1, q2, q3])
                · refine a7.trans ⟨by rw [World.putObj_size]; omega, fun i hi hl => ?_⟩
                  rw [World.putObj_heap_other (by omega)]; exact hbut.block i (by omega)
  refine (within1_any hd h57 h58 hro R (m - 1) (w.heap.size + 1 + 1) W0 hv0 ⟨b4, b3, b1, hbl, by omega, rfl⟩ (by simp only [Tree.height] at hh; omega)
    (by unfold World.cell?; simp only [b2]; rfl) (by unfold World.cell?; simp only [b2]; rfl) (by unfold World.cell?; simp only [b2]; rfl) (by unfold World.cell?; simp only [b2]; rfl) (by unfold World.cell?; simp only [b2]; rfl) (by unfold World.cell?; simp only [b2]; rfl)).mono ?_
  rintro e W' (⟨⟨x, rfl⟩, ⟨h1, h2, h3, h4, h5, h6⟩ | hx⟩ | ⟨ch, rfl, rfl, h2, h4, h6⟩)
  · have hp : rec.pending = none := by rw [← hrec]
    have hst : rec.state ≠ .busy := by rw [← hrec]; simp
    clear hrec
    refine ⟨rec, h1, hst, ?_⟩
    simp only [hp]
    show LeavesInM _ _ _ _ _ _ [_] _ _
    refine ⟨by simp, .inl ⟨_, _, rfl, run_takeDeferred ((World.putObj_heap_other (by omega)).trans h2), ?_⟩⟩
    refine ⟨_, by simp [results, Tryz.results200, go_sem]; rfl, ?_⟩
    exact ⟨(But.putObj _ _).below ((But.putObj _ _).below h4 (by omega)) (by omega), .inl ⟨h6, _, rfl⟩⟩
  · exact hx.elim
  · show LeavesInM _ _ _ _ _ _ [_] _ _
    refine ⟨by simp, .inl ⟨_, _, rfl, run_takeDeferred h2, ?_⟩⟩
    exact ⟨(But.putObj _ _).below h4 (by omega), .inr ⟨h6, rfl⟩⟩
end Go.Proofs.YthfilnflgahcjaaGreatDoor

