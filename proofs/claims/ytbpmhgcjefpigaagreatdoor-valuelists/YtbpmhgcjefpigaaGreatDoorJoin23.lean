/- Values in rows: what an append of values leaves. A map of texts that were met; rows of copies that grow. Once, at any list of values that may be. Two values that may be have one text just if they are one: about rows of bytes alone. -/
import Derived.Test.YtbpmhgcjefpigaaGreatDoorJoin21
import Derived.Test.YtbpmhgcjefpigaaGreatDoorJoin19
import Derived.Test.YtbpmhgcjefpigaaGreatDoorFcopy
import Derived.StringKeys
import Derived.MapKept
import Derived.Test.YtbpmhgcjefpigaaGreatDoorJoin17
import Derived.Test.YtbpmhgcjefpigaaGreatDoorJoin8
namespace Go.Proofs.YtbpmhgcjefpigaaGreatDoor
open Go.RowKit Go.Shelf Go.WideShapes
set_option linter.unusedVariables false
inductive RowL (B : Nat) (w : World) : List Value → List Tree → Prop
 | nil : RowL B w [] []
 | cons {c0 c1 c2 c3 c4 c5 : Value} {r : List Value} {t : Tree} {ts : List Tree} (h : Lies B w (.agg #[c0, c1, c2, c3, c4, c5]) t) (k : RowL B w r ts) : RowL B w (c0 :: c1 :: c2 :: c3 :: c4 :: c5 :: r) (t :: ts)
variable {B : Nat} {w : World} {xs ys : List Value} {ts us : List Tree}
theorem RowL.append (h : RowL B w xs ts) (k : RowL B w ys us) : RowL B w (xs ++ ys) (ts ++ us) := by
 induction h with
 | nil => exact k
 | cons h _ ih => exact .cons h ih
theorem RowL.length (h : RowL B w xs ts) : xs.length = ts.length * 6 := by
 induction h with
 | nil => rfl
 | cons _ _ ih => simp only [List.length_cons, ih]; omega
theorem RowL.stay {w' : World} (hb : Below B w w') (h : RowL B w xs ts) : RowL B w' xs ts := by
 induction h with
 | nil => exact .nil
 | cons h _ ih => exact .cons (h.below hb) ih
theorem RowL.mono {B' : Nat} (hb : B ≤ B') (h : RowL B w xs ts) : RowL B' w xs ts := by
 induction h with
 | nil => exact .nil
 | cons h _ ih => exact .cons (h.mono hb) ih
theorem RowL.one (h : RowL B w xs ts) : ∀ u ∈ xs, u.oneCell' = true := by
 induction h with
 | nil => intro u hu; cases hu
 | @cons c0 c1 c2 c3 c4 c5 r t ts h _ ih =>
  obtain ⟨k, b, n, s, ks, us⟩ := t
  simp only [Lies] at h
  obtain ⟨ka, kc, la, lc, e, _⟩ := h
  simp only [Value.agg.injEq, Array.mk.injEq, List.cons.injEq, and_true] at e
  obtain ⟨rfl, rfl, rfl, rfl, rfl, rfl⟩ := e
  intro u hu
  simp only [List.mem_cons] at hu
  rcases hu with rfl | rfl | rfl | rfl | rfl | rfl | hu
  any_goals rfl
  exact ih u hu
theorem RowL.kids {g : Nat} (h : RowL B w xs ts) : ∀ {w' : World} {off : Nat}, (∀ j u, xs[j]? = some u → w'.cell? ⟨g, off + j, none⟩ = some u) → RowL B w' xs ts → KidsLie B w' g off ts := by
 induction h with
 | nil => intro w' off _ _; simp only [KidsLie]
 | cons h _ ih =>
  intro w' off hc hr
  cases hr with
  | cons h' k' =>
   simp only [KidsLie]
   refine ⟨⟨_, _, _, _, _, _, ⟨hc 0 _ rfl, hc 1 _ rfl, hc 2 _ rfl, hc 3 _ rfl, hc 4 _ rfl, hc 5 _ rfl⟩, h'⟩, ih (fun j v hv => ?_) k'⟩
   have := hc (j + 6) v (by simpa using hv)
   rwa [show off + (j + 6) = off + 6 + j from by omega] at this
theorem KidsLie.row {bl : Nat} : ∀ {ts : List Tree} {off : Nat}, KidsLie B w bl off ts → ∃ xs, RowL B w xs ts ∧ ∀ j u, xs[j]? = some u → w.cell? ⟨bl, off + j, none⟩ = some u
 | [], off, _ => ⟨[], .nil, fun j u h => by simp at h⟩
 | t :: ts, off, h => by
  simp only [KidsLie] at h
  obtain ⟨⟨v0, v1, v2, v3, v4, v5, ⟨c0, c1, c2, c3, c4, c5⟩, hl⟩, hr⟩ := h
  obtain ⟨xs, hx, hc⟩ := KidsLie.row hr
  refine ⟨_, .cons hl hx, fun j u hj => ?_⟩
  match j, hj with
  | 0, hj => simp at hj; subst hj; exact c0
  | 1, hj => simp at hj; subst hj; exact c1
  | 2, hj => simp at hj; subst hj; exact c2
  | 3, hj => simp at hj; subst hj; exact c3
  | 4, hj => simp at hj; subst hj; exact c4
  | 5, hj => simp at hj; subst hj; exact c5
  | j + 6, hj =>
   have := hc j u (by simpa using hj)
   rwa [show off + 6 + j = off + (j + 6) from by omega] at this
theorem append_values {ty : TypeId} {base n lc : Nat} {v : Value} {la : Option Addr} (hown : w.ownsRow base 26 6 v n xs) (hl : ListLies B w la ts) (hn : n + ts.length ≤ 1000000) (hb : base ≤ w.heap.size) :
  ∃ v' w' ys, (Builtin.append_ #[24, 24] ty #[v, .slice la ts.length lc]).run Tryz.prog w = .ok v' w' ∧ RowL B w ys ts ∧ w'.ownsRow base 26 6 v' (n + ts.length) (xs ++ ys) ∧ w.grownBy w' v.ownBlock ∧ (v'.ownBlock = v.ownBlock ∨ v'.ownBlock = some w.heap.size) := by
 obtain ⟨i0, hi, hz0, hz1, hz2⟩ := info_parts Tryz.info26
 cases la with
 | none =>
  have hks : ts = [] := by
   rcases hl with h | ⟨_, _, h, _⟩
   ·exact h
   ·cases h
  subst hks
  refine ⟨v, w, [], ?_, .nil, by simpa using hown, ⟨rfl, rfl, rfl, Nat.le_refl _, fun _ _ _ => rfl⟩, .inl rfl⟩
  rcases hown.2 with ⟨rfl, rfl⟩ | ⟨g, cap, cur, rfl, _, _, hnc, _⟩
  ·simp [Builtin.append_, run_underlying Tryz.underlying24, sizeOf, typeInfo, hi, Builtin.lenOf, Builtin.firstCells]
  ·simp [Builtin.append_, run_underlying Tryz.underlying24, sizeOf, typeInfo, hi, Builtin.lenOf, Builtin.firstCells, hnc, storeCells]
 | some ad =>
  obtain ⟨ys, hy, hc⟩ : ∃ ys, RowL B w ys ts ∧ ∀ j u, ys[j]? = some u → w.cell? (ad.add j) = some u := by
   rcases hl with h | ⟨bl, off, h, _, hk⟩
   ·subst h; exact ⟨[], .nil, fun j u h => by simp at h⟩
   ·obtain rfl : ad = ⟨bl, off, none⟩ := Option.some.inj h
    obtain ⟨ys, hy, hc⟩ := hk.row
    exact ⟨ys, hy, fun j u hj => by rw [add_plain]; exact hc j u hj⟩
  obtain ⟨v', w', hr, h2, h3, _, h5⟩ := run_append_own_at (P := Tryz.prog) w base 24 ty 26 i0 _ 6 88 Tryz.underlying24 hi hz0 hz1 hz2 rfl (by decide) v n xs hown ad ts.length lc ys hy.length hc hy.one (by unfold maxLen; omega) (by omega) hb
  exact ⟨v', w', ys, hr, hy, h2, h3, h5⟩
end Go.Proofs.YtbpmhgcjefpigaaGreatDoor

namespace Go.Proofs.YtbpmhgcjefpigaaGreatDoor
open Go.RowKit Go.Shelf Go.WideShapes Go.Lib
set_option linter.unusedVariables false
set_option linter.unusedSimpArgs false
def SeenAt (w : World) (b : Nat) (ss : List ByteArray) : Prop := ∃ es clock, w.heap[b]? = some (.map es clock) ∧ es.toList.map (·.key) = ss.map Value.string ∧ (∀ e ∈ es.toList, e.val = .agg #[]) ∧ ∀ s ∈ ss, s.size ≤ maxLen
theorem SeenAt.block {w w' : World} {b : Nat} {ss : List ByteArray} (h : SeenAt w b ss) (hb : w'.heap[b]? = w.heap[b]?) : SeenAt w' b ss := by
 obtain ⟨es, clock, h1, h2⟩ := h
 exact ⟨es, clock, hb.trans h1, h2⟩
theorem SeenAt.lt {w : World} {b : Nat} {ss : List ByteArray} (h : SeenAt w b ss) : b < w.heap.size := by
 obtain ⟨es, clock, h1, _⟩ := h
 exact (Array.getElem?_eq_some_iff.1 h1).1
theorem seen_none (w : World) : SeenAt (w.alloc (.map #[] 0)) w.heap.size [] := ⟨#[], 0, World.alloc_heap_new _ _, rfl, by simp, by simp⟩
theorem Tryz.underlying87' : Tryz.prog.underlying 87 = some (.map 9 88) := by kernel_rfl
theorem zero88 (w : World) : (zeroValue 88).run Tryz.prog w = .ok (.agg #[]) w := by kernel_rfl
theorem seen_keys {es : Array MapEntry} {ss : List ByteArray} (h : es.toList.map (·.key) = ss.map Value.string) (hs : ∀ s ∈ ss, s.size ≤ maxLen) : ∀ e ∈ es.toList, ∃ l, Go.keyOf Tryz.prog 9 e.key = some l := by
 intro e he
 have : e.key ∈ ss.map Value.string := by rw [← h]; exact List.mem_map.2 ⟨e, he, rfl⟩
 obtain ⟨s, hm, e1⟩ := List.mem_map.1 this
 exact ⟨_, by rw [← e1]; exact WideMaps.keyOf_string_mk Tryz.underlying9 (hs s hm)⟩
theorem seen_look {w : World} {b : Nat} {ss : List ByteArray} (h : SeenAt w b ss) (s : ByteArray) (hs : s.size ≤ maxLen) (x : Bool) (hx : x = true ↔ s ∈ ss) : (Instr.lookup 87 (.map (some b)) (.string s) true).run Tryz.prog w = .ok (.tuple #[.agg #[], .bool x]) w := by
 obtain ⟨es, clock, h1, h2, h3, h4⟩ := h
 have K := WideMaps.string_law (P := Tryz.prog) Tryz.underlying9
 have hkey := WideMaps.keyOf_string_mk (P := Tryz.prog) Tryz.underlying9 hs
 rcases K.find w hkey es.toList (seen_keys h2 h4) with ⟨f1, f2⟩ | ⟨j, e0, f1, f2, f3⟩
 ·have hn : s ∉ ss := fun hm => by
   have : Value.string s ∈ es.toList.map (·.key) := by rw [h2]; exact List.mem_map.2 ⟨s, hm, rfl⟩
   obtain ⟨e, he, e1⟩ := List.mem_map.1 this
   exact f2 e he e1
  obtain rfl : x = false := by cases x; rfl; exact absurd (hx.1 rfl) hn
  simp [Instr.lookup, run_underlying Tryz.underlying87', MapKept.run_getObj_map h1, K.check w _ hkey, f1, zero88, Result.andThen]
 ·have hm0 : e0 ∈ es.toList := List.mem_of_getElem? f2
  have hm : s ∈ ss := by
   have : e0.key ∈ es.toList.map (·.key) := List.mem_map.2 ⟨e0, hm0, rfl⟩
   rw [h2, f3] at this
   obtain ⟨s', hs', e1⟩ := List.mem_map.1 this
   simp only [Value.string.injEq] at e1
   rwa [e1] at hs'
  obtain rfl : x = true := hx.2 hm
  simp [Instr.lookup, run_underlying Tryz.underlying87', MapKept.run_getObj_map h1, K.check w _ hkey, f1, h3 e0 hm0, Result.andThen]
theorem seen_put {w : World} {b : Nat} {ss : List ByteArray} (h : SeenAt w b ss) (s : ByteArray) (hs : s.size ≤ maxLen) (hn : s ∉ ss) :
  ∃ w', (Instr.mapUpdate 87 (.map (some b)) (.string s) (.agg #[])).run Tryz.prog w = .ok () w' ∧ SeenAt w' b (ss ++ [s]) ∧ w'.heap.size = w.heap.size ∧ (∀ k, k ≠ b → w'.heap[k]? = w.heap[k]?) ∧ Below b w w' := by
 obtain ⟨es, clock, h1, h2, h3, h4⟩ := h
 have hlt : b < w.heap.size := (Array.getElem?_eq_some_iff.1 h1).1
 have K := WideMaps.string_law (P := Tryz.prog) Tryz.underlying9
 have hkey := WideMaps.keyOf_string_mk (P := Tryz.prog) Tryz.underlying9 hs
 rcases K.find w hkey es.toList (seen_keys h2 h4) with ⟨f1, f2⟩ | ⟨j, e0, f1, f2, f3⟩
 ·refine ⟨{ w with heap := w.heap.setIfInBounds b (.map (es.push ⟨.string s, .agg #[], clock⟩) (clock + 1)) }, ?_, ⟨es.push ⟨.string s, .agg #[], clock⟩, clock + 1, ?_, ?_, ?_, ?_⟩, ?_, ?_, ⟨rfl, rfl, rfl, ?_, ?_⟩⟩
  ·simp [Instr.mapUpdate, run_underlying Tryz.underlying87', MapKept.run_getObj_map h1, K.check w false hkey, f1, MapKept.run_setObj_map _ h1, Result.andThen]
  ·simp [hlt]
  ·simp [h2]
  ·intro e he
   simp only [Array.toList_push, List.mem_append, List.mem_singleton] at he
   rcases he with he | rfl
   ·exact h3 e he
   ·rfl
  ·intro x hx
   rcases List.mem_append.1 hx with hx | hx
   ·exact h4 x hx
   ·simp only [List.mem_cons, List.not_mem_nil, or_false] at hx; rw [hx]; exact hs
  ·simp
  ·intro k hk
   simp [Array.getElem?_setIfInBounds_ne (Ne.symm hk)]
  ·simp
  ·intro k hk
   have : k ≠ b := by omega
   simp [Array.getElem?_setIfInBounds_ne (Ne.symm this)]
 ·exfalso
  have hm0 : e0 ∈ es.toList := List.mem_of_getElem? f2
  have : e0.key ∈ es.toList.map (·.key) := List.mem_map.2 ⟨e0, hm0, rfl⟩
  rw [h2, f3] at this
  obtain ⟨s', hs', e1⟩ := List.mem_map.1 this
  simp only [Value.string.injEq] at e1
  rw [e1] at hs'
  exact hn hs'
inductive RowF (A : Nat) (g : Option Nat) (w : World) : List Value → List Tree → Prop
 | nil : RowF A g w [] []
 | cons {lo hi : Nat} {c0 c1 c2 c3 c4 c5 : Value} {r : List Value} {t : Tree} {ts : List Tree} (h : LiesF lo hi w (.agg #[c0, c1, c2, c3, c4, c5]) t) (h1 : A ≤ lo) (h2 : hi ≤ w.heap.size) (h3 : ∀ q, g = some q → q < lo ∨ hi ≤ q) (k : RowF A g w r ts) : RowF A g w (c0 :: c1 :: c2 :: c3 :: c4 :: c5 :: r) (t :: ts)
theorem RowF.append {A : Nat} {g : Option Nat} {w : World} {xs ys : List Value} {ts us : List Tree} (h : RowF A g w xs ts) (k : RowF A g w ys us) : RowF A g w (xs ++ ys) (ts ++ us) := by
 induction h with
 | nil => exact k
 | cons h h1 h2 h3 _ ih => exact .cons h h1 h2 h3 ih
theorem RowF.step {A : Nat} {g g' : Option Nat} {w w' : World} {xs : List Value} {ts : List Tree} (h : RowF A g w xs ts) (hk : ∀ b, A ≤ b → b < w.heap.size → some b ≠ g → w'.heap[b]? = w.heap[b]?) (hs : w.heap.size ≤ w'.heap.size)
  (hg : g' = g ∨ ∃ q, g' = some q ∧ w.heap.size ≤ q) : RowF A g' w' xs ts := by
 induction h with
 | nil => exact .nil
 | @cons lo hi _ _ _ _ _ _ _ _ _ h h1 h2 h3 _ ih =>
  refine .cons (h.keep fun b o hb1 hb2 => ?_) h1 (Nat.le_trans h2 hs) (fun q hq => ?_) ih
  ·have hne : some b ≠ g := fun e => by
    have := h3 b e.symm
    omega
   have hb := hk b (by omega) (by omega) hne
   exact ⟨World.cell?_of_block (a := ⟨b, o, none⟩) hb, World.frozen?_of_block (a := ⟨b, o, none⟩) hb⟩
  ·rcases hg with e | ⟨q', e, hq'⟩
   ·exact h3 q (e ▸ hq)
   ·rw [e] at hq
    have : q' = q := by simpa using hq
    omega
theorem RowF.row {A : Nat} {g : Option Nat} {w : World} {xs : List Value} {ts : List Tree} (h : RowF A g w xs ts) : xs.length = ts.length * 6 := by
 induction h with
 | nil => rfl
 | cons _ _ _ _ _ ih => simp only [List.length_cons, ih]; omega
theorem append_six {ops : Array Oper} {rest : List Oper} {o : Oper} {a : Act} {Q : Exit → Act → World → Prop} (w : World) (hgd : o.guard = none) (sl x : Operand)
  (ho : o.op = .call { callee := .builtin .append, args := #[sl, x], argTypes := #[24, 24] }) (base n : Nat) (v : Value) (xs : List Value) (hs : a.eval sl = v) (hown : w.ownsRow base 26 6 v n xs) (ad : Addr) (ys : List Value) (hx : a.eval x = .slice (some ad) 1 1)
  (hm : ys.length = 6) (hc : ∀ j u, ys[j]? = some u → w.cell? (ad.add j) = some u) (hone : ∀ u ∈ ys, u.oneCell' = true) (hn : n + 1 ≤ 1000000) (hB : base ≤ w.heap.size)
  (h : ∀ v' w', w'.ownsRow base 26 6 v' (n + 1) (xs ++ ys) → w.grownBy w' v.ownBlock → (v'.ownBlock = v.ownBlock ∨ v'.ownBlock = some w.heap.size) → wpList Tryz.prog ops Q rest (a.put o.dst v') w') : wpList Tryz.prog ops Q (o :: rest) a w := by
 refine wpList_plain hgd fun K hK => ?_
 obtain ⟨i0, hi, hz0, hz1, hz2⟩ := info_parts Tryz.info26
 obtain ⟨v', w', hr, h2, h3, _, h5⟩ := run_append_own_at (P := Tryz.prog) w base 24 o.type 26 i0 _ 6 88 Tryz.underlying24 hi hz0 hz1 hz2 rfl (by decide) v n xs hown ad 1 1 ys (by rw [hm]) hc hone (by unfold maxLen; omega) (by omega) hB
 unfold Oper.wp execOp
 simp only [ho, resolve, invoke, builtin, Sem.run_bind, Sem.run_pure, Result.andThen_ok, List.map_toArray, List.map_cons, List.map_nil, hs, hx, hr]
 exact hK _ _ (h v' w' h2 h3 h5)
end Go.Proofs.YtbpmhgcjefpigaaGreatDoor

namespace Go.Proofs.YtbpmhgcjefpigaaGreatDoor
open Go.RowKit Go.Shelf Go.WideShapes Go.Lib
set_option linter.unusedVariables false
set_option linter.unusedSimpArgs false
def txt (t : Tree) : ByteArray := ⟨(tellG t).toArray⟩
def hasT (out : List Tree) (t : Tree) : Bool := (out.map tellG).contains (tellG t)
theorem hasT_iff (out : List Tree) (t : Tree) : hasT out t = true ↔ txt t ∈ out.map txt := by
 unfold hasT
 rw [List.contains_iff_mem, List.mem_map, List.mem_map]
 constructor
 ·rintro ⟨u, hu, e⟩; exact ⟨u, hu, by unfold txt; rw [e]⟩
 ·rintro ⟨u, hu, e⟩
  refine ⟨u, hu, ?_⟩
  have := congrArg (fun b : ByteArray => b.data.toList) e
  simpa [txt] using this
def outL (ts : List Tree) : List Tree := ts.foldl (fun out t => if hasT out t = true then out else out ++ [t]) []
theorem outL_take {ts : List Tree} {j : Nat} {t : Tree} (h : ts[j]? = some t) : outL (ts.take (j + 1)) = if hasT (outL (ts.take j)) t = true then outL (ts.take j) else outL (ts.take j) ++ [t] := by
 rw [List.take_add_one, h]
 show outL (ts.take j ++ [t]) = _
 unfold outL
 rw [List.foldl_append]
 rfl
theorem outL_len (ts : List Tree) (j : Nat) (hj : j ≤ ts.length) : (outL (ts.take j)).length ≤ j := by
 induction j with
 | zero => simp [outL]
 | succ j ih =>
  have := ih (by omega)
  rw [outL_take (List.getElem?_eq_getElem (by omega : j < ts.length))]
  split
  ·omega
  ·rw [List.length_append]; simp; omega
theorem own_keep' {base e size n : Nat} {xs : List Value} {v : Value} {w w1 : World} (hown : w.ownsRow base e size v n xs) (hk : ∀ q, base ≤ q → q < w.heap.size → w1.heap[q]? = w.heap[q]?) : w1.ownsRow base e size v n xs := by
 obtain ⟨g1, ⟨g2, g3⟩ | ⟨g, cap, cur, g2, g3, g4, g5⟩⟩ := hown
 ·exact ⟨g1, .inl ⟨g2, g3⟩⟩
 ·exact ⟨g1, .inr ⟨g, cap, cur, g2, g3, (hk g g3 (Array.getElem?_eq_some_iff.1 g4).1).trans g4, g5⟩⟩
theorem own_keep {base e size n : Nat} {xs : List Value} {v : Value} {w w1 : World} (hown : w.ownsRow base e size v n xs) (hb : Below w.heap.size w w1) : w1.ownsRow base e size v n xs := own_keep' hown fun q _ hq => hb.block q hq
end Go.Proofs.YtbpmhgcjefpigaaGreatDoor

namespace Go.Proofs.YtbpmhgcjefpigaaGreatDoor
open Go.Lib
set_option linter.unusedVariables false
set_option linter.unusedSimpArgs false
/-! Runs -/
theorem run_inj {p : UInt8 → Prop} : ∀ {l l' r r' : List UInt8}, (∀ c ∈ l, p c) → (∀ c ∈ l', p c) → (∀ c ∈ r.head?, ¬ p c) → (∀ c ∈ r'.head?, ¬ p c) → l ++ r = l' ++ r' → l = l' ∧ r = r'
 | [], [], r, r', _, _, _, _, h => ⟨rfl, h⟩
 | [], c :: l', r, r', _, h2, h3, _, h => by
  rw [List.nil_append, List.cons_append] at h
  rw [h] at h3
  exact absurd (h2 c (by simp)) (h3 c (by simp))
 | c :: l, [], r, r', h1, _, _, h4, h => by
  rw [List.nil_append, List.cons_append] at h
  rw [← h] at h4
  exact absurd (h1 c (by simp)) (h4 c (by simp))
 | c :: l, d :: l', r, r', h1, h2, h3, h4, h => by
  rw [List.cons_append, List.cons_append, List.cons.injEq] at h
  obtain ⟨e1, e2⟩ := run_inj (fun x hx => h1 x (by simp [hx])) (fun x hx => h2 x (by simp [hx])) h3 h4 h.2
  exact ⟨by rw [h.1, e1], e2⟩
/-! Numbers -/
def valD (l : List UInt8) : Nat := l.foldl (fun a c => 10 * a + (c.toNat - 48)) 0
theorem valD_snoc (l : List UInt8) (c : UInt8) : valD (l ++ [c]) = 10 * valD l + (c.toNat - 48) := by simp [valD]
theorem dig_nat {i : Nat} (h : i < 10) : (UInt8.ofNat (48 + i)).toNat = 48 + i := by
 rw [UInt8.toNat_ofNat']; omega
theorem valD_digits (u : Nat) : valD (decDigits u) = u := by
 induction u using Nat.strongRecOn with
 | _ u ih =>
  rw [decDigits]
  by_cases h : u < 10
  ·rw [dif_pos h]
   show 10 * 0 + ((UInt8.ofNat (48 + u)).toNat - 48) = u
   rw [dig_nat h]; omega
  ·rw [dif_neg h, valD_snoc, ih _ (by omega), dig_nat (by omega)]; omega
def isDig (c : UInt8) : Prop := 48 ≤ c.toNat ∧ c.toNat ≤ 57
theorem digits_dig (u : Nat) : ∀ c ∈ decDigits u, isDig c := by
 induction u using Nat.strongRecOn with
 | _ u ih =>
  intro c hc
  rw [decDigits] at hc
  by_cases h : u < 10
  ·rw [dif_pos h] at hc
   simp only [List.mem_cons, List.not_mem_nil, or_false] at hc
   subst hc
   unfold isDig; rw [dig_nat h]; omega
  ·rw [dif_neg h] at hc
   rcases List.mem_append.1 hc with hc | hc
   ·exact ih _ (by omega) c hc
   ·simp only [List.mem_cons, List.not_mem_nil, or_false] at hc
    subst hc
    unfold isDig; rw [dig_nat (by omega)]; omega
theorem digits_inj {u v : Nat} {r r' : List UInt8} (h1 : ∀ c ∈ r.head?, ¬ isDig c) (h2 : ∀ c ∈ r'.head?, ¬ isDig c) (h : decDigits u ++ r = decDigits v ++ r') : u = v ∧ r = r' := by
 obtain ⟨e1, e2⟩ := run_inj (digits_dig u) (digits_dig v) h1 h2 h
 have := valD_digits u
 rw [e1, valD_digits v] at this
 exact ⟨this.symm, e2⟩
theorem digits_head (u : Nat) : ∃ c l, decDigits u = c :: l ∧ isDig c := by
 have h := digits_pos u
 cases e : decDigits u with
 | nil => rw [e] at h; simp at h
 | cons c l => exact ⟨c, l, rfl, digits_dig u c (by rw [e]; simp)⟩
theorem itoa_inj {n m : Int} {r r' : List UInt8} (h1 : ∀ c ∈ r.head?, ¬ isDig c) (h2 : ∀ c ∈ r'.head?, ¬ isDig c) (h : itoa n ++ r = itoa m ++ r') : n = m ∧ r = r' := by
 unfold itoa at h
 by_cases hn : n < 0
 ·by_cases hm : m < 0
  ·rw [if_pos hn, if_pos hm, List.cons_append, List.cons_append, List.cons.injEq] at h
   obtain ⟨e1, e2⟩ := digits_inj h1 h2 h.2
   exact ⟨by omega, e2⟩
  ·rw [if_pos hn, if_neg hm] at h
   obtain ⟨c, l, e, hc⟩ := digits_head m.toNat
   rw [e, List.cons_append, List.cons_append, List.cons.injEq] at h
   rw [← h.1] at hc
   exact absurd hc (by unfold isDig; decide)
 ·by_cases hm : m < 0
  ·rw [if_neg hn, if_pos hm] at h
   obtain ⟨c, l, e, hc⟩ := digits_head n.toNat
   rw [e, List.cons_append, List.cons_append, List.cons.injEq] at h
   rw [h.1] at hc
   exact absurd hc (by unfold isDig; decide)
  ·rw [if_neg hn, if_neg hm] at h
   obtain ⟨e1, e2⟩ := digits_inj h1 h2 h
   exact ⟨by omega, e2⟩
/-! Texts -/
def hexV (c : UInt8) : Nat := if c.toNat < 58 then c.toNat - 48 else c.toNat - 87
def decB : List UInt8 → UInt8 × List UInt8
 | [] => (0, [])
 | c :: X => if c = 92 then (match X with
   | [] => (0, [])
   | d :: Y => if d = 110 then (10, Y) else if d = 116 then (9, Y) else if d = 114 then (13, Y) else if d = 117 then (UInt8.ofNat (16 * hexV (Y.getD 2 0) + hexV (Y.getD 3 0)), Y.drop 4) else (d, Y)) else (c, X)
theorem hex_back : ∀ n : Nat, n < 128 → UInt8.ofNat (16 * hexV (hexB (n / 16)) + hexV (hexB (n % 16))) = UInt8.ofNat n := by decide
theorem dec_esc (c : UInt8) (X : List UInt8) : decB (escB c ++ X) = (c, X) := by
 unfold escB
 split
 ·rename_i h
  rcases h with rfl | rfl <;> rfl
 ·split
  ·rename_i h; subst h; rfl
  ·split
   ·rename_i h; subst h; rfl
   ·split
    ·rename_i h; subst h; rfl
    ·split
     ·rename_i h
      have hc : c.toNat < 128 := by
       rcases h with h | h
       ·have := UInt8.lt_iff_toNat_lt.1 h
        have e : (32 : UInt8).toNat = 32 := rfl
        omega
       ·rw [h]; decide
      have := hex_back c.toNat hc
      have e : UInt8.ofNat c.toNat = c := by simp
      rw [e] at this
      show (UInt8.ofNat (16 * hexV (hexB (c.toNat / 16)) + hexV (hexB (c.toNat % 16))), X) = (c, X)
      rw [this]
     ·rename_i h _ _ _ _
      have h92 : c ≠ 92 := fun e => h (.inr e)
      show (if c = 92 then _ else (c, X)) = (c, X)
      rw [if_neg h92]
theorem esc_inj {c d : UInt8} {X Y : List UInt8} (h : escB c ++ X = escB d ++ Y) : c = d ∧ X = Y := by
 have h1 := dec_esc c X
 rw [h, dec_esc d Y] at h1
 simp only [Prod.mk.injEq] at h1
 exact ⟨h1.1.symm, h1.2.symm⟩
theorem esc_head (c : UInt8) (X : List UInt8) : ∃ d Y, escB c ++ X = d :: Y ∧ d ≠ 39 := by
 unfold escB
 split
 ·exact ⟨_, _, rfl, by decide⟩
 ·rename_i h
  split
  ·exact ⟨_, _, rfl, by decide⟩
  ·split
   ·exact ⟨_, _, rfl, by decide⟩
   ·split
    ·exact ⟨_, _, rfl, by decide⟩
    ·split
     ·exact ⟨_, _, rfl, by decide⟩
     ·exact ⟨_, _, rfl, fun e => h (.inl e)⟩
theorem escAll_cons (c : UInt8) (l : List UInt8) : escAll (c :: l) = escB c ++ escAll l := by simp [escAll]
theorem escAll_inj : ∀ {l l' r r' : List UInt8}, escAll l ++ 39 :: r = escAll l' ++ 39 :: r' → l = l' ∧ r = r'
 | [], [], r, r', h => by
  simp only [escAll, List.map_nil, List.flatten_nil, List.nil_append, List.cons.injEq, true_and] at h
  exact ⟨rfl, h⟩
 | [], c :: l', r, r', h => by
  rw [escAll_cons, List.append_assoc] at h
  obtain ⟨d, Y, e, hd⟩ := esc_head c (escAll l' ++ 39 :: r')
  rw [e] at h
  simp only [escAll, List.map_nil, List.flatten_nil, List.nil_append, List.cons.injEq] at h
  exact absurd h.1.symm hd
 | c :: l, [], r, r', h => by
  rw [escAll_cons, List.append_assoc] at h
  obtain ⟨d, Y, e, hd⟩ := esc_head c (escAll l ++ 39 :: r)
  rw [e] at h
  simp only [escAll, List.map_nil, List.flatten_nil, List.nil_append, List.cons.injEq] at h
  exact absurd h.1 hd
 | c :: l, d :: l', r, r', h => by
  rw [escAll_cons, escAll_cons, List.append_assoc, List.append_assoc] at h
  obtain ⟨e1, e2⟩ := esc_inj h
  obtain ⟨e3, e4⟩ := escAll_inj e2
  exact ⟨by rw [e1, e3], e4⟩
theorem bytes_inj {s s' : ByteArray} (h : s.data.toList = s'.data.toList) : s = s' := by
 apply ByteArray.ext
 exact Array.toList_inj.1 h
theorem quote_inj {s s' : ByteArray} {r r' : List UInt8} (h : quoteB s ++ r = quoteB s' ++ r') : s = s' ∧ r = r' := by
 unfold quoteB at h
 simp only [List.append_assoc, List.cons_append, List.nil_append, List.cons.injEq, true_and] at h
 obtain ⟨e1, e2⟩ := escAll_inj h
 exact ⟨bytes_inj e1, e2⟩
/-! Keys -/
theorem dbl_inj : ∀ {l l' r r' : List UInt8}, dblB l ++ 96 :: 58 :: r = dblB l' ++ 96 :: 58 :: r' → l = l' ∧ r = r'
 | [], [], r, r', h => by
  simp only [dblB, List.map_nil, List.flatten_nil, List.nil_append, List.cons.injEq, true_and] at h
  exact ⟨rfl, h⟩
 | [], c :: l', r, r', h => by
  rw [dblB_cons] at h
  by_cases hc : c = 96
  ·rw [if_pos hc] at h
   simp [dblB] at h
  ·rw [if_neg hc] at h
   simp [dblB] at h
   exact absurd h.1.symm hc
 | c :: l, [], r, r', h => by
  rw [dblB_cons] at h
  by_cases hc : c = 96
  ·rw [if_pos hc] at h
   simp [dblB] at h
  ·rw [if_neg hc] at h
   simp [dblB] at h
   exact absurd h.1 hc
 | c :: l, d :: l', r, r', h => by
  rw [dblB_cons, dblB_cons] at h
  by_cases hc : c = 96
  ·by_cases hd : d = 96
   ·rw [if_pos hc, if_pos hd] at h
    simp only [List.cons_append, List.nil_append, List.cons.injEq, true_and] at h
    obtain ⟨e3, e4⟩ := dbl_inj h
    exact ⟨by rw [hc, hd, e3], e4⟩
   ·rw [if_pos hc, if_neg hd] at h
    simp only [List.cons_append, List.nil_append, List.cons.injEq] at h
    exact absurd h.1.symm hd
  ·by_cases hd : d = 96
   ·rw [if_neg hc, if_pos hd] at h
    simp only [List.cons_append, List.nil_append, List.cons.injEq] at h
    exact absurd h.1 hc
   ·rw [if_neg hc, if_neg hd] at h
    simp only [List.cons_append, List.nil_append, List.cons.injEq] at h
    obtain ⟨e3, e4⟩ := dbl_inj h.2
    exact ⟨by rw [h.1, e3], e4⟩
theorem bare_bytes {s : ByteArray} (h : bareB s = true) : s.data.toList ≠ [] ∧ ∀ c ∈ s.data.toList, c ≠ 58 ∧ c ≠ 96 := by
 unfold bareB at h
 rw [Bool.and_eq_true] at h
 refine ⟨fun e => ?_, fun c hc => ?_⟩
 ·have h2 := of_decide_eq_true h.2
  have : s.size = s.data.toList.length := rfl
  rw [this, e] at h2
  simp at h2
 ·obtain ⟨i, hi, rfl⟩ := List.mem_iff_getElem.1 hc
  have h1 := List.all_eq_true.1 h.1 i (List.mem_range.2 hi)
  have hb : s.get! i = s.data.toList[i] := by
   have : i < s.size := hi
   simp [ByteArray.get!, this]
  unfold bareAt letterB at h1
  rw [hb] at h1
  refine ⟨fun e => ?_, fun e => ?_⟩
  ·rw [e] at h1; simp at h1
  ·rw [e] at h1; simp at h1
theorem name_inj {s s' : ByteArray} {r r' : List UInt8} (h : (nameG s).data.toList ++ 58 :: r = (nameG s').data.toList ++ 58 :: r') : s = s' ∧ r = r' := by
 unfold nameG at h
 have qd : ∀ x : ByteArray, (⟨#[96]⟩ ++ ⟨(dblB x.data.toList).toArray⟩ ++ ⟨#[96]⟩ : ByteArray).data.toList = 96 :: dblB x.data.toList ++ [96] := fun x => by simp
 by_cases h1 : bareB s = true
 ·by_cases h2 : bareB s' = true
  ·rw [if_pos h1, if_pos h2] at h
   obtain ⟨e1, e2⟩ := run_inj (p := fun c => c ≠ 58) (fun c hc => ((bare_bytes h1).2 c hc).1) (fun c hc => ((bare_bytes h2).2 c hc).1) (by simp) (by simp) h
   simp only [List.cons.injEq, true_and] at e2
   exact ⟨bytes_inj e1, e2⟩
  ·rw [if_pos h1, if_neg h2, qd] at h
   obtain ⟨g1, g2⟩ := bare_bytes h1
   cases e : s.data.toList with
   | nil => exact absurd e g1
   | cons c l =>
    rw [e] at h g2
    simp only [List.cons_append, List.cons.injEq] at h
    exact absurd h.1 (g2 c (by simp)).2
 ·by_cases h2 : bareB s' = true
  ·rw [if_neg h1, if_pos h2, qd] at h
   obtain ⟨g1, g2⟩ := bare_bytes h2
   cases e : s'.data.toList with
   | nil => exact absurd e g1
   | cons c l =>
    rw [e] at h g2
    simp only [List.cons_append, List.cons.injEq] at h
    exact absurd h.1.symm (g2 c (by simp)).2
  ·rw [if_neg h1, if_neg h2, qd, qd] at h
   simp only [List.cons_append, List.append_assoc, List.nil_append, List.cons.injEq, true_and] at h
   obtain ⟨e1, e2⟩ := dbl_inj h
   exact ⟨bytes_inj e1, e2⟩
end Go.Proofs.YtbpmhgcjefpigaaGreatDoor

