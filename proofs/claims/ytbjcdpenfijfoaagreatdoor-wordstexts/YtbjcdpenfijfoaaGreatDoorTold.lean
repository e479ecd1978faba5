/- Rows of bytes that grow: what is said of them, and the smallest that make them grow. -/
import Derived.Test.YtbjcdpenfijfoaaGreatDoorPspell
import Derived.Lib.AppendStr
import Derived.Lib.BufferKept
import Derived.Deep.AppendLies
namespace Go.Proofs.YtbjcdpenfijfoaaGreatDoor
open Go.RowKit Go.Shelf Go.Lib
set_option linter.unusedVariables false

theorem Tryz.info5 : (Tryz.prog.info? 5).map (fun i => (i.zero, i.size, i.bytes)) = some (some (.int .u8 0), 1, 1) := by kernel_rfl

theorem kept_of_grown {base n : Nat} {v : Value} {xs : List Value} {w w' : World} (hown : w.ownsRow base 5 1 v n xs) (hg : w.grownBy w' v.ownBlock) : OthersKept 5 none w w' := fun k o hk _ hne => by
  have hk' : k < w.heap.size := (Array.getElem?_eq_some_iff.1 hk).1
  by_cases e : some k = v.ownBlock
  · obtain ⟨_, ⟨h1, _⟩ | ⟨g, cap, cur, h1, _, h2, _⟩⟩ := hown
    · rw [h1] at e; cases e
    · rw [h1] at e
      have : k = g := by simpa [Value.ownBlock] using e
      rw [this, h2] at hk
      exact absurd (Option.some.inj hk).symm (hne _ _)
  · exact (hg.block k hk' e).trans hk
theorem below_of_grown {base n : Nat} {v : Value} {xs : List Value} {w w' : World} (hown : w.ownsRow base 5 1 v n xs) (hB : base ≤ w.heap.size) (hg : w.grownBy w' v.ownBlock) : Below base w w' :=
  (Below.refl base w).grown hg hB fun q h => (hown.lt q h).1

/-- The row holds some bytes more; all else is as it was. -/
structure Told (base n : Nat) (xs : List Value) (v : Value) (w : World) (bs : List UInt8) (v' : Value) (w' : World) : Prop where
  own : w'.ownsRow base 5 1 v' (n + bs.length) (xs ++ byteCells bs)
  grown : w.grownBy w' v.ownBlock
  place : v'.ownBlock = v.ownBlock ∨ ∃ g, v'.ownBlock = some g ∧ w.heap.size ≤ g
theorem told_nil {base n : Nat} {v : Value} {xs : List Value} {w : World} (hown : w.ownsRow base 5 1 v n xs) : Told base n xs v w [] v w :=
  ⟨by simpa [byteCells] using hown, ⟨rfl, rfl, rfl, Nat.le_refl _, fun _ _ _ => rfl⟩, .inl rfl⟩
theorem Told.trans {base n : Nat} {xs : List Value} {w w1 w2 : World} {bs cs : List UInt8} {v v1 v2 : Value} (h : Told base n xs v w bs v1 w1) (h' : Told base (n + bs.length) (xs ++ byteCells bs) v1 w1 cs v2 w2) : Told base n xs v w (bs ++ cs) v2 w2 := by
  have hle := h.grown.size
  refine ⟨by have := h'.own; rw [List.append_assoc, Nat.add_assoc] at this; simpa [byteCells] using this, ⟨h'.grown.os.trans h.grown.os, h'.grown.tape.trans h.grown.tape, h'.grown.output.trans h.grown.output, Nat.le_trans hle h'.grown.size, fun k hk hne => ?_⟩, ?_⟩
  · refine (h'.grown.block k (Nat.lt_of_lt_of_le hk hle) fun e => ?_).trans (h.grown.block k hk hne)
    rcases h.place with g | ⟨g, e1, e2⟩
    · exact hne (e.trans g)
    · rw [e1] at e
      have : k = g := by simpa using e
      omega
  · rcases h'.place with g | ⟨g, e1, e2⟩
    · rw [g]; exact h.place
    · exact .inr ⟨g, e1, by omega⟩
theorem Told.below {base n : Nat} {xs : List Value} {w w1 : World} {bs : List UInt8} {v v1 : Value} (h : Told base n xs v w bs v1 w1) (hown : w.ownsRow base 5 1 v n xs) (hB : base ≤ w.heap.size) : Below base w w1 := below_of_grown hown hB h.grown
theorem Told.kept {base n : Nat} {xs : List Value} {w w1 : World} {bs : List UInt8} {v v1 : Value} (h : Told base n xs v w bs v1 w1) (hown : w.ownsRow base 5 1 v n xs) : OthersKept 5 none w w1 := kept_of_grown hown h.grown
/-- Blocks that were made ahead change nothing. -/
theorem own_below {base n : Nat} {xs : List Value} {v : Value} {w w1 : World} (hown : w.ownsRow base 5 1 v n xs) (hb : Below w.heap.size w w1) : w1.ownsRow base 5 1 v n xs := by
  obtain ⟨g1, ⟨g2, g3⟩ | ⟨g, cap, cur, g2, g3, g4, g5⟩⟩ := hown
  · exact ⟨g1, .inl ⟨g2, g3⟩⟩
  · exact ⟨g1, .inr ⟨g, cap, cur, g2, g3, (hb.block g (Array.getElem?_eq_some_iff.1 g4).1).trans g4, g5⟩⟩
theorem Told.from {base n : Nat} {xs : List Value} {w w1 w2 : World} {bs : List UInt8} {v v1 : Value} (hb : Below w.heap.size w w1) (h : Told base n xs v w1 bs v1 w2) : Told base n xs v w bs v1 w2 :=
  ⟨h.own, ⟨h.grown.os.trans hb.os, h.grown.tape.trans hb.tape, h.grown.output.trans hb.output, Nat.le_trans hb.size h.grown.size, fun k hk hne => (h.grown.block k (Nat.lt_of_lt_of_le hk hb.size) hne).trans (hb.block k hk)⟩,
    h.place.imp id fun ⟨g, e1, e2⟩ => ⟨g, e1, Nat.le_trans hb.size e2⟩⟩
theorem Told.upto {base n : Nat} {xs : List Value} {w w1 w2 : World} {bs : List UInt8} {v v1 : Value} (h : Told base n xs v w bs v1 w1) (hb : Below w1.heap.size w1 w2) : Told base n xs v w bs v1 w2 :=
  ⟨own_below h.own hb, ⟨hb.os.trans h.grown.os, hb.tape.trans h.grown.tape, hb.output.trans h.grown.output, Nat.le_trans h.grown.size hb.size, fun k hk hne => (hb.block k (Nat.lt_of_lt_of_le hk h.grown.size)).trans (h.grown.block k hk hne)⟩, h.place⟩

/-- Where a row lies to which a text was put. -/
theorem append_place {ty : TypeId} {base n : Nat} {v v' : Value} {xs : List Value} {w w' : World} {s : ByteArray} (hown : w.ownsRow base 5 1 v n xs) (h0 : 0 < s.size) (hn : n + s.size ≤ 100000000000000)
    (hrun : (Builtin.append_ #[49, 9] ty #[v, .string s]).run Tryz.prog w = .ok v' w') : v'.ownBlock = v.ownBlock ∨ ∃ g, v'.ownBlock = some g ∧ w.heap.size ≤ g := by
  obtain ⟨i0, hi, hz0, hz1, hz2⟩ := info_parts Tryz.info5
  have hxl : xs.length = n := by simpa using hown.1
  rcases hown.2 with ⟨rfl, rfl⟩ | ⟨g, cap, cur, rfl, hbg, hg, hnc, hcm, hcs, htake⟩
  · rw [run_append_nil_string (P := Tryz.prog) w 49 9 ty 5 i0 (.int .u8 0) Tryz.underlying49 Tryz.underlying9 hi hz0 s h0 (by omega) (by rw [hz2]; omega)] at hrun
    cases hrun
    exact .inr ⟨_, rfl, Nat.le_refl _⟩
  · by_cases hroom : n + s.size ≤ cap
    · rw [run_append_room_string (P := Tryz.prog) w 49 9 ty 5 i0 Tryz.underlying49 Tryz.underlying9 hi hz1 g n cap cur hg s hroom (by omega)] at hrun
      cases hrun
      exact .inl rfl
    · rw [run_append_grow_string (P := Tryz.prog) w 49 9 ty 5 i0 (.int .u8 0) Tryz.underlying49 Tryz.underlying9 hi hz0 ⟨g, 0, none⟩ n cap xs (by rw [hz1]; simpa using hxl) (hown.cells (g := g) rfl) s (by omega) (by omega) (by rw [hz2]; exact growslice_fits (by omega) (by omega))] at hrun
      cases hrun
      exact .inr ⟨_, rfl, Nat.le_refl _⟩

/-- 'append(row, text...)' in the walk. -/
theorem append_text {ops : Array Oper} {rest : List Oper} {o : Oper} {a : Act} {Q : Exit → Act → World → Prop} (w : World) (hgd : o.guard = none) (sl x : Operand)
    (ho : o.op = .call { callee := .builtin .append, args := #[sl, x], argTypes := #[49, 9] }) (base n : Nat) (v : Value) (xs : List Value) (hs : a.eval sl = v) (hown : w.ownsRow base 5 1 v n xs) (s : ByteArray) (hx : a.eval x = .string s)
    (h0 : 0 < s.size) (hn : n + s.size ≤ 100000000000000) (hB : base ≤ w.heap.size)
    (h : ∀ v' w', Told base n xs v w s.data.toList v' w' → wpList Tryz.prog ops Q rest (a.put o.dst v') w') : wpList Tryz.prog ops Q (o :: rest) a w := by
  refine wpList_plain hgd fun K hK => ?_
  obtain ⟨i0, hi, hz0, hz1, hz2⟩ := info_parts Tryz.info5
  obtain ⟨v', w', hr, h2, h3, h4⟩ := run_append_own_string (P := Tryz.prog) w base 49 9 o.type 5 i0 Tryz.underlying49 Tryz.underlying9 hi hz0 hz1 hz2 v n xs hown s (by unfold maxLen; omega) (by omega) hB
  unfold Oper.wp execOp
  simp only [ho, resolve, invoke, builtin, Sem.run_bind, Sem.run_pure, Result.andThen_ok, List.map_toArray, List.map_cons, List.map_nil, hs, hx, hr]
  exact hK _ _ (h v' w' ⟨h2, h3, append_place hown h0 hn hr⟩)

end Go.Proofs.YtbjcdpenfijfoaaGreatDoor
