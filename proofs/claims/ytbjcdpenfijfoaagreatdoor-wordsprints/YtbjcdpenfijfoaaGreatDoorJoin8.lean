/- Rows of bytes that grow: what is said of them, and the smallest that make them grow. Rows of bytes that grow while a reader reads. -/
import Derived.Test.YtbjcdpenfijfoaaGreatDoorPspell
import Derived.Lib.AppendStr
import Derived.Lib.BufferKept
import Derived.Deep.AppendLies
import Derived.Maps.AppendAt
import Derived.Deep.RegionLaw
namespace Go.Proofs.YtbjcdpenfijfoaaGreatDoor
open Go.RowKit Go.Shelf Go.Lib
set_option linter.unusedVariables false

theorem Tryz.info5 : (Tryz.prog.info? 5).map (fun i => (i.zero, i.size, i.bytes)) = some (some (.int .u8 0), 1, 1) := by kernel_rfl

theorem kept_of_grown {base n : Nat} {v : Value} {xs : List Value} {w w' : World} (hown : w.ownsRow base 5 1 v n xs) (hg : w.grownBy w' v.ownBlock) : OthersKept 5 none w w' := fun k o hk _ hne => by
  have hk' : k < w.heap.size := (Array.getElem?_eq_some_iff.1 hk).1
  by_cases e : some k = v.ownBlock
  · obtain ⟨_, ⟨h1, _⟩ | ⟨g, cap, cur, h1, _, h2, _⟩⟩ := hown
    · rw [h1] at e; cases e
    · rw [h1] at e
      have : k = g := by simpa [Value.ownBlock] using e
      rw [this, h2] at hk
      exact absurd (Option.some.inj hk).symm (hne _ _)
  · exact (hg.block k hk' e).trans hk
theorem below_of_grown {base n : Nat} {v : Value} {xs : List Value} {w w' : World} (hown : w.ownsRow base 5 1 v n xs) (hB : base ≤ w.heap.size) (hg : w.grownBy w' v.ownBlock) : Below base w w' :=
  (Below.refl base w).grown hg hB fun q h => (hown.lt q h).1

/-- The row holds some bytes more; all else is as it was. -/
structure Told (base n : Nat) (xs : List Value) (v : Value) (w : World) (bs : List UInt8) (v' : Value) (w' : World) : Prop where
  own : w'.ownsRow base 5 1 v' (n + bs.length) (xs ++ byteCells bs)
  grown : w.grownBy w' v.ownBlock
  place : v'.ownBlock = v.ownBlock ∨ ∃ g, v'.ownBlock = some g ∧ w.heap.size ≤ g
theorem told_nil {base n : Nat} {v : Value} {xs : List Value} {w : World} (hown : w.ownsRow base 5 1 v n xs) : Told base n xs v w [] v w :=
  ⟨by simpa [byteCells] using hown, ⟨rfl, rfl, rfl, Nat.le_refl _, fun _ _ _ => rfl⟩, .inl rfl⟩
theorem Told.trans {base n : Nat} {xs : List Value} {w w1 w2 : World} {bs cs : List UInt8} {v v1 v2 : Value} (h : Told base n xs v w bs v1 w1) (h' : Told base (n + bs.length) (xs ++ byteCells bs) v1 w1 cs v2 w2) : Told base n xs v w (bs ++ cs) v2 w2 := by
  have hle := h.grown.size
  refine ⟨by have := h'.own; rw [List.append_assoc, Nat.add_assoc] at this; simpa [byteCells] using this, ⟨h'.grown.os.trans h.grown.os, h'.grown.tape.trans h.grown.tape, h'.grown.output.trans h.grown.output, Nat.le_trans hle h'.grown.size, fun k hk hne => ?_⟩, ?_⟩
  · refine (h'.grown.block k (Nat.lt_of_lt_of_le hk hle) fun e => ?_).trans (h.grown.block k hk hne)
    rcases h.place with g | ⟨g, e1, e2⟩
    · exact hne (e.trans g)
    · rw [e1] at e
      have : k = g := by simpa using e
      omega
  · rcases h'.place with g | ⟨g, e1, e2⟩
    · rw [g]; exact h.place
    · exact .inr ⟨g, e1, by omega⟩
theorem Told.below {base n : Nat} {xs : List Value} {w w1 : World} {bs : List UInt8} {v v1 : Value} (h : Told base n xs v w bs v1 w1) (hown : w.ownsRow base 5 1 v n xs) (hB : base ≤ w.heap.size) : Below base w w1 := below_of_grown hown hB h.grown
theorem Told.kept {base n : Nat} {xs : List Value} {w w1 : World} {bs : List UInt8} {v v1 : Value} (h : Told base n xs v w bs v1 w1) (hown : w.ownsRow base 5 1 v n xs) : OthersKept 5 none w w1 := kept_of_grown hown h.grown
/-- Blocks that were made ahead change nothing. -/
theorem own_below {base n : Nat} {xs : List Value} {v : Value} {w w1 : World} (hown : w.ownsRow base 5 1 v n xs) (hb : Below w.heap.size w w1) : w1.ownsRow base 5 1 v n xs := by
  obtain ⟨g1, ⟨g2, g3⟩ | ⟨g, cap, cur, g2, g3, g4, g5⟩⟩ := hown
  · exact ⟨g1, .inl ⟨g2, g3⟩⟩
  · exact ⟨g1, .inr ⟨g, cap, cur, g2, g3, (hb.block g (Array.getElem?_eq_some_iff.1 g4).1).trans g4, g5⟩⟩
theorem Told.from {base n : Nat} {xs : List Value} {w w1 w2 : World} {bs : List UInt8} {v v1 : Value} (hb : Below w.heap.size w w1) (h : Told base n xs v w1 bs v1 w2) : Told base n xs v w bs v1 w2 :=
  ⟨h.own, ⟨h.grown.os.trans hb.os, h.grown.tape.trans hb.tape, h.grown.output.trans hb.output, Nat.le_trans hb.size h.grown.size, fun k hk hne => (h.grown.block k (Nat.lt_of_lt_of_le hk hb.size) hne).trans (hb.block k hk)⟩,
    h.place.imp id fun ⟨g, e1, e2⟩ => ⟨g, e1, Nat.le_trans hb.size e2⟩⟩
theorem Told.upto {base n : Nat} {xs : List Value} {w w1 w2 : World} {bs : List UInt8} {v v1 : Value} (h : Told base n xs v w bs v1 w1) (hb : Below w1.heap.size w1 w2) : Told base n xs v w bs v1 w2 :=
  ⟨own_below h.own hb, ⟨hb.os.trans h.grown.os, hb.tape.trans h.grown.tape, hb.output.trans h.grown.output, Nat.le_trans h.grown.size hb.size, fun k hk hne => (hb.block k (Nat.lt_of_lt_of_le hk h.grown.size)).trans (h.grown.block k hk hne)⟩, h.place⟩

/-- Where a row lies to which a text was put. -/
theorem append_place {ty : TypeId} {base n : Nat} {v v' : Value} {xs : List Value} {w w' : World} {s : ByteArray} (hown : w.ownsRow base 5 1 v n xs) (h0 : 0 < s.size) (hn : n + s.size ≤ 100000000000000)
    (hrun : (Builtin.append_ #[49, 9] ty #[v, .string s]).run Tryz.prog w = .ok v' w') : v'.ownBlock = v.ownBlock ∨ ∃ g, v'.ownBlock = some g ∧ w.heap.size ≤ g := by
  obtain ⟨i0, hi, hz0, hz1, hz2⟩ := info_parts Tryz.info5
  have hxl : xs.length = n := by simpa using hown.1
  rcases hown.2 with ⟨rfl, rfl⟩ | ⟨g, cap, cur, rfl, hbg, hg, hnc, hcm, hcs, htake⟩
  · rw [run_append_nil_string (P := Tryz.prog) w 49 9 ty 5 i0 (.int .u8 0) Tryz.underlying49 Tryz.underlying9 hi hz0 s h0 (by omega) (by rw [hz2]; omega)] at hrun
    cases hrun
    exact .inr ⟨_, rfl, Nat.le_refl _⟩
  · by_cases hroom : n + s.size ≤ cap
    · rw [run_append_room_string (P := Tryz.prog) w 49 9 ty 5 i0 Tryz.underlying49 Tryz.underlying9 hi hz1 g n cap cur hg s hroom (by omega)] at hrun
      cases hrun
      exact .inl rfl
    · rw [run_append_grow_string (P := Tryz.prog) w 49 9 ty 5 i0 (.int .u8 0) Tryz.underlying49 Tryz.underlying9 hi hz0 ⟨g, 0, none⟩ n cap xs (by rw [hz1]; simpa using hxl) (hown.cells (g := g) rfl) s (by omega) (by omega) (by rw [hz2]; exact growslice_fits (by omega) (by omega))] at hrun
      cases hrun
      exact .inr ⟨_, rfl, Nat.le_refl _⟩

/-- 'append(row, text...)' in the walk. -/
theorem append_text {ops : Array Oper} {rest : List Oper} {o : Oper} {a : Act} {Q : Exit → Act → World → Prop} (w : World) (hgd : o.guard = none) (sl x : Operand)
    (ho : o.op = .call { callee := .builtin .append, args := #[sl, x], argTypes := #[49, 9] }) (base n : Nat) (v : Value) (xs : List Value) (hs : a.eval sl = v) (hown : w.ownsRow base 5 1 v n xs) (s : ByteArray) (hx : a.eval x = .string s)
    (h0 : 0 < s.size) (hn : n + s.size ≤ 100000000000000) (hB : base ≤ w.heap.size)
    (h : ∀ v' w', Told base n xs v w s.data.toList v' w' → wpList Tryz.prog ops Q rest (a.put o.dst v') w') : wpList Tryz.prog ops Q (o :: rest) a w := by
  refine wpList_plain hgd fun K hK => ?_
  obtain ⟨i0, hi, hz0, hz1, hz2⟩ := info_parts Tryz.info5
  obtain ⟨v', w', hr, h2, h3, h4⟩ := run_append_own_string (P := Tryz.prog) w base 49 9 o.type 5 i0 Tryz.underlying49 Tryz.underlying9 hi hz0 hz1 hz2 v n xs hown s (by unfold maxLen; omega) (by omega) hB
  unfold Oper.wp execOp
  simp only [ho, resolve, invoke, builtin, Sem.run_bind, Sem.run_pure, Result.andThen_ok, List.map_toArray, List.map_cons, List.map_nil, hs, hx, hr]
  exact hK _ _ (h v' w' ⟨h2, h3, append_place hown h0 hn hr⟩)

end Go.Proofs.YtbjcdpenfijfoaaGreatDoor

namespace Go.Proofs.YtbjcdpenfijfoaaGreatDoor
open Go.RowKit Go.Shelf Go.Lib
set_option linter.unusedVariables false
set_option linter.unusedSimpArgs false
/-- 'append(row, bytes...)' in the walk: the bytes lie in a row of their own. -/
theorem append_row {ops : Array Oper} {rest : List Oper} {o : Oper} {a : Act} {Q : Exit → Act → World → Prop} (w : World) (hgd : o.guard = none) (sl x : Operand)
    (ho : o.op = .call { callee := .builtin .append, args := #[sl, x], argTypes := #[49, 49] }) (base n : Nat) (v : Value) (xs : List Value) (hs : a.eval sl = v) (hown : w.ownsRow base 5 1 v n xs) (ad : Addr) (m c : Nat) (bs : List UInt8) (hx : a.eval x = .slice (some ad) m c)
    (hm : bs.length = m) (hc : ∀ j u, (byteCells bs)[j]? = some u → w.cell? (ad.add j) = some u) (hn : n + m ≤ 100000000000000) (hB : base ≤ w.heap.size)
    (h : ∀ v' w', Told base n xs v w bs v' w' → wpList Tryz.prog ops Q rest (a.put o.dst v') w') : wpList Tryz.prog ops Q (o :: rest) a w := by
  refine wpList_plain hgd fun K hK => ?_
  obtain ⟨i0, hi, hz0, hz1, hz2⟩ := info_parts Tryz.info5
  obtain ⟨v', w', hr, h2, h3, _, h5⟩ := run_append_own_at (P := Tryz.prog) w base 49 o.type 5 i0 (.int .u8 0) 1 1 Tryz.underlying49 hi hz0 hz1 hz2 rfl (by decide) v n xs hown ad m c (byteCells bs) (by rw [byteCells_length, hm, Nat.mul_one]) hc
    (by intro u hu; simp only [byteCells, List.mem_map] at hu; obtain ⟨b, _, rfl⟩ := hu; rfl) (by unfold maxLen; omega) (by omega) hB
  unfold Oper.wp execOp
  simp only [ho, resolve, invoke, builtin, Sem.run_bind, Sem.run_pure, Result.andThen_ok, List.map_toArray, List.map_cons, List.map_nil, hs, hx, hr]
  exact hK _ _ (h v' w' ⟨by rw [hm]; exact h2, h3, h5.imp id fun e => ⟨_, e, Nat.le_refl _⟩⟩)

/-- 'append(row, text...)': one operation. -/
theorem chain_text {o : Oper} {a : Act} {w : World} {K : Act → World → Prop} {Q : Exit → Act → World → Prop} (sl x : Operand) (ho : o.op = .call { callee := .builtin .append, args := #[sl, x], argTypes := #[49, 9] }) {base m : Nat} {r : Value} {ys : List Value} {s : ByteArray}
    (hs : a.eval sl = r) (hx : a.eval x = .string s) (hown : w.ownsRow base 5 1 r m ys) (h0 : 0 < s.size) (hn : m + s.size ≤ 100000000000000) (hB : base ≤ w.heap.size) (h : ∀ v' w', Told base m ys r w s.data.toList v' w' → K (a.put o.dst v') w') : Oper.wp Tryz.prog o a w K Q := by
  obtain ⟨i0, hi, hz0, hz1, hz2⟩ := info_parts Tryz.info5
  obtain ⟨v', w', hr, h2, h3, h4⟩ := run_append_own_string (P := Tryz.prog) w base 49 9 o.type 5 i0 Tryz.underlying49 Tryz.underlying9 hi hz0 hz1 hz2 r m ys hown s (by unfold maxLen; omega) (by omega) hB
  unfold Oper.wp execOp
  simp only [ho, resolve, invoke, builtin, Sem.run_bind, Sem.run_pure, Result.andThen_ok, List.map_toArray, List.map_cons, List.map_nil, hs, hx, hr]
  exact h v' w' ⟨h2, h3, append_place hown h0 hn hr⟩
/-- 'append(row, bytes...)': one operation. -/
theorem chain_row {o : Oper} {a : Act} {w : World} {K : Act → World → Prop} {Q : Exit → Act → World → Prop} (sl x : Operand) (ho : o.op = .call { callee := .builtin .append, args := #[sl, x], argTypes := #[49, 49] }) {base m t c : Nat} {r : Value} {ys : List Value} {bs : List UInt8}
    (hs : a.eval sl = r) (hx : a.eval x = .slice (some ⟨t, 0, none⟩) bs.length c) (hown : w.ownsRow base 5 1 r m ys) (hc : ∀ j u, (byteCells bs)[j]? = some u → w.cell? ⟨t, j, none⟩ = some u) (hn : m + bs.length ≤ 100000000000000) (hB : base ≤ w.heap.size) (h : ∀ v' w', Told base m ys r w bs v' w' → K (a.put o.dst v') w') : Oper.wp Tryz.prog o a w K Q := by
  obtain ⟨i0, hi, hz0, hz1, hz2⟩ := info_parts Tryz.info5
  obtain ⟨v', w', hr, h2, h3, _, h5⟩ := run_append_own_at (P := Tryz.prog) w base 49 o.type 5 i0 (.int .u8 0) 1 1 Tryz.underlying49 hi hz0 hz1 hz2 rfl (by decide) r m ys hown ⟨t, 0, none⟩ bs.length c (byteCells bs) (by rw [byteCells_length, Nat.mul_one]) (fun j u hj => by rw [Lib.add_plain, Nat.zero_add]; exact hc j u hj)
    (by intro u hu; simp only [byteCells, List.mem_map] at hu; obtain ⟨b, _, rfl⟩ := hu; rfl) (by unfold maxLen; omega) (by omega) hB
  unfold Oper.wp execOp
  simp only [ho, resolve, invoke, builtin, Sem.run_bind, Sem.run_pure, Result.andThen_ok, List.map_toArray, List.map_cons, List.map_nil, hs, hx, hr]
  exact h v' w' ⟨h2, h3, h5.imp id fun e => ⟨_, e, Nat.le_refl _⟩⟩

theorem and_15 : ∀ m : Nat, m < 128 → bits .and .u8 (m : Int) 15 = (m : Int) % 16 := by decide
/-- A digit. -/
def hexB (m : Nat) : UInt8 := ([48, 49, 50, 51, 52, 53, 54, 55, 56, 57, 97, 98, 99, 100, 101, 102] : List UInt8).getD m 0
/-- .. in a region that draws its order. -/
theorem step_told {ops : Array Oper} {o : Oper} {a : Act} {w : World} {K : Act → World → Prop} {Q : Exit → Act → World → Prop} {E : Prop} (hg : o.guard = none) (sl x : Operand)
    (ho : o.op = .call { callee := .builtin .append, args := #[sl, x], argTypes := #[49, 49] }) {base m t c : Nat} {r : Value} {ys : List Value} {bs : List UInt8}
    (hs : a.eval sl = r) (hx : a.eval x = .slice (some ⟨t, 0, none⟩) bs.length c) (hown : w.ownsRow base 5 1 r m ys) (hc : ∀ j u, (byteCells bs)[j]? = some u → w.cell? ⟨t, j, none⟩ = some u) (hn : m + bs.length ≤ 100000000000000) (hB : base ≤ w.heap.size)
    (h : ∀ v' w', Told base m ys r w bs v' w' → K (a.put o.dst v') w') : if Region.wanted o (yielded ops a.tmps) = true then Oper.wp Tryz.prog o a w K Q else E := by
  have hw : Region.wanted o (yielded ops a.tmps) = true := by simp [Region.wanted, hg]
  rw [if_pos hw]
  exact chain_row sl x ho hs hx hown hc hn hB h
theorem own_keep {base n : Nat} {xs : List Value} {v : Value} {w w1 : World} (hown : w.ownsRow base 5 1 v n xs) (hb : ∀ g, base ≤ g → g < w.heap.size → w1.heap[g]? = w.heap[g]?) : w1.ownsRow base 5 1 v n xs := by
  obtain ⟨g1, ⟨g2, g3⟩ | ⟨g, cap, cur, g2, g3, g4, g5⟩⟩ := hown
  · exact ⟨g1, .inl ⟨g2, g3⟩⟩
  · exact ⟨g1, .inr ⟨g, cap, cur, g2, g3, (hb g g3 (Array.getElem?_eq_some_iff.1 g4).1).trans g4, g5⟩⟩
theorem own_set {base n : Nat} {xs : List Value} {v : Value} {w : World} (hown : w.ownsRow base 5 1 v n xs) {a : Nat} (ha : a < base) (c : Nat) (u : Value) : (w.setCell ⟨a, c, none⟩ u).ownsRow base 5 1 v n xs :=
  own_keep hown fun g hg _ => Below.heap_setCell _ _ _ _ (by show g ≠ a; omega)
theorem own_drewN {base n : Nat} {xs : List Value} {v : Value} {w : World} (hown : w.ownsRow base 5 1 v n xs) (k : Nat) : (w.drewN k).ownsRow base 5 1 v n xs := own_keep hown fun g hg _ => rfl
theorem own_drew {base n : Nat} {xs : List Value} {v : Value} {w : World} (hown : w.ownsRow base 5 1 v n xs) : w.drew.ownsRow base 5 1 v n xs := own_keep hown fun g hg _ => rfl
theorem own_alloc {base n : Nat} {xs : List Value} {v : Value} {w : World} (hown : w.ownsRow base 5 1 v n xs) (o : Obj) : (w.alloc o).ownsRow base 5 1 v n xs := own_keep hown fun g _ hg => Below.heap_alloc _ _ _ hg
theorem one_cell (w : World) (c : UInt8) : ∀ j u, (byteCells [c])[j]? = some u → (w.alloc (.cells #[.int .u8 (c.toNat : Int)] 5)).cell? ⟨w.heap.size, j, none⟩ = some u := by
  intro j u hj
  refine cell_new _ _ _ _ _ ?_
  simpa [byteCells] using hj
theorem own_bytes {w : World} {base g cap : Nat} {bs : List UInt8} (h : w.ownsRow base 5 1 (.slice (some ⟨g, 0, none⟩) bs.length cap) bs.length (byteCells bs)) :
    (convert 49 9 (.slice (some ⟨g, 0, none⟩) bs.length cap)).run Tryz.prog w = .ok (.string ⟨bs.toArray⟩) w := by
  refine run_convert_bytes_back (P := Tryz.prog) w 49 9 5 ⟨g, 0, none⟩ cap bs Tryz.underlying49 Tryz.underlying5 Tryz.underlying9 fun j hj => ?_
  have := h.cells (g := g) rfl j (.int .u8 (bs[j].toNat : Int)) (by simp [byteCells, hj])
  simpa [Addr.add] using this
/-- The text of a row's bytes. -/
theorem own_conv {w : World} {base : Nat} {v : Value} {bs : List UInt8} (h : w.ownsRow base 5 1 v bs.length (byteCells bs)) : (convert 49 9 v).run Tryz.prog w = .ok (.string (bsOf bs)) w := by
  have h0 := h
  obtain ⟨g1, ⟨g2, g3⟩ | ⟨g, cap, cur, g2, g3, g4, g5⟩⟩ := h
  · subst g2
    have e : bs = [] := by simpa [byteCells] using g3
    subst e
    simp [convert, go_sem, run_underlying Tryz.underlying49, run_underlying Tryz.underlying9]
    first | rfl | (simp [Conv.bytesToString, go_sem, bsOf]; done) | (simp [Conv.bytesToString, go_sem, bsOf]; rfl)
  · subst g2
    exact own_bytes h0
end Go.Proofs.YtbjcdpenfijfoaaGreatDoor

