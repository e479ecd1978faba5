/- Lex: all words of a text. -/
import Derived.Test.YtbjcdpenfijfoaaGreatDoorJoin6
namespace Go.Proofs.YtbjcdpenfijfoaaGreatDoor
open Go.RowKit Go.Shelf Go.Lexed
set_option linter.unusedVariables false
set_option linter.unusedSimpArgs false
/-- A word of any kind, place, text and number. -/
structure W4 where
  k : Int
  i : Int
  t : ByteArray
  n : Int
def W4.cells (x : W4) : List Value := [.int .i64 x.k, .int .i64 x.i, .string x.t, .int .u64 x.n]
def W4.val (x : W4) : Value := .agg #[.int .i64 x.k, .int .i64 x.i, .string x.t, .int .u64 x.n]
def cells4 (xs : List W4) : List Value := xs.flatMap W4.cells
def toW4 (x : Wd × Nat) : W4 := ⟨x.1.kind, x.2, bsOf x.1.text, x.1.num⟩
theorem toW4_val (d : Wd) (p : Nat) : wordV d p = (toW4 (d, p)).val := rfl
theorem cells4_snoc (xs : List W4) (x : W4) : cells4 (xs ++ [x]) = cells4 xs ++ x.cells := by simp [cells4]
theorem cells4_len (xs : List W4) : (cells4 xs).length = xs.length * 4 := by
  induction xs with
  | nil => rfl
  | cons x xs ih => simp only [cells4, List.flatMap_cons, List.length_append, List.length_cons] at ih ⊢; rw [ih]; simp [W4.cells]; omega
theorem Tryz.info33 : (Tryz.prog.info? 33).map (fun i => (i.zero, i.size, i.bytes)) = some (some (.agg #[.int .i64 0, .int .i64 0, .string ⟨#[]⟩, .int .u64 0]), 4, 40) := by kernel_rfl
theorem row_slice {W : World} {base e size n : Nat} {v : Value} {xs : List Value} (h : W.ownsRow base e size v n xs) : ∃ ua uc, v = .slice ua n uc := by
  obtain ⟨_, ⟨h1, h2⟩ | ⟨g, cap, cur, h1, _⟩⟩ := h
  · subst h2; exact ⟨none, 0, h1⟩
  · exact ⟨_, _, h1⟩
theorem row_keep {base e size n : Nat} {xs : List Value} {v : Value} {w w1 : World} (hown : w.ownsRow base e size v n xs) (hb : ∀ g, base ≤ g → g < w.heap.size → w1.heap[g]? = w.heap[g]?) : w1.ownsRow base e size v n xs := by
  obtain ⟨g1, ⟨g2, g3⟩ | ⟨g, cap, cur, g2, g3, g4, g5⟩⟩ := hown
  · exact ⟨g1, .inl ⟨g2, g3⟩⟩
  · exact ⟨g1, .inr ⟨g, cap, cur, g2, g3, (hb g g3 (Array.getElem?_eq_some_iff.1 g4).1).trans g4, g5⟩⟩
theorem row_grown {base e size n : Nat} {v : Value} {xs : List Value} {w w' : World} (hown : w.ownsRow base e size v n xs) (hB : base ≤ w.heap.size) (hg : w.grownBy w' v.ownBlock) : Below base w w' :=
  (Below.refl base w).grown hg hB fun q h => (hown.lt q h).1
set_option maxRecDepth 100000 in
set_option maxHeartbeats 2000000 in
theorem lex1_any (L base n : Nat) (v : Value) (xs : List Value) (x : W4) (idx : Int) (W : World) (hb : Boxed W L 23 v) (ho : W.ownsRow base 33 4 v n xs) (hL : L < base) (hB : base ≤ W.heap.size) (hn : n ≤ 100000000) :
    Calls Tryz.prog 32 #[.int .i64 idx, x.val, .pointer (some ⟨L, 0, none⟩)] W fun e w' => e = .returned (.bool true) ∧ ∃ v', Boxed w' L 23 v' ∧ w'.ownsRow base 33 4 v' (n + 1) (xs ++ x.cells) ∧ Fr L base W w' := by
  obtain ⟨kk, ii, tt, nn⟩ := x
  unfold W4.val
  simp only
  obtain ⟨i0, hi, hz0, hz1, hz2⟩ := info_parts Tryz.info33
  obtain ⟨ua, uc, rfl⟩ := row_slice ho
  have HB := hidE hb
  have HO := hidE ho
  have hl := hb.lt
  clear hb ho
  go_enter Tryz.func32, Tryz.ntmps32
  go_upto_region 1 with fail
  generalize hW1 : World.alloc _ _ = W1
  have HBe : Hid (Below W.heap.size W W1) := by rw [← hW1]; exact (Below.refl _ _).alloc (Nat.le_refl _) _
  have HB1 : Hid (Boxed W1 L 23 (.slice ua n uc)) := (HBe.out.block L hl).trans HB.out
  have HW1 : Hid (Wo W1 W.heap.size kk ii nn tt) := by rw [← hW1]; exact World.alloc_heap_new _ _
  have HO1 : Hid (W1.ownsRow base 33 4 (.slice ua n uc) n xs) := row_keep HO.out fun g _ hg => HBe.out.block g hg
  have hB1 : base ≤ W1.heap.size := Nat.le_trans hB HBe.out.size
  clear hW1
  have c0 := HW1.out.c0
  have c1 := HW1.out.c1
  have c2 := HW1.out.c2
  have c3 := HW1.out.c3
  have cb := HB1.out.cell
  go_wp2_with (at_builtin; refine wpList_append_own _ rfl _ _ 23 rfl base 33 i0 (.agg #[.int .i64 0, .int .i64 0, .string ⟨#[]⟩, .int .u64 0]) 4 40 Tryz.underlying23 hi hz0 hz1 hz2 rfl (by decide) _ _ _ rfl (row_keep HO1.out fun g _ hg => Below.heap_alloc _ _ _ hg) ⟨W1.heap.size, 0, none⟩ 1 1 [.int .i64 kk, .int .i64 ii, .string tt, .int .u64 nn] rfl rfl ?d1 ?d2 ?d3 ?d4 ?d5 ?_)
  case d1 =>
    intro j u hj
    have hadd : (⟨W1.heap.size, 0, none⟩ : Addr).add j = ⟨W1.heap.size, j, none⟩ := by unfold Addr.add; split <;> simp_all
    rw [hadd]
    refine cell_new _ _ _ _ _ ?_
    simpa using hj
  case d2 => intro u hu; simp only [List.mem_cons, List.not_mem_nil, or_false] at hu; rcases hu with rfl | rfl | rfl | rfl <;> rfl
  case d3 => unfold maxLen; omega
  case d4 => omega
  case d5 => first | omega | (simp; omega)
  intro v2 w2 hown2 hgrow2 _
  obtain ⟨ub, ud, rfl⟩ := row_slice hown2
  have hb2 : Below base W1 w2 := ((Below.refl base W1).alloc hB1 _).trans (row_grown (row_keep HO1.out fun g _ hg => Below.heap_alloc _ _ _ hg) (by simp; omega) hgrow2)
  have HB2 : Hid (Boxed w2 L 23 (.slice ua n uc)) := (hb2.block L hL).trans HB1.out
  have HO2 := hidE hown2
  have HF2 : Hid (Below base W w2) := (HBe.out.mono hB).trans hb2
  clear hown2 hgrow2 hb2 c0 c1 c2 c3 cb
  have cb := HB2.out.cell
  have fb := HB2.out.frozen
  go_wp2_with fail
  go_ret
  refine ⟨rfl, _, HB2.out.set _, ?_, ?_⟩
  · exact row_keep HO2.out fun g hg _ => Below.heap_setCell _ _ _ _ (by show g ≠ L; omega)
  · exact (Fr.of_below HF2.out).put _ _
end Go.Proofs.YtbjcdpenfijfoaaGreatDoor
