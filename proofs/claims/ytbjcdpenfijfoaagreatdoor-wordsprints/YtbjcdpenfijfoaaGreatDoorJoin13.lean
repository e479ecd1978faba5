/- Words one by one: what is said of them. Words one by one, handed to the function that Lex makes. Lex: all words of a text. -/
import Derived.Test.YtbjcdpenfijfoaaGreatDoorJoin12
namespace Go.Proofs.YtbjcdpenfijfoaaGreatDoor
open Go.RowKit Go.Shelf Go.Lexed
set_option linter.unusedVariables false
set_option linter.unusedSimpArgs false
/-- The words behind a place, each with its own. -/
def lexQ (s : ByteArray) (q : Nat) : List (Wd × Nat) := (lexB Lib.validD (suf s q)).1.map fun x => (x.1, s.size - x.2)
/-- A text's words, each with its place; and how much is left where it can't be read. -/
def lexP (s : ByteArray) : List (Wd × Nat) := lexQ s 0
def lexO (s : ByteArray) : Option Nat := (lexB Lib.validD (suf s 0)).2
/-- What going over a text's words answers. -/
def Eached (s : ByteArray) (J : List (Wd × Nat) → World → Prop) (Jx : World → Prop) (e : Ending) (w' : World) : Prop :=
  (e = .returned (.tuple #[.int .i64 0, .int .i64 0]) ∧ lexO s = none ∧ J (lexP s) w') ∨
  (∃ j : Nat, j ≤ s.size ∧ e = .returned (.tuple #[.int .i64 (j : Int), .int .i64 130]) ∧ lexO s = some (s.size - j) ∧ J (lexP s) w') ∨
  (e = .returned (.tuple #[.int .i64 0, .int .i64 0]) ∧ Jx w')
end Go.Proofs.YtbjcdpenfijfoaaGreatDoor

namespace Go.Proofs.YtbjcdpenfijfoaaGreatDoor
open Go.RowKit Go.Shelf Go.Lexed
set_option linter.unusedVariables false
set_option linter.unusedSimpArgs false
attribute [local go_sem] Oper.semAt_some
set_option maxRecDepth 100000 in
set_option maxHeartbeats 4000000 in
theorem EachL_any {F : Fence} (HF : Hid (F = Fence.wide)) (hd : F.depth = none) (hro : F.round = none) (hfn : ∀ f, F.fn f) (s : ByteArray) (hs : s.size ≤ 1048576) (lb : Nat) (w : World) (h8 : 8 ≤ w.heap.size)
    {J : List (Wd × Nat) → World → Prop} {Jx : World → Prop} (hE : ∀ pre W, J pre W → Env W) (hkeep : ∀ pre W W', J pre W → w.heap.size < W'.heap.size → Fr w.heap.size W.heap.size W W' → J pre W')
    (hY : ∀ m pre d p W, J pre W → w.heap.size < W.heap.size → pre ++ [(d, p)] <+: lexP s → d.text.length ≤ 4 * s.size → CallsIn F m Tryz.prog 32 #[.int .i64 (pre.length : Int), wordV d p, .pointer (some ⟨lb, 0, none⟩)] W fun e W' => (e = .returned (.bool true) ∧ J (pre ++ [(d, p)]) W' ∧ W'.heap[w.heap.size]? = W.heap[w.heap.size]?) ∨ (e = .returned (.bool false) ∧ Jx W'))
    (hJ : J [] w) (n : Nat) :
    CallsIn F n Tryz.prog 31 #[.string s, .func (.func 32) #[] #[.pointer (some ⟨lb, 0, none⟩)]] w fun e w' => Eached s J Jx e w' := by
  have HE := hidE hE
  have HK := hidE hkeep
  have HY := hidE hY
  have HJ := hidE hJ
  clear hE hkeep hY hJ
  have hs' : ¬ (1048576 : Int) < s.size := by omega
  refine callsIn_of_wp Tryz.func31 rfl (hfn _) ?_ hro
  simp only [Tryz.ntmps31, List.size_toArray, List.length_cons, List.length_nil, Nat.reduceAdd, Nat.reduceSub, Array.replicate_succ, Array.replicate_zero, List.push_toArray, List.append_toArray, List.nil_append, List.cons_append]
  gi_wp2_with fail
  obtain ⟨a, ha0⟩ : ∃ a, w.heap.size = a := ⟨_, rfl⟩
  generalize hW0 : World.alloc _ _ = W0
  have HR0 : Hid (Rd W0 a s 0 0) := by rw [← hW0, ← ha0]; exact World.alloc_heap_new _ _
  have HJ0 : Hid (J [] W0) := HK.out [] w W0 HJ.out (by rw [← hW0]; simp) (by rw [← hW0]; exact Fr.of_below ((Below.refl _ _).alloc (Nat.le_refl _) _))
  clear hW0
  rw [ha0] at HK HY h8 ⊢
  clear ha0 HJ
  gi_loopw [8] (fun v wr => ∃ (q c : Nat) (pre : List (Wd × Nat)), q ≤ s.size ∧ Rd wr a s q c ∧ J pre wr ∧ v = .int .i64 (pre.length : Int) ∧ pre.length ≤ q ∧ lexP s = pre ++ lexQ s q ∧ lexO s = (lexB Lib.validD (suf s q)).2) (fun _ wr => s.size - atOf wr a)
  case atStart => exact ⟨0, 0, [], Nat.zero_le _, HR0.out, HJ0.out, rfl, Nat.le_refl _, rfl, rfl⟩
  case round =>
    obtain ⟨q, c, pre, hq, hr, hj, rfl, hpl, hlp, hlo⟩ := hrel
    have HR := hidE hr
    have HJ := hidE hj
    have HP := hidE hlp
    have HO := hidE hlo
    have ha := hr.lt
    have HUp : Hid (atOf wr a = q) := hr.upTo
    clear hr hj hlp hlo
    gi_wp2_with fail
    refine (in_wide HF.out (guard_any a s q c wr HR.out hq (by omega) (HE.out _ _ HJ.out) h8)).mono ?_
    rintro e w1 ⟨j, i, hqj, hj, hi, hr1, hf1, hcase⟩
    have HR1 := hidE hr1
    have HJ1 : Hid (J pre w1) := HK.out pre wr w1 HJ.out hr1.lt hf1
    have ha1 := hr1.lt
    clear hr1 hf1 HR HJ
    rcases hcase with ⟨rfl, hsk⟩ | ⟨d, rfl, hji, hdl, hsk, hjs, hwd⟩ | ⟨rfl, hbad⟩
    · have HN : Hid (lexP s = pre ∧ lexO s = none) := by
        have e := lex_end Lib.validD hsk
        refine ⟨?_, ?_⟩
        · rw [HP.out, lexQ, e]; simp
        · rw [HO.out, e]
      clear hsk
      unfold noWord
      gi_wp2_with fail
      go_ret2
      refine .inl ⟨rfl, HN.out.2, ?_⟩
      rw [HN.out.1]
      exact HK.out pre w1 _ HJ1.out (by simp; omega) (Fr.of_below ((Below.refl _ _).alloc (Nat.le_refl _) _))
    · have HN : Hid (lexP s = (pre ++ [(d, j)]) ++ lexQ s i ∧ lexO s = (lexB Lib.validD (suf s i)).2) := by
        have hne : suf s j ≠ [] := by rw [suf_cons hjs]; simp
        have e := lex_of Lib.validD hsk hne hwd
        refine ⟨?_, ?_⟩
        · rw [HP.out, lexQ, e]
          simp only [List.map_cons, lexQ, suf_len, List.append_assoc, List.singleton_append]
          rw [show s.size - (s.size - j) = j by omega]
        · rw [HO.out, e]
      clear hsk hwd
      unfold wordV
      obtain ⟨kk, hkk⟩ : ∃ kk : Int, (d.kind : Int) = kk := ⟨_, rfl⟩
      obtain ⟨nn, hnn⟩ : ∃ nn : Int, (d.num : Int) = nn := ⟨_, rfl⟩
      obtain ⟨tt, htt⟩ : ∃ tt, bsOf d.text = tt := ⟨_, rfl⟩
      have HWV : Hid (wordV d j = .agg #[.int .i64 kk, .int .i64 (j : Int), .string tt, .int .u64 nn]) := by show _ = _; rw [wordV, hkk, hnn, htt]
      rw [hkk, hnn, htt]
      clear hkk hnn htt
      gi_wp2_with fail
      have hy := HY.out (n - 1) pre d j (w1.alloc (.cells #[.int .i64 kk, .int .i64 (j : Int), .string tt, .int .u64 nn] 33)) (HK.out pre w1 _ HJ1.out (by simp; omega) (Fr.of_below ((Below.refl _ _).alloc (Nat.le_refl _) _))) (by simp; omega) (by rw [HN.out.1]; exact List.prefix_append _ _) hdl
      rw [HWV.out] at hy
      refine hy.mono ?_
      clear hy
      rintro e w3 (⟨rfl, hj3, hk3⟩ | ⟨rfl, hx⟩)
      · have HJ3 := hidE hj3
        have HR3 : Hid (Rd w3 a s i j) := hk3.trans (HR1.out.below ((Below.refl _ _).alloc (Nat.le_refl _) _) ha1)
        clear hj3 hk3 HR1 HJ1
        gi_wp2_with fail
        go_roundw
        case rel => exact ⟨i, j, pre ++ [(d, j)], hi, HR3.out, HJ3.out, by simp, by simp; omega, HN.out.1, HN.out.2⟩
        case measure => rw [HR3.out.upTo, HUp.out]; omega
      · gi_wp2_with fail
        go_ret2
        exact .inr (.inr ⟨rfl, hx⟩)
    · have HN : Hid (lexP s = pre ∧ lexO s = some (s.size - j)) := by
        rcases hbad with hsk | ⟨hsk, hjs, hwd⟩
        · have e := lex_bad Lib.validD hsk
          refine ⟨?_, ?_⟩
          · rw [HP.out, lexQ, e]; simp
          · rw [HO.out, e, suf_len]
        · have hne : suf s j ≠ [] := by rw [suf_cons hjs]; simp
          have e := lex_none Lib.validD hsk hne hwd
          refine ⟨?_, ?_⟩
          · rw [HP.out, lexQ, e]; simp
          · rw [HO.out, e, suf_len]
      clear hbad
      unfold noWord
      have hb2 := (HR1.out.below (w' := w1.alloc (.cells #[.int .i64 0, .int .i64 0, .string ⟨#[]⟩, .int .u64 0] 33)) ((Below.refl _ _).alloc (Nat.le_refl _) _) ha1).c2
      gi_wp2_with fail
      go_ret2
      refine .inr (.inl ⟨j, hj, rfl, HN.out.2, ?_⟩)
      rw [HN.out.1]
      exact HK.out pre w1 _ HJ1.out (by simp; omega) (Fr.of_below ((Below.refl _ _).alloc (Nat.le_refl _) _))
end Go.Proofs.YtbjcdpenfijfoaaGreatDoor

namespace Go.Proofs.YtbjcdpenfijfoaaGreatDoor
open Go.RowKit Go.Shelf Go.Lexed
set_option linter.unusedVariables false
set_option linter.unusedSimpArgs false
/-- A word of any kind, place, text and number. -/
structure W4 where
  k : Int
  i : Int
  t : ByteArray
  n : Int
def W4.cells (x : W4) : List Value := [.int .i64 x.k, .int .i64 x.i, .string x.t, .int .u64 x.n]
def W4.val (x : W4) : Value := .agg #[.int .i64 x.k, .int .i64 x.i, .string x.t, .int .u64 x.n]
def cells4 (xs : List W4) : List Value := xs.flatMap W4.cells
def toW4 (x : Wd × Nat) : W4 := ⟨x.1.kind, x.2, bsOf x.1.text, x.1.num⟩
theorem toW4_val (d : Wd) (p : Nat) : wordV d p = (toW4 (d, p)).val := rfl
theorem cells4_snoc (xs : List W4) (x : W4) : cells4 (xs ++ [x]) = cells4 xs ++ x.cells := by simp [cells4]
theorem cells4_len (xs : List W4) : (cells4 xs).length = xs.length * 4 := by
  induction xs with
  | nil => rfl
  | cons x xs ih => simp only [cells4, List.flatMap_cons, List.length_append, List.length_cons] at ih ⊢; rw [ih]; simp [W4.cells]; omega
theorem Tryz.info33 : (Tryz.prog.info? 33).map (fun i => (i.zero, i.size, i.bytes)) = some (some (.agg #[.int .i64 0, .int .i64 0, .string ⟨#[]⟩, .int .u64 0]), 4, 40) := by kernel_rfl
theorem row_slice {W : World} {base e size n : Nat} {v : Value} {xs : List Value} (h : W.ownsRow base e size v n xs) : ∃ ua uc, v = .slice ua n uc := by
  obtain ⟨_, ⟨h1, h2⟩ | ⟨g, cap, cur, h1, _⟩⟩ := h
  · subst h2; exact ⟨none, 0, h1⟩
  · exact ⟨_, _, h1⟩
theorem row_keep {base e size n : Nat} {xs : List Value} {v : Value} {w w1 : World} (hown : w.ownsRow base e size v n xs) (hb : ∀ g, base ≤ g → g < w.heap.size → w1.heap[g]? = w.heap[g]?) : w1.ownsRow base e size v n xs := by
  obtain ⟨g1, ⟨g2, g3⟩ | ⟨g, cap, cur, g2, g3, g4, g5⟩⟩ := hown
  · exact ⟨g1, .inl ⟨g2, g3⟩⟩
  · exact ⟨g1, .inr ⟨g, cap, cur, g2, g3, (hb g g3 (Array.getElem?_eq_some_iff.1 g4).1).trans g4, g5⟩⟩
theorem row_grown {base e size n : Nat} {v : Value} {xs : List Value} {w w' : World} (hown : w.ownsRow base e size v n xs) (hB : base ≤ w.heap.size) (hg : w.grownBy w' v.ownBlock) : Below base w w' :=
  (Below.refl base w).grown hg hB fun q h => (hown.lt q h).1
set_option maxRecDepth 100000 in
set_option maxHeartbeats 2000000 in
theorem lex1_any (L base n : Nat) (v : Value) (xs : List Value) (x : W4) (idx : Int) (W : World) (hb : Boxed W L 23 v) (ho : W.ownsRow base 33 4 v n xs) (hL : L < base) (hB : base ≤ W.heap.size) (hn : n ≤ 100000000) :
    Calls Tryz.prog 32 #[.int .i64 idx, x.val, .pointer (some ⟨L, 0, none⟩)] W fun e w' => e = .returned (.bool true) ∧ ∃ v', Boxed w' L 23 v' ∧ w'.ownsRow base 33 4 v' (n + 1) (xs ++ x.cells) ∧ Fr L base W w' := by
  obtain ⟨kk, ii, tt, nn⟩ := x
  unfold W4.val
  simp only
  obtain ⟨i0, hi, hz0, hz1, hz2⟩ := info_parts Tryz.info33
  obtain ⟨ua, uc, rfl⟩ := row_slice ho
  have HB := hidE hb
  have HO := hidE ho
  have hl := hb.lt
  clear hb ho
  go_enter Tryz.func32, Tryz.ntmps32
  go_upto_region 1 with fail
  generalize hW1 : World.alloc _ _ = W1
  have HBe : Hid (Below W.heap.size W W1) := by rw [← hW1]; exact (Below.refl _ _).alloc (Nat.le_refl _) _
  have HB1 : Hid (Boxed W1 L 23 (.slice ua n uc)) := (HBe.out.block L hl).trans HB.out
  have HW1 : Hid (Wo W1 W.heap.size kk ii nn tt) := by rw [← hW1]; exact World.alloc_heap_new _ _
  have HO1 : Hid (W1.ownsRow base 33 4 (.slice ua n uc) n xs) := row_keep HO.out fun g _ hg => HBe.out.block g hg
  have hB1 : base ≤ W1.heap.size := Nat.le_trans hB HBe.out.size
  clear hW1
  have c0 := HW1.out.c0
  have c1 := HW1.out.c1
  have c2 := HW1.out.c2
  have c3 := HW1.out.c3
  have cb := HB1.out.cell
  go_wp2_with (at_builtin; refine wpList_append_own _ rfl _ _ 23 rfl base 33 i0 (.agg #[.int .i64 0, .int .i64 0, .string ⟨#[]⟩, .int .u64 0]) 4 40 Tryz.underlying23 hi hz0 hz1 hz2 rfl (by decide) _ _ _ rfl (row_keep HO1.out fun g _ hg => Below.heap_alloc _ _ _ hg) ⟨W1.heap.size, 0, none⟩ 1 1 [.int .i64 kk, .int .i64 ii, .string tt, .int .u64 nn] rfl rfl ?d1 ?d2 ?d3 ?d4 ?d5 ?_)
  case d1 =>
    intro j u hj
    have hadd : (⟨W1.heap.size, 0, none⟩ : Addr).add j = ⟨W1.heap.size, j, none⟩ := by unfold Addr.add; split <;> simp_all
    rw [hadd]
    refine cell_new _ _ _ _ _ ?_
    simpa using hj
  case d2 => intro u hu; simp only [List.mem_cons, List.not_mem_nil, or_false] at hu; rcases hu with rfl | rfl | rfl | rfl <;> rfl
  case d3 => unfold maxLen; omega
  case d4 => omega
  case d5 => first | omega | (simp; omega)
  intro v2 w2 hown2 hgrow2 _
  obtain ⟨ub, ud, rfl⟩ := row_slice hown2
  have hb2 : Below base W1 w2 := ((Below.refl base W1).alloc hB1 _).trans (row_grown (row_keep HO1.out fun g _ hg => Below.heap_alloc _ _ _ hg) (by simp; omega) hgrow2)
  have HB2 : Hid (Boxed w2 L 23 (.slice ua n uc)) := (hb2.block L hL).trans HB1.out
  have HO2 := hidE hown2
  have HF2 : Hid (Below base W w2) := (HBe.out.mono hB).trans hb2
  clear hown2 hgrow2 hb2 c0 c1 c2 c3 cb
  have cb := HB2.out.cell
  have fb := HB2.out.frozen
  go_wp2_with fail
  go_ret
  refine ⟨rfl, _, HB2.out.set _, ?_, ?_⟩
  · exact row_keep HO2.out fun g hg _ => Below.heap_setCell _ _ _ _ (by show g ≠ L; omega)
  · exact (Fr.of_below HF2.out).put _ _
end Go.Proofs.YtbjcdpenfijfoaaGreatDoor

