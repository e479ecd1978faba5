/- The words of the two texts that every law asks for. What every law asks for besides. -/
import Derived.Test.YtbjcdpenfijfoaaGreatDoorPprt
namespace Go.Proofs.YtbjcdpenfijfoaaGreatDoor
open Go.RowKit Go.Shelf Go.Lexed
open Go.Lib (byteCells byteCells_length)
set_option linter.unusedVariables false
set_option linter.unusedSimpArgs false
theorem lex_step (U : List UInt8 → Bool) {l r l' : List UInt8} {d : Wd} {n : Nat} {t : List (Wd × Nat)} {o : Option Nat} (hs : skipB l = (r, true)) (hr : r ≠ []) (hw : wordB U r = some (d, l')) (hn : r.length = n) (ht : lexB U l' = (t, o)) : lexB U l = ((d, n) :: t, o) := by
  rw [lex_of U hs hr hw, ht, hn]
def lit1 : List UInt8 := [77, 65, 84, 67, 72, 32, 40, 97, 58, 96, 98, 32, 99, 96, 41, 32, 47, 42, 32, 42, 47, 32, 60, 62, 49, 32, 47, 47, 32, 120]
def lit2 : List UInt8 := [97, 32, 48, 49]
set_option maxRecDepth 10000 in
theorem lit1_lex : lexB Lib.validD lit1 = ([(⟨1, [77, 65, 84, 67, 72], 0⟩, 30), (⟨5, [40], 0⟩, 24), (⟨1, [97], 0⟩, 23), (⟨5, [58], 0⟩, 22), (⟨2, [98, 32, 99], 0⟩, 21), (⟨5, [41], 0⟩, 16), (⟨5, [60, 62], 0⟩, 8), (⟨4, [], 1⟩, 6)], none) := by
  unfold lit1
  refine lex_step _ (l' := [32, 40, 97, 58, 96, 98, 32, 99, 96, 41, 32, 47, 42, 32, 42, 47, 32, 60, 62, 49, 32, 47, 47, 32, 120]) (skip_stay (by decide) (by decide)) (by decide) (by decide) (by decide) ?_
  refine lex_step _ (l' := [97, 58, 96, 98, 32, 99, 96, 41, 32, 47, 42, 32, 42, 47, 32, 60, 62, 49, 32, 47, 47, 32, 120]) ((skip_blank (by decide) _).trans (skip_stay (by decide) (by decide))) (by decide) (by decide) (by decide) ?_
  refine lex_step _ (l' := [58, 96, 98, 32, 99, 96, 41, 32, 47, 42, 32, 42, 47, 32, 60, 62, 49, 32, 47, 47, 32, 120]) (skip_stay (by decide) (by decide)) (by decide) (by decide) (by decide) ?_
  refine lex_step _ (l' := [96, 98, 32, 99, 96, 41, 32, 47, 42, 32, 42, 47, 32, 60, 62, 49, 32, 47, 47, 32, 120]) (skip_stay (by decide) (by decide)) (by decide) (by decide) (by decide) ?_
  refine lex_step _ (l' := [41, 32, 47, 42, 32, 42, 47, 32, 60, 62, 49, 32, 47, 47, 32, 120]) (skip_stay (by decide) (by decide)) (by decide) (by decide) (by decide) ?_
  refine lex_step _ (l' := [32, 47, 42, 32, 42, 47, 32, 60, 62, 49, 32, 47, 47, 32, 120]) (skip_stay (by decide) (by decide)) (by decide) (by decide) (by decide) ?_
  refine lex_step _ (l' := [49, 32, 47, 47, 32, 120]) ((skip_blank (by decide) _).trans ((skip_star (r := [32, 60, 62, 49, 32, 47, 47, 32, 120]) (by decide)).trans ((skip_blank (by decide) _).trans (skip_stay (by decide) (by decide))))) (by decide) (by decide) (by decide) ?_
  refine lex_step _ (l' := [32, 47, 47, 32, 120]) (skip_stay (by decide) (by decide)) (by decide) (by decide) (by decide) ?_
  refine lex_end _ ((skip_blank (by decide) _).trans ((skip_line _).trans ?_))
  rw [show lineB [32, 120] = [] by decide, skipB.eq_def]
set_option maxRecDepth 10000 in
theorem lit2_lex : lexB Lib.validD lit2 = ([(⟨1, [97], 0⟩, 4)], some 2) := by
  unfold lit2
  refine lex_step _ (l' := [32, 48, 49]) (skip_stay (by decide) (by decide)) (by decide) (by decide) (by decide) ?_
  exact lex_none _ ((skip_blank (by decide) _).trans (skip_stay (by decide) (by decide))) (by decide) (by decide)
end Go.Proofs.YtbjcdpenfijfoaaGreatDoor

namespace Go.Proofs.YtbjcdpenfijfoaaGreatDoor
open Go.RowKit Go.Shelf Go.Lexed
open Go.Lib (byteCells byteCells_length)
set_option linter.unusedVariables false
set_option linter.unusedSimpArgs false
attribute [local go_sem] Oper.semAt_some
theorem num_any (n : Int) (w : World) : Calls Tryz.prog 14 #[.int .i64 n] w fun e w' => e = .returned (.int .i64 n) ∧ w' = w := by
  go_enter Tryz.func14, Tryz.ntmps14
  go_wp2_with fail
  go_ret
  exact ⟨rfl, rfl⟩
/-- All: what goes over a text's words. -/
def allF (b : Nat) : Value := .func (.func 35) #[] #[.pointer (some ⟨b, 0, none⟩)]
theorem all_any (s : ByteArray) (w : World) : Calls Tryz.prog 16 #[.string s] w fun e w' => e = .returned (allF w.heap.size) ∧ Below w.heap.size w w' ∧ Boxed w' w.heap.size 9 (.string s) := by
  go_enter Tryz.func16, Tryz.ntmps16
  go_wp2_with fail
  go_ret
  exact ⟨rfl, (Below.refl _ _).alloc (Nat.le_refl _) _, World.alloc_heap_new _ _⟩
theorem equal_nilf (w : World) (d : Nat) (b : Nat) : (Op.equalIn (d + 1) 35 (allF b) .nilFunc).run Tryz.prog w = .ok false w := by
  unfold allF
  simp [Op.equalIn, run_underlying Tryz.underlying35]
theorem neq_nilf (w : World) (b : Nat) : (binOp .neq 35 (allF b) .nilFunc).run Tryz.prog w = .ok (.bool true) w := by
  have h := equal_nilf w 9999 b
  unfold allF at h ⊢
  simp only [binOp]
  simp [Op.equal, Op.maxDepth, h]
theorem eql_nilf (w : World) (b : Nat) : (binOp .eql 35 (allF b) .nilFunc).run Tryz.prog w = .ok (.bool false) w := by
  have h := equal_nilf w 9999 b
  unfold allF at h ⊢
  simp only [binOp]
  simp [Op.equal, Op.maxDepth, h]
def lw1 : List W4 := [⟨1, 0, ⟨#[77, 65, 84, 67, 72]⟩, 0⟩, ⟨5, 6, ⟨#[40]⟩, 0⟩, ⟨1, 7, ⟨#[97]⟩, 0⟩, ⟨5, 8, ⟨#[58]⟩, 0⟩, ⟨2, 9, ⟨#[98, 32, 99]⟩, 0⟩, ⟨5, 14, ⟨#[41]⟩, 0⟩, ⟨5, 22, ⟨#[60, 62]⟩, 0⟩, ⟨4, 24, ⟨#[]⟩, 1⟩]
def bl1 : ByteArray := ⟨#[77, 65, 84, 67, 72, 32, 40, 97, 58, 96, 98, 32, 99, 96, 41, 32, 47, 42, 32, 42, 47, 32, 60, 62, 49, 32, 47, 47, 32, 120]⟩
theorem lit1_words : (lexP bl1).map toW4 = lw1 ∧ lexO bl1 = none := by
  have e : lexB Lib.validD (suf bl1 0) = _ := lit1_lex
  refine ⟨?_, ?_⟩
  · unfold lexP lexQ; rw [e]; rfl
  · unfold lexO; rw [e]
def bl2 : ByteArray := ⟨#[97, 32, 48, 49]⟩
theorem lit2_words : lexO bl2 = some 2 := by
  have e : lexB Lib.validD (suf bl2 0) = _ := lit2_lex
  unfold lexO; rw [e]
theorem dec_1 : Lib.decDigits 1 = [49] := by rw [Lib.decDigits, dif_pos (by decide)]; rfl
set_option maxRecDepth 10000 in
theorem lw1_told : printW (lw1.map W4.wd) = [77, 65, 84, 67, 72, 32, 40, 32, 97, 32, 58, 32, 96, 98, 32, 99, 96, 32, 41, 32, 60, 62, 32, 49] := by
  have e : lw1.map W4.wd = (lw1.take 7).map W4.wd ++ [⟨4, [], 1⟩] := rfl
  rw [e, print_snoc, show tellW ⟨4, [], 1⟩ = Lib.decDigits 1 from rfl, dec_1]
  decide
set_option maxRecDepth 10000 in
theorem lw1_print : printV lw1 = .tuple #[.string ⟨#[77, 65, 84, 67, 72, 32, 40, 32, 97, 32, 58, 32, 96, 98, 32, 99, 96, 32, 41, 32, 60, 62, 32, 49]⟩, .int .i64 0] := by
  rw [printV_ok (by decide) (by rw [lw1_told]; decide), lw1_told]
  rfl
theorem lw1_small : ∀ x ∈ lw1, 0 ≤ x.n ∧ x.n < 18446744073709551616 ∧ x.t.size ≤ 1000000000 := by decide
set_option maxRecDepth 100000 in
theorem spell_match : bsOf (spellB [77, 97, 116, 99, 104]) = ⟨#[96, 77, 97, 116, 99, 104, 96]⟩ := by
  have : spellB [77, 97, 116, 99, 104] = [96, 77, 97, 116, 99, 104, 96] := by decide
  rw [this]; rfl
theorem is_match : (decide ((1 : Int) = 1) && decide (lowL (⟨#[77, 65, 84, 67, 72]⟩ : ByteArray).data.toList = lowL (⟨#[109, 97, 116, 99, 104]⟩ : ByteArray).data.toList)) = true := by decide
set_option maxRecDepth 100000 in
set_option maxHeartbeats 4000000 in
theorem works_any (w : World) (hE : Env w) : Calls Tryz.prog 11 #[] w fun e w' => e = .returned (.bool true) ∧ Below w.heap.size w w' := by
  have HE := hidE hE
  have h8 := hE.room
  clear hE
  have HL1 := hidE (fun w1 (h : Env w1) => lex_any bl1 (by decide) w1 h)
  have HL2 := hidE (fun w1 (h : Env w1) => lex_any bl2 (by decide) w1 h)
  unfold bl1 at HL1
  unfold bl2 at HL2
  go_enter Tryz.func11, Tryz.ntmps11
  go_wp2_with fail
  refine (HL1.out _ HE.out).mono ?_
  rintro e w1 ⟨hb1, ⟨ho, v1, rfl, hl⟩ | ⟨j, hj, ho, _⟩⟩
  · rw [show (⟨#[77, 65, 84, 67, 72, 32, 40, 97, 58, 96, 98, 32, 99, 96, 41, 32, 47, 42, 32, 42, 47, 32, 60, 62, 49, 32, 47, 47, 32, 120]⟩ : ByteArray) = bl1 from rfl, lit1_words.1] at hl
    have HB1 := hidE hb1
    have HLi := hidE hl
    have HP := hidE (print_any v1 lw1 lw1_small w1 (HE.out.below hb1 h8) hl)
    rw [lw1_print] at HP
    clear hb1 ho hl
    go_wp2_with fail
    refine HP.out.mono ?_
    rintro e w2 ⟨rfl, hb2⟩
    have HB2 : Hid (Below w.heap.size w w2) := below_on HB1.out hb2
    have HLi2 : Hid (Lie4 w1.heap.size w2 v1 lw1) := HLi.out.below hb2 (Nat.le_refl _)
    have HS2 : Hid (w1.heap.size ≤ w2.heap.size) := hb2.size
    clear hb2 HP HLi HB1
    go_wp2_with fail
    refine (HL2.out _ (HE.out.below HB2.out h8)).mono ?_
    rintro e w3 ⟨hb3, ⟨ho, _⟩ | ⟨j, hj, ho, rfl⟩⟩
    · rw [show lexO ⟨#[97, 32, 48, 49]⟩ = some 2 from lit2_words] at ho
      cases ho
    · rw [show lexO ⟨#[97, 32, 48, 49]⟩ = some 2 from lit2_words] at ho
      have hj4 : j ≤ 4 := hj
      have hj2 : j = 2 := by
        have : 2 = (⟨#[97, 32, 48, 49]⟩ : ByteArray).size - j := Option.some.inj ho
        have h4 : (⟨#[97, 32, 48, 49]⟩ : ByteArray).size = 4 := rfl
        omega
      subst hj2
      have HB3 : Hid (Below w.heap.size w w3) := below_on HB2.out hb3
      have HLi3 : Hid (Lie4 w1.heap.size w3 v1 lw1) := HLi2.out.below hb3 HS2.out
      clear hb3 HLi2 HB2 ho hj hj4
      obtain ⟨bl, off, cap, rfl, hbl, hlc, c0', c1', c2', c3'⟩ := HLi3.out.at (j := 0) rfl
      obtain ⟨bl', off', cap', e, _, _, d0', d1', d2', d3'⟩ := HLi3.out.at (j := 6) rfl
      cases e
      have HC : Hid (∀ W, Below w3.heap.size w3 W → W.cell? ⟨bl, off, none⟩ = some (.int .i64 1) ∧ W.cell? ⟨bl, off + 1, none⟩ = some (.int .i64 0) ∧ W.cell? ⟨bl, off + 2, none⟩ = some (.string ⟨#[77, 65, 84, 67, 72]⟩) ∧ W.cell? ⟨bl, off + 3, none⟩ = some (.int .u64 0)) := by
        intro W h
        have hx : bl < w3.heap.size := lt_of_cell c0'
        exact ⟨(h.cell hx).trans c0', (h.cell hx).trans c1', (h.cell hx).trans c2', (h.cell hx).trans c3'⟩
      have d0 : w3.cell? ⟨bl, off + 24, none⟩ = some (.int .i64 5) := d0'
      have d1 : w3.cell? ⟨bl, off + 24 + 1, none⟩ = some (.int .i64 22) := d1'
      have d2 : w3.cell? ⟨bl, off + 24 + 2, none⟩ = some (.string ⟨#[60, 62]⟩) := d2'
      have d3 : w3.cell? ⟨bl, off + 24 + 3, none⟩ = some (.int .u64 0) := d3'
      rw [show lw1.length = 8 from rfl]
      clear c0' c1' c2' c3' d0' d1' d2' d3' HLi3
      go_wp2_with fail
      refine (num_any _ _).mono ?_
      rintro e W ⟨rfl, rfl⟩
      go_wp2_with fail
      refine (num_any _ _).mono ?_
      rintro e W ⟨rfl, rfl⟩
      go_wp2_with fail
      refine (num_any _ _).mono ?_
      rintro e W ⟨rfl, rfl⟩
      go_wp2_with fail
      refine (all_any _ _).mono ?_
      rintro e w4 ⟨rfl, hb4, -⟩
      have hq := neq_nilf w4 W.heap.size
      have HB4 := hidE (below_on HB3.out hb4)
      have HB5 := hidE hb4
      clear hb4 d0 d1 d2 d3
      unfold allF at hq ⊢
      go_wp2_with fail
      refine (spell_any ⟨#[77, 97, 116, 99, 104]⟩ (by decide) _ (HE.out.below HB4.out h8)).mono ?_
      rintro e w5 ⟨rfl, hb5⟩
      rw [show bsOf (spellB (⟨#[77, 97, 116, 99, 104]⟩ : ByteArray).data.toList) = _ from spell_match]
      have HB6 := hidE (below_on HB4.out hb5)
      have HB7 := hidE (below_on HB5.out hb5)
      clear hb5 hq
      obtain ⟨c0, c1, c2, c3⟩ := HC.out w5 HB7.out
      go_wp2_with fail
      refine (is_any 1 0 0 ⟨#[77, 65, 84, 67, 72]⟩ ⟨#[109, 97, 116, 99, 104]⟩ (by decide) (by decide) w5).mono ?_
      rintro e w6 ⟨rfl, hb6⟩
      rw [is_match]
      have HB8 := hidE (below_on HB6.out hb6)
      clear hb6
      go_wp2_with fail
      go_ret
      exact ⟨rfl, HB8.out⟩
  · rw [show lexO ⟨#[77, 65, 84, 67, 72, 32, 40, 97, 58, 96, 98, 32, 99, 96, 41, 32, 47, 42, 32, 42, 47, 32, 60, 62, 49, 32, 47, 47, 32, 120]⟩ = none from lit1_words.2] at ho
    cases ho
end Go.Proofs.YtbjcdpenfijfoaaGreatDoor

