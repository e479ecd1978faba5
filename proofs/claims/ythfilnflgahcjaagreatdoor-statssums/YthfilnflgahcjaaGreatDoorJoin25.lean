/- The region of works, operation by operation (tools/gwk.py prints it). The example that every law of the stage runs (works 10). -/
import Derived.Test.YthfilnflgahcjaaGreatDoorSspl
import Derived.Test.YthfilnflgahcjaaGreatDoorJoin11
namespace Go.Proofs.YthfilnflgahcjaaGreatDoor
open Go.RowKit Go.Shelf Go.Maps
set_option linter.unusedVariables false
set_option linter.unusedSimpArgs false
attribute [local go_sem] Oper.semAt_some
noncomputable def R10 : Array Oper := regionAt Tryz.f10 2
def S10 : List Sig := [⟨8, Op.move (Operand.tmp 2), 34, none⟩, ⟨9, Op.call { callee := Callee.value (Operand.func 12), args := #[Operand.tmp 8], argTypes := #[34] }, 3, none⟩, ⟨10, Op.binOp BinOp.eql 3 (Operand.tmp 9) (Operand.const (Value.int IntKind.i64 0)) 3, 4, none⟩, ⟨11, Op.move (Operand.tmp 10), 4, none⟩, ⟨12, Op.fieldAddr 33 (Operand.tmp 1) 2, 0, some (3, true)⟩, ⟨13, Op.load 28 (Operand.tmp 12), 28, some (3, true)⟩, ⟨14, Op.call { callee := Callee.builtin Builtin.len, args := #[Operand.tmp 13], argTypes := #[28] }, 3, some (3, true)⟩, ⟨15, Op.binOp BinOp.eql 3 (Operand.tmp 14) (Operand.const (Value.int IntKind.i64 2)) 3, 4, some (3, true)⟩, ⟨16, Op.pick (Operand.tmp 11) (Operand.tmp 15) (Operand.const (Value.bool false)), 4, none⟩, ⟨17, Op.move (Operand.tmp 16), 4, none⟩, ⟨18, Op.fieldAddr 33 (Operand.tmp 1) 4, 0, some (9, true)⟩, ⟨19, Op.load 30 (Operand.tmp 18), 30, some (9, true)⟩, ⟨20, Op.call { callee := Callee.builtin Builtin.len, args := #[Operand.tmp 19], argTypes := #[30] }, 3, some (9, true)⟩, ⟨21, Op.binOp BinOp.eql 3 (Operand.tmp 20) (Operand.const (Value.int IntKind.i64 5)) 3, 4, some (9, true)⟩, ⟨22, Op.pick (Operand.tmp 17) (Operand.tmp 21) (Operand.const (Value.bool false)), 4, none⟩, ⟨23, Op.move (Operand.tmp 22), 4, none⟩, ⟨24, Op.fieldAddr 33 (Operand.tmp 1) 4, 0, some (15, true)⟩, ⟨25, Op.load 30 (Operand.tmp 24), 30, some (15, true)⟩, ⟨26, Op.indexAddr 30 (Operand.tmp 25) (Operand.const (Value.int IntKind.i64 1)), 0, some (15, true)⟩, ⟨27, Op.load 64 (Operand.tmp 26), 64, some (15, true)⟩, ⟨28, Op.build 64 #[(0, Operand.const (Value.string { data := #[84] })), (1, Operand.const (Value.string { data := #[65] })), (2, Operand.const (Value.bool true)), (3, Operand.const (Value.int IntKind.i64 2))], 64, some (15, true)⟩, ⟨29, Op.binOp BinOp.eql 64 (Operand.tmp 27) (Operand.tmp 28) 64, 4, some (15, true)⟩, ⟨30, Op.pick (Operand.tmp 23) (Operand.tmp 29) (Operand.const (Value.bool false)), 4, none⟩, ⟨31, Op.move (Operand.tmp 30), 4, none⟩, ⟨32, Op.load 33 (Operand.tmp 1), 33, some (23, true)⟩, ⟨33, Op.buildSlice 43 2 #[(0, Operand.const (Value.string { data := #[65] })), (1, Operand.const (Value.string { data := #[66] }))], 43, some (23, true)⟩, ⟨34, Op.call { callee := Callee.value (Operand.func 19), args := #[Operand.tmp 32, Operand.tmp 33], argTypes := #[33, 43] }, 2, some (23, true)⟩, ⟨35, Op.binOp BinOp.eql 2 (Operand.tmp 34) (Operand.const (Value.int IntKind.i64 1)) 2, 4, some (23, true)⟩, ⟨36, Op.pick (Operand.tmp 31) (Operand.tmp 35) (Operand.const (Value.bool false)), 4, none⟩, ⟨37, Op.move (Operand.tmp 36), 4, none⟩, ⟨38, Op.load 33 (Operand.tmp 1), 33, some (29, true)⟩, ⟨39, Op.call { callee := Callee.value (Operand.func 24), args := #[Operand.tmp 38, Operand.const (Value.string { data := #[65] }), Operand.const (Value.string { data := #[107] })], argTypes := #[33, 9, 9] }, 2, some (29, true)⟩, ⟨40, Op.binOp BinOp.eql 2 (Operand.tmp 39) (Operand.const (Value.int IntKind.i64 2)) 2, 4, some (29, true)⟩, ⟨41, Op.pick (Operand.tmp 37) (Operand.tmp 40) (Operand.const (Value.bool false)), 4, none⟩, ⟨42, Op.move (Operand.tmp 41), 4, none⟩, ⟨43, Op.load 33 (Operand.tmp 1), 33, some (34, true)⟩, ⟨44, Op.call { callee := Callee.value (Operand.func 26), args := #[Operand.tmp 43, Operand.const (Value.int IntKind.i64 0), Operand.const (Value.slice none 0 0)], argTypes := #[33, 3, 43] }, 2, some (34, true)⟩, ⟨45, Op.binOp BinOp.eql 2 (Operand.tmp 44) (Operand.const (Value.int IntKind.i64 2)) 2, 4, some (34, true)⟩, ⟨46, Op.pick (Operand.tmp 42) (Operand.tmp 45) (Operand.const (Value.bool false)), 4, none⟩, ⟨47, Op.move (Operand.tmp 46), 4, none⟩, ⟨48, Op.load 33 (Operand.tmp 1), 33, some (39, true)⟩, ⟨49, Op.buildSlice 43 1 #[(0, Operand.const (Value.string { data := #[84] }))], 43, some (39, true)⟩, ⟨50, Op.call { callee := Callee.value (Operand.func 28), args := #[Operand.tmp 48, Operand.const (Value.string { data := #[65] }), Operand.const (Value.int IntKind.i64 1), Operand.tmp 49], argTypes := #[33, 9, 3, 43] }, 2, some (39, true)⟩, ⟨51, Op.binOp BinOp.eql 2 (Operand.tmp 50) (Operand.const (Value.int IntKind.i64 1)) 2, 4, some (39, true)⟩, ⟨52, Op.pick (Operand.tmp 47) (Operand.tmp 51) (Operand.const (Value.bool false)), 4, none⟩, ⟨53, Op.move (Operand.tmp 52), 4, none⟩, ⟨54, Op.call { callee := Callee.value (Operand.func 32), args := #[Operand.const (Value.int IntKind.i64 7), Operand.const (Value.int IntKind.i64 2)], argTypes := #[2, 2] }, 2, some (45, true)⟩, ⟨55, Op.binOp BinOp.eql 2 (Operand.tmp 54) (Operand.const (Value.int IntKind.i64 4)) 2, 4, some (45, true)⟩, ⟨56, Op.pick (Operand.tmp 53) (Operand.tmp 55) (Operand.const (Value.bool false)), 4, none⟩, ⟨0, Op.assign (Operand.tmp 56), 4, none⟩]
theorem show10 : sigsOf R10 = S10.map some := by kernel_rfl
def anc10 (i : Nat) : List Nat := [[], [0], [1], [2], [3], [3, 4], [3, 5], [3, 6], [3, 7], [8], [9], [9, 10], [9, 11], [9, 12], [9, 13], [14], [15], [15, 16], [15, 17], [15, 18], [15], [15, 19, 20], [15, 21], [22], [23], [23], [23, 24, 25], [23, 26], [23, 27], [28], [29], [29, 30], [29, 31], [29, 32], [33], [34], [34, 35], [34, 36], [34, 37], [38], [39], [39], [39, 40, 41], [39, 42], [39, 43], [44], [45], [45, 46], [45, 47], [48]].getD i []
section
variable (bx : Nat) (la : Option Addr) (lc : Nat) (ta : Option Addr) (tc : Nat) (eb eo ec : Nat) (ka : Option Addr) (kc : Nat)
abbrev gs10 : Value := .agg #[.int .i64 3, .int .i64 3, .slice la 2 lc, .slice ta 2 tc, .slice (some ⟨eb, eo, none⟩) 5 ec, .slice ka 2 kc]
def facts10 : List (Value → World → Prop) := [eqv (.int .i64 0), eqv (.int .i64 0), eqv (.bool true), eqv (.bool true), eqv (.pointer (some ⟨bx, 2, none⟩)), eqv (.slice la 2 lc), eqv (.int .i64 2), eqv (.bool true), eqv (.bool true), eqv (.bool true), eqv (.pointer (some ⟨bx, 4, none⟩)), eqv (.slice (some ⟨eb, eo, none⟩) 5 ec), eqv (.int .i64 5), eqv (.bool true), eqv (.bool true), eqv (.bool true), eqv (.pointer (some ⟨bx, 4, none⟩)), eqv (.slice (some ⟨eb, eo, none⟩) 5 ec), eqv (.pointer (some ⟨eb, eo + 4, none⟩)), eqv (.agg #[.string ⟨#[84]⟩, .string ⟨#[65]⟩, .bool true, .int .i64 2]), eqv (.agg #[.string ⟨#[84]⟩, .string ⟨#[65]⟩, .bool true, .int .i64 2]), eqv (.bool true), eqv (.bool true), eqv (.bool true), eqv (gs10 la lc ta tc eb eo ec ka kc), (fun v W => SRow 1 strE W.heap.size W v [⟨#[65]⟩, ⟨#[66]⟩]), eqv (.int .i64 1), eqv (.bool true), eqv (.bool true), eqv (.bool true), eqv (gs10 la lc ta tc eb eo ec ka kc), eqv (.int .i64 2), eqv (.bool true), eqv (.bool true), eqv (.bool true), eqv (gs10 la lc ta tc eb eo ec ka kc), eqv (.int .i64 2), eqv (.bool true), eqv (.bool true), eqv (.bool true), eqv (gs10 la lc ta tc eb eo ec ka kc), (fun v W => SRow 1 strE W.heap.size W v [⟨#[84]⟩]), eqv (.int .i64 1), eqv (.bool true), eqv (.bool true), eqv (.bool true), eqv (.int .i64 4), eqv (.bool true), eqv (.bool true), eqv (.bool true)]
structure Wd10 (w : World) : Prop where
  c0 : w.cell? ⟨bx, 0, none⟩ = some (.int .i64 3)
  c1 : w.cell? ⟨bx, 1, none⟩ = some (.int .i64 3)
  c2 : w.cell? ⟨bx, 2, none⟩ = some (.slice la 2 lc)
  c3 : w.cell? ⟨bx, 3, none⟩ = some (.slice ta 2 tc)
  c4 : w.cell? ⟨bx, 4, none⟩ = some (.slice (some ⟨eb, eo, none⟩) 5 ec)
  c5 : w.cell? ⟨bx, 5, none⟩ = some (.slice ka 2 kc)
  d0 : w.cell? ⟨eb, eo + 4, none⟩ = some (.string ⟨#[84]⟩)
  d1 : w.cell? ⟨eb, eo + 4 + 1, none⟩ = some (.string ⟨#[65]⟩)
  d2 : w.cell? ⟨eb, eo + 4 + 2, none⟩ = some (.bool true)
  d3 : w.cell? ⟨eb, eo + 4 + 3, none⟩ = some (.int .i64 2)
  k12 : Calls Tryz.prog 12 #[.int .i64 0] w fun e w' => e = .returned (.int .i64 0) ∧ Below w.heap.size w w'
  k19 : ∀ y, SRow 1 strE w.heap.size w y [⟨#[65]⟩, ⟨#[66]⟩] → Calls Tryz.prog 19 #[gs10 la lc ta tc eb eo ec ka kc, y] w fun e w' => e = .returned (.int .i64 1) ∧ Below w.heap.size w w'
  k24 : Calls Tryz.prog 24 #[gs10 la lc ta tc eb eo ec ka kc, .string ⟨#[65]⟩, .string ⟨#[107]⟩] w fun e w' => e = .returned (.int .i64 2) ∧ Below w.heap.size w w'
  k26 : Calls Tryz.prog 26 #[gs10 la lc ta tc eb eo ec ka kc, .int .i64 0, .slice none 0 0] w fun e w' => e = .returned (.int .i64 2) ∧ Below w.heap.size w w'
  k28 : ∀ y, SRow 1 strE w.heap.size w y [⟨#[84]⟩] → Calls Tryz.prog 28 #[gs10 la lc ta tc eb eo ec ka kc, .string ⟨#[65]⟩, .int .i64 1, y] w fun e w' => e = .returned (.int .i64 1) ∧ Below w.heap.size w w'
  k32 : Calls Tryz.prog 32 #[.int .i64 7, .int .i64 2] w fun e w' => e = .returned (.int .i64 4) ∧ Below w.heap.size w w'
set_option maxRecDepth 100000 in
set_option maxHeartbeats 4000000 in
theorem ops10 (Q : Exit → Act → World → Prop) (c : Act) (w : World) (q1 : c.eval (.tmp 1) = .pointer (some ⟨bx, 0, none⟩)) (q2 : c.eval (.tmp 2) = .int .i64 0) (hW : Wd10 bx la lc ta tc eb eo ec ka kc w) (i : Nat) (hi : i < 50) (hF : ∀ j ∈ anc10 i, factsAt (facts10 bx la lc ta tc eb eo ec ka kc) j (val R10 c j) w) :
    Does Tryz.prog R10 Q (factsAt (facts10 bx la lc ta tc eb eo ec ka kc)) i c w := by
  have ec' : ∀ v, c.eval (.const v) = v := fun _ => rfl
  have ef : ∀ f, c.eval (.func f) = .func (.func f) #[] #[] := fun _ => rfl
  match i, hi, hF with
  | 0, _, hF =>
    obtain ⟨pos, af, ho⟩ := sig_at show10 (i := 0) rfl
    refine does_value ho (want_none rfl) (v := .int .i64 0) ?_ rfl (Below.refl _ _)
    dsimp only [Sig.oper]
    generalize c.eval = ρ at *
    clear hF hW ho
    go_simp
  | 1, _, hF =>
    obtain ⟨pos, af, ho⟩ := sig_at show10 (i := 1) rfl
    have e8 : c.eval (.tmp 8) = .int .i64 0 := fact_at (p := eqv (.int .i64 0)) (by kernel_rfl) rfl (hF 0 (by decide))
    refine does_call ho (want_none rfl) (f := 12) (args := #[.int .i64 0]) ?_ (Calls.mono hW.k12 fun e w' ⟨h1, h2⟩ => ⟨_, h1, rfl, h2⟩)
    dsimp only [Sig.oper]
    generalize c.eval = ρ at *
    clear hF hW ho
    go_simp
  | 2, _, hF =>
    obtain ⟨pos, af, ho⟩ := sig_at show10 (i := 2) rfl
    have e9 : c.eval (.tmp 9) = .int .i64 0 := fact_at (p := eqv (.int .i64 0)) (by kernel_rfl) rfl (hF 1 (by decide))
    refine does_value ho (want_none rfl) (v := .bool true) ?_ rfl (Below.refl _ _)
    dsimp only [Sig.oper]
    generalize c.eval = ρ at *
    clear hF hW ho
    go_simp
  | 3, _, hF =>
    obtain ⟨pos, af, ho⟩ := sig_at show10 (i := 3) rfl
    have e10 : c.eval (.tmp 10) = .bool true := fact_at (p := eqv (.bool true)) (by kernel_rfl) rfl (hF 2 (by decide))
    refine does_value ho (want_none rfl) (v := .bool true) ?_ rfl (Below.refl _ _)
    dsimp only [Sig.oper]
    generalize c.eval = ρ at *
    clear hF hW ho
    go_simp
  | 4, _, hF =>
    obtain ⟨pos, af, ho⟩ := sig_at show10 (i := 4) rfl
    have e11 : c.eval (.tmp 11) = .bool true := fact_at (p := eqv (.bool true)) (by kernel_rfl) rfl (hF 3 (by decide))
    refine does_value ho (want_eq rfl (hF 3 (by decide))) (v := .pointer (some ⟨bx, 2, none⟩)) ?_ rfl (Below.refl _ _)
    dsimp only [Sig.oper]
    generalize c.eval = ρ at *
    clear hF hW ho
    go_simp
  | 5, _, hF =>
    obtain ⟨pos, af, ho⟩ := sig_at show10 (i := 5) rfl
    have e11 : c.eval (.tmp 11) = .bool true := fact_at (p := eqv (.bool true)) (by kernel_rfl) rfl (hF 3 (by decide))
    have e12 : c.eval (.tmp 12) = .pointer (some ⟨bx, 2, none⟩) := fact_at (p := eqv (.pointer (some ⟨bx, 2, none⟩))) (by kernel_rfl) rfl (hF 4 (by decide))
    have z2 := hW.c2
    refine does_value ho (want_eq rfl (hF 3 (by decide))) (v := .slice la 2 lc) ?_ rfl (Below.refl _ _)
    dsimp only [Sig.oper]
    generalize c.eval = ρ at *
    clear hF hW ho
    go_simp
  | 6, _, hF =>
    obtain ⟨pos, af, ho⟩ := sig_at show10 (i := 6) rfl
    have e11 : c.eval (.tmp 11) = .bool true := fact_at (p := eqv (.bool true)) (by kernel_rfl) rfl (hF 3 (by decide))
    have e13 : c.eval (.tmp 13) = .slice la 2 lc := fact_at (p := eqv (.slice la 2 lc)) (by kernel_rfl) rfl (hF 5 (by decide))
    refine does_value ho (want_eq rfl (hF 3 (by decide))) (v := .int .i64 2) ?_ rfl (Below.refl _ _)
    dsimp only [Sig.oper]
    generalize c.eval = ρ at *
    clear hF hW ho
    go_simp
  | 7, _, hF =>
    obtain ⟨pos, af, ho⟩ := sig_at show10 (i := 7) rfl
    have e11 : c.eval (.tmp 11) = .bool true := fact_at (p := eqv (.bool true)) (by kernel_rfl) rfl (hF 3 (by decide))
    have e14 : c.eval (.tmp 14) = .int .i64 2 := fact_at (p := eqv (.int .i64 2)) (by kernel_rfl) rfl (hF 6 (by decide))
    refine does_value ho (want_eq rfl (hF 3 (by decide))) (v := .bool true) ?_ rfl (Below.refl _ _)
    dsimp only [Sig.oper]
    generalize c.eval = ρ at *
    clear hF hW ho
    go_simp
  | 8, _, hF =>
    obtain ⟨pos, af, ho⟩ := sig_at show10 (i := 8) rfl
    have e11 : c.eval (.tmp 11) = .bool true := fact_at (p := eqv (.bool true)) (by kernel_rfl) rfl (hF 3 (by decide))
    have e15 : c.eval (.tmp 15) = .bool true := fact_at (p := eqv (.bool true)) (by kernel_rfl) rfl (hF 7 (by decide))
    refine does_value ho (want_none rfl) (v := .bool true) ?_ rfl (Below.refl _ _)
    dsimp only [Sig.oper]
    generalize c.eval = ρ at *
    clear hF hW ho
    go_simp
  | 9, _, hF =>
    obtain ⟨pos, af, ho⟩ := sig_at show10 (i := 9) rfl
    have e16 : c.eval (.tmp 16) = .bool true := fact_at (p := eqv (.bool true)) (by kernel_rfl) rfl (hF 8 (by decide))
    refine does_value ho (want_none rfl) (v := .bool true) ?_ rfl (Below.refl _ _)
    dsimp only [Sig.oper]
    generalize c.eval = ρ at *
    clear hF hW ho
    go_simp
  | 10, _, hF =>
    obtain ⟨pos, af, ho⟩ := sig_at show10 (i := 10) rfl
    have e17 : c.eval (.tmp 17) = .bool true := fact_at (p := eqv (.bool true)) (by kernel_rfl) rfl (hF 9 (by decide))
    refine does_value ho (want_eq rfl (hF 9 (by decide))) (v := .pointer (some ⟨bx, 4, none⟩)) ?_ rfl (Below.refl _ _)
    dsimp only [Sig.oper]
    generalize c.eval = ρ at *
    clear hF hW ho
    go_simp
  | 11, _, hF =>
    obtain ⟨pos, af, ho⟩ := sig_at show10 (i := 11) rfl
    have e17 : c.eval (.tmp 17) = .bool true := fact_at (p := eqv (.bool true)) (by kernel_rfl) rfl (hF 9 (by decide))
    have e18 : c.eval (.tmp 18) = .pointer (some ⟨bx, 4, none⟩) := fact_at (p := eqv (.pointer (some ⟨bx, 4, none⟩))) (by kernel_rfl) rfl (hF 10 (by decide))
    have z4 := hW.c4
    refine does_value ho (want_eq rfl (hF 9 (by decide))) (v := .slice (some ⟨eb, eo, none⟩) 5 ec) ?_ rfl (Below.refl _ _)
    dsimp only [Sig.oper]
    generalize c.eval = ρ at *
    clear hF hW ho
    go_simp
  | 12, _, hF =>
    obtain ⟨pos, af, ho⟩ := sig_at show10 (i := 12) rfl
    have e17 : c.eval (.tmp 17) = .bool true := fact_at (p := eqv (.bool true)) (by kernel_rfl) rfl (hF 9 (by decide))
    have e19 : c.eval (.tmp 19) = .slice (some ⟨eb, eo, none⟩) 5 ec := fact_at (p := eqv (.slice (some ⟨eb, eo, none⟩) 5 ec)) (by kernel_rfl) rfl (hF 11 (by decide))
    refine does_value ho (want_eq rfl (hF 9 (by decide))) (v := .int .i64 5) ?_ rfl (Below.refl _ _)
    dsimp only [Sig.oper]
    generalize c.eval = ρ at *
    clear hF hW ho
    go_simp
  | 13, _, hF =>
    obtain ⟨pos, af, ho⟩ := sig_at show10 (i := 13) rfl
    have e17 : c.eval (.tmp 17) = .bool true := fact_at (p := eqv (.bool true)) (by kernel_rfl) rfl (hF 9 (by decide))
    have e20 : c.eval (.tmp 20) = .int .i64 5 := fact_at (p := eqv (.int .i64 5)) (by kernel_rfl) rfl (hF 12 (by decide))
    refine does_value ho (want_eq rfl (hF 9 (by decide))) (v := .bool true) ?_ rfl (Below.refl _ _)
    dsimp only [Sig.oper]
    generalize c.eval = ρ at *
    clear hF hW ho
    go_simp
  | 14, _, hF =>
    obtain ⟨pos, af, ho⟩ := sig_at show10 (i := 14) rfl
    have e17 : c.eval (.tmp 17) = .bool true := fact_at (p := eqv (.bool true)) (by kernel_rfl) rfl (hF 9 (by decide))
    have e21 : c.eval (.tmp 21) = .bool true := fact_at (p := eqv (.bool true)) (by kernel_rfl) rfl (hF 13 (by decide))
    refine does_value ho (want_none rfl) (v := .bool true) ?_ rfl (Below.refl _ _)
    dsimp only [Sig.oper]
    generalize c.eval = ρ at *
    clear hF hW ho
    go_simp
  | 15, _, hF =>
    obtain ⟨pos, af, ho⟩ := sig_at show10 (i := 15) rfl
    have e22 : c.eval (.tmp 22) = .bool true := fact_at (p := eqv (.bool true)) (by kernel_rfl) rfl (hF 14 (by decide))
    refine does_value ho (want_none rfl) (v := .bool true) ?_ rfl (Below.refl _ _)
    dsimp only [Sig.oper]
    generalize c.eval = ρ at *
    clear hF hW ho
    go_simp
  | 16, _, hF =>
    obtain ⟨pos, af, ho⟩ := sig_at show10 (i := 16) rfl
    have e23 : c.eval (.tmp 23) = .bool true := fact_at (p := eqv (.bool true)) (by kernel_rfl) rfl (hF 15 (by decide))
    refine does_value ho (want_eq rfl (hF 15 (by decide))) (v := .pointer (some ⟨bx, 4, none⟩)) ?_ rfl (Below.refl _ _)
    dsimp only [Sig.oper]
    generalize c.eval = ρ at *
    clear hF hW ho
    go_simp
  | 17, _, hF =>
    obtain ⟨pos, af, ho⟩ := sig_at show10 (i := 17) rfl
    have e23 : c.eval (.tmp 23) = .bool true := fact_at (p := eqv (.bool true)) (by kernel_rfl) rfl (hF 15 (by decide))
    have e24 : c.eval (.tmp 24) = .pointer (some ⟨bx, 4, none⟩) := fact_at (p := eqv (.pointer (some ⟨bx, 4, none⟩))) (by kernel_rfl) rfl (hF 16 (by decide))
    have z4 := hW.c4
    refine does_value ho (want_eq rfl (hF 15 (by decide))) (v := .slice (some ⟨eb, eo, none⟩) 5 ec) ?_ rfl (Below.refl _ _)
    dsimp only [Sig.oper]
    generalize c.eval = ρ at *
    clear hF hW ho
    go_simp
  | 18, _, hF =>
    obtain ⟨pos, af, ho⟩ := sig_at show10 (i := 18) rfl
    have e23 : c.eval (.tmp 23) = .bool true := fact_at (p := eqv (.bool true)) (by kernel_rfl) rfl (hF 15 (by decide))
    have e25 : c.eval (.tmp 25) = .slice (some ⟨eb, eo, none⟩) 5 ec := fact_at (p := eqv (.slice (some ⟨eb, eo, none⟩) 5 ec)) (by kernel_rfl) rfl (hF 17 (by decide))
    refine does_value ho (want_eq rfl (hF 15 (by decide))) (v := .pointer (some ⟨eb, eo + 4, none⟩)) ?_ rfl (Below.refl _ _)
    dsimp only [Sig.oper]
    generalize c.eval = ρ at *
    clear hF hW ho
    go_simp
  | 19, _, hF =>
    obtain ⟨pos, af, ho⟩ := sig_at show10 (i := 19) rfl
    have e23 : c.eval (.tmp 23) = .bool true := fact_at (p := eqv (.bool true)) (by kernel_rfl) rfl (hF 15 (by decide))
    have e26 : c.eval (.tmp 26) = .pointer (some ⟨eb, eo + 4, none⟩) := fact_at (p := eqv (.pointer (some ⟨eb, eo + 4, none⟩))) (by kernel_rfl) rfl (hF 18 (by decide))
    have z0 := hW.d0
    have z1 := hW.d1
    have z2 := hW.d2
    have z3 := hW.d3
    refine does_value ho (want_eq rfl (hF 15 (by decide))) (v := .agg #[.string ⟨#[84]⟩, .string ⟨#[65]⟩, .bool true, .int .i64 2]) ?_ rfl (Below.refl _ _)
    dsimp only [Sig.oper]
    generalize c.eval = ρ at *
    clear hF hW ho
    go_simp
  | 20, _, hF =>
    obtain ⟨pos, af, ho⟩ := sig_at show10 (i := 20) rfl
    have e23 : c.eval (.tmp 23) = .bool true := fact_at (p := eqv (.bool true)) (by kernel_rfl) rfl (hF 15 (by decide))
    refine does_value ho (want_eq rfl (hF 15 (by decide))) (v := .agg #[.string ⟨#[84]⟩, .string ⟨#[65]⟩, .bool true, .int .i64 2]) ?_ rfl (Below.refl _ _)
    dsimp only [Sig.oper]
    generalize c.eval = ρ at *
    clear hF hW ho
    go_simp
  | 21, _, hF =>
    obtain ⟨pos, af, ho⟩ := sig_at show10 (i := 21) rfl
    have e23 : c.eval (.tmp 23) = .bool true := fact_at (p := eqv (.bool true)) (by kernel_rfl) rfl (hF 15 (by decide))
    have e27 : c.eval (.tmp 27) = .agg #[.string ⟨#[84]⟩, .string ⟨#[65]⟩, .bool true, .int .i64 2] := fact_at (p := eqv (.agg #[.string ⟨#[84]⟩, .string ⟨#[65]⟩, .bool true, .int .i64 2])) (by kernel_rfl) rfl (hF 19 (by decide))
    have e28 : c.eval (.tmp 28) = .agg #[.string ⟨#[84]⟩, .string ⟨#[65]⟩, .bool true, .int .i64 2] := fact_at (p := eqv (.agg #[.string ⟨#[84]⟩, .string ⟨#[65]⟩, .bool true, .int .i64 2])) (by kernel_rfl) rfl (hF 20 (by decide))
    refine does_value ho (want_eq rfl (hF 15 (by decide))) (v := .bool true) ?_ rfl (Below.refl _ _)
    dsimp only [Sig.oper]
    generalize c.eval = ρ at *
    clear hF hW ho
    go_simp
  | 22, _, hF =>
    obtain ⟨pos, af, ho⟩ := sig_at show10 (i := 22) rfl
    have e23 : c.eval (.tmp 23) = .bool true := fact_at (p := eqv (.bool true)) (by kernel_rfl) rfl (hF 15 (by decide))
    have e29 : c.eval (.tmp 29) = .bool true := fact_at (p := eqv (.bool true)) (by kernel_rfl) rfl (hF 21 (by decide))
    refine does_value ho (want_none rfl) (v := .bool true) ?_ rfl (Below.refl _ _)
    dsimp only [Sig.oper]
    generalize c.eval = ρ at *
    clear hF hW ho
    go_simp
  | 23, _, hF =>
    obtain ⟨pos, af, ho⟩ := sig_at show10 (i := 23) rfl
    have e30 : c.eval (.tmp 30) = .bool true := fact_at (p := eqv (.bool true)) (by kernel_rfl) rfl (hF 22 (by decide))
    refine does_value ho (want_none rfl) (v := .bool true) ?_ rfl (Below.refl _ _)
    dsimp only [Sig.oper]
    generalize c.eval = ρ at *
    clear hF hW ho
    go_simp
  | 24, _, hF =>
    obtain ⟨pos, af, ho⟩ := sig_at show10 (i := 24) rfl
    have e31 : c.eval (.tmp 31) = .bool true := fact_at (p := eqv (.bool true)) (by kernel_rfl) rfl (hF 23 (by decide))
    have z0 := hW.c0
    have z1 := hW.c1
    have z2 := hW.c2
    have z3 := hW.c3
    have z4 := hW.c4
    have z5 := hW.c5
    refine does_value ho (want_eq rfl (hF 23 (by decide))) (v := gs10 la lc ta tc eb eo ec ka kc) ?_ rfl (Below.refl _ _)
    dsimp only [Sig.oper]
    generalize c.eval = ρ at *
    clear hF hW ho
    go_simp
  | 25, _, hF =>
    obtain ⟨pos, af, ho⟩ := sig_at show10 (i := 25) rfl
    have e31 : c.eval (.tmp 31) = .bool true := fact_at (p := eqv (.bool true)) (by kernel_rfl) rfl (hF 23 (by decide))
    refine does_value ho (want_eq rfl (hF 23 (by decide))) (v := .slice (some ⟨w.heap.size, 0, none⟩) 2 2) (w' := w.alloc (.cells #[.string ⟨#[65]⟩, .string ⟨#[66]⟩] 9)) ?_ (srow_new (k := 1) (enc := strE) (fun _ => rfl) w [⟨#[65]⟩, ⟨#[66]⟩] #[.string ⟨#[65]⟩, .string ⟨#[66]⟩] 9 rfl (by decide)) ((Below.refl _ _).alloc (Nat.le_refl _) _)
    dsimp only [Sig.oper]
    generalize c.eval = ρ at *
    clear hF hW ho
    go_simp
  | 26, _, hF =>
    obtain ⟨pos, af, ho⟩ := sig_at show10 (i := 26) rfl
    have e31 : c.eval (.tmp 31) = .bool true := fact_at (p := eqv (.bool true)) (by kernel_rfl) rfl (hF 23 (by decide))
    have e32 : c.eval (.tmp 32) = gs10 la lc ta tc eb eo ec ka kc := fact_at (p := eqv (gs10 la lc ta tc eb eo ec ka kc)) (by kernel_rfl) rfl (hF 24 (by decide))
    have h33 := fact_at (d := 33) (p := (fun v W => SRow 1 strE W.heap.size W v [⟨#[65]⟩, ⟨#[66]⟩])) (by kernel_rfl) rfl (hF 25 (by decide))
    obtain ⟨y33, e33⟩ : ∃ y, c.eval (.tmp 33) = y := ⟨_, rfl⟩
    simp only [e33] at h33
    refine does_call ho (want_eq rfl (hF 23 (by decide))) (f := 19) (args := #[gs10 la lc ta tc eb eo ec ka kc, y33]) ?_ (Calls.mono (hW.k19 y33 h33) fun e w' ⟨h1, h2⟩ => ⟨_, h1, rfl, h2⟩)
    dsimp only [Sig.oper]
    generalize c.eval = ρ at *
    clear hF hW ho
    go_simp
  | 27, _, hF =>
    obtain ⟨pos, af, ho⟩ := sig_at show10 (i := 27) rfl
    have e31 : c.eval (.tmp 31) = .bool true := fact_at (p := eqv (.bool true)) (by kernel_rfl) rfl (hF 23 (by decide))
    have e34 : c.eval (.tmp 34) = .int .i64 1 := fact_at (p := eqv (.int .i64 1)) (by kernel_rfl) rfl (hF 26 (by decide))
    refine does_value ho (want_eq rfl (hF 23 (by decide))) (v := .bool true) ?_ rfl (Below.refl _ _)
    dsimp only [Sig.oper]
    generalize c.eval = ρ at *
    clear hF hW ho
    go_simp
  | 28, _, hF =>
    obtain ⟨pos, af, ho⟩ := sig_at show10 (i := 28) rfl
    have e31 : c.eval (.tmp 31) = .bool true := fact_at (p := eqv (.bool true)) (by kernel_rfl) rfl (hF 23 (by decide))
    have e35 : c.eval (.tmp 35) = .bool true := fact_at (p := eqv (.bool true)) (by kernel_rfl) rfl (hF 27 (by decide))
    refine does_value ho (want_none rfl) (v := .bool true) ?_ rfl (Below.refl _ _)
    dsimp only [Sig.oper]
    generalize c.eval = ρ at *
    clear hF hW ho
    go_simp
  | 29, _, hF =>
    obtain ⟨pos, af, ho⟩ := sig_at show10 (i := 29) rfl
    have e36 : c.eval (.tmp 36) = .bool true := fact_at (p := eqv (.bool true)) (by kernel_rfl) rfl (hF 28 (by decide))
    refine does_value ho (want_none rfl) (v := .bool true) ?_ rfl (Below.refl _ _)
    dsimp only [Sig.oper]
    generalize c.eval = ρ at *
    clear hF hW ho
    go_simp
  | 30, _, hF =>
    obtain ⟨pos, af, ho⟩ := sig_at show10 (i := 30) rfl
    have e37 : c.eval (.tmp 37) = .bool true := fact_at (p := eqv (.bool true)) (by kernel_rfl) rfl (hF 29 (by decide))
    have z0 := hW.c0
    have z1 := hW.c1
    have z2 := hW.c2
    have z3 := hW.c3
    have z4 := hW.c4
    have z5 := hW.c5
    refine does_value ho (want_eq rfl (hF 29 (by decide))) (v := gs10 la lc ta tc eb eo ec ka kc) ?_ rfl (Below.refl _ _)
    dsimp only [Sig.oper]
    generalize c.eval = ρ at *
    clear hF hW ho
    go_simp
  | 31, _, hF =>
    obtain ⟨pos, af, ho⟩ := sig_at show10 (i := 31) rfl
    have e37 : c.eval (.tmp 37) = .bool true := fact_at (p := eqv (.bool true)) (by kernel_rfl) rfl (hF 29 (by decide))
    have e38 : c.eval (.tmp 38) = gs10 la lc ta tc eb eo ec ka kc := fact_at (p := eqv (gs10 la lc ta tc eb eo ec ka kc)) (by kernel_rfl) rfl (hF 30 (by decide))
    refine does_call ho (want_eq rfl (hF 29 (by decide))) (f := 24) (args := #[gs10 la lc ta tc eb eo ec ka kc, .string ⟨#[65]⟩, .string ⟨#[107]⟩]) ?_ (Calls.mono hW.k24 fun e w' ⟨h1, h2⟩ => ⟨_, h1, rfl, h2⟩)
    dsimp only [Sig.oper]
    generalize c.eval = ρ at *
    clear hF hW ho
    go_simp
  | 32, _, hF =>
    obtain ⟨pos, af, ho⟩ := sig_at show10 (i := 32) rfl
    have e37 : c.eval (.tmp 37) = .bool true := fact_at (p := eqv (.bool true)) (by kernel_rfl) rfl (hF 29 (by decide))
    have e39 : c.eval (.tmp 39) = .int .i64 2 := fact_at (p := eqv (.int .i64 2)) (by kernel_rfl) rfl (hF 31 (by decide))
    refine does_value ho (want_eq rfl (hF 29 (by decide))) (v := .bool true) ?_ rfl (Below.refl _ _)
    dsimp only [Sig.oper]
    generalize c.eval = ρ at *
    clear hF hW ho
    go_simp
  | 33, _, hF =>
    obtain ⟨pos, af, ho⟩ := sig_at show10 (i := 33) rfl
    have e37 : c.eval (.tmp 37) = .bool true := fact_at (p := eqv (.bool true)) (by kernel_rfl) rfl (hF 29 (by decide))
    have e40 : c.eval (.tmp 40) = .bool true := fact_at (p := eqv (.bool true)) (by kernel_rfl) rfl (hF 32 (by decide))
    refine does_value ho (want_none rfl) (v := .bool true) ?_ rfl (Below.refl _ _)
    dsimp only [Sig.oper]
    generalize c.eval = ρ at *
    clear hF hW ho
    go_simp
  | 34, _, hF =>
    obtain ⟨pos, af, ho⟩ := sig_at show10 (i := 34) rfl
    have e41 : c.eval (.tmp 41) = .bool true := fact_at (p := eqv (.bool true)) (by kernel_rfl) rfl (hF 33 (by decide))
    refine does_value ho (want_none rfl) (v := .bool true) ?_ rfl (Below.refl _ _)
    dsimp only [Sig.oper]
    generalize c.eval = ρ at *
    clear hF hW ho
    go_simp
  | 35, _, hF =>
    obtain ⟨pos, af, ho⟩ := sig_at show10 (i := 35) rfl
    have e42 : c.eval (.tmp 42) = .bool true := fact_at (p := eqv (.bool true)) (by kernel_rfl) rfl (hF 34 (by decide))
    have z0 := hW.c0
    have z1 := hW.c1
    have z2 := hW.c2
    have z3 := hW.c3
    have z4 := hW.c4
    have z5 := hW.c5
    refine does_value ho (want_eq rfl (hF 34 (by decide))) (v := gs10 la lc ta tc eb eo ec ka kc) ?_ rfl (Below.refl _ _)
    dsimp only [Sig.oper]
    generalize c.eval = ρ at *
    clear hF hW ho
    go_simp
  | 36, _, hF =>
    obtain ⟨pos, af, ho⟩ := sig_at show10 (i := 36) rfl
    have e42 : c.eval (.tmp 42) = .bool true := fact_at (p := eqv (.bool true)) (by kernel_rfl) rfl (hF 34 (by decide))
    have e43 : c.eval (.tmp 43) = gs10 la lc ta tc eb eo ec ka kc := fact_at (p := eqv (gs10 la lc ta tc eb eo ec ka kc)) (by kernel_rfl) rfl (hF 35 (by decide))
    refine does_call ho (want_eq rfl (hF 34 (by decide))) (f := 26) (args := #[gs10 la lc ta tc eb eo ec ka kc, .int .i64 0, .slice none 0 0]) ?_ (Calls.mono hW.k26 fun e w' ⟨h1, h2⟩ => ⟨_, h1, rfl, h2⟩)
    dsimp only [Sig.oper]
    generalize c.eval = ρ at *
    clear hF hW ho
    go_simp
  | 37, _, hF =>
    obtain ⟨pos, af, ho⟩ := sig_at show10 (i := 37) rfl
    have e42 : c.eval (.tmp 42) = .bool true := fact_at (p := eqv (.bool true)) (by kernel_rfl) rfl (hF 34 (by decide))
    have e44 : c.eval (.tmp 44) = .int .i64 2 := fact_at (p := eqv (.int .i64 2)) (by kernel_rfl) rfl (hF 36 (by decide))
    refine does_value ho (want_eq rfl (hF 34 (by decide))) (v := .bool true) ?_ rfl (Below.refl _ _)
    dsimp only [Sig.oper]
    generalize c.eval = ρ at *
    clear hF hW ho
    go_simp
  | 38, _, hF =>
    obtain ⟨pos, af, ho⟩ := sig_at show10 (i := 38) rfl
    have e42 : c.eval (.tmp 42) = .bool true := fact_at (p := eqv (.bool true)) (by kernel_rfl) rfl (hF 34 (by decide))
    have e45 : c.eval (.tmp 45) = .bool true := fact_at (p := eqv (.bool true)) (by kernel_rfl) rfl (hF 37 (by decide))
    refine does_value ho (want_none rfl) (v := .bool true) ?_ rfl (Below.refl _ _)
    dsimp only [Sig.oper]
    generalize c.eval = ρ at *
    clear hF hW ho
    go_simp
  | 39, _, hF =>
    obtain ⟨pos, af, ho⟩ := sig_at show10 (i := 39) rfl
    have e46 : c.eval (.tmp 46) = .bool true := fact_at (p := eqv (.bool true)) (by kernel_rfl) rfl (hF 38 (by decide))
    refine does_value ho (want_none rfl) (v := .bool true) ?_ rfl (Below.refl _ _)
    dsimp only [Sig.oper]
    generalize c.eval = ρ at *
    clear hF hW ho
    go_simp
  | 40, _, hF =>
    obtain ⟨pos, af, ho⟩ := sig_at show10 (i := 40) rfl
    have e47 : c.eval (.tmp 47) = .bool true := fact_at (p := eqv (.bool true)) (by kernel_rfl) rfl (hF 39 (by decide))
    have z0 := hW.c0
    have z1 := hW.c1
    have z2 := hW.c2
    have z3 := hW.c3
    have z4 := hW.c4
    have z5 := hW.c5
    refine does_value ho (want_eq rfl (hF 39 (by decide))) (v := gs10 la lc ta tc eb eo ec ka kc) ?_ rfl (Below.refl _ _)
    dsimp only [Sig.oper]
    generalize c.eval = ρ at *
    clear hF hW ho
    go_simp
  | 41, _, hF =>
    obtain ⟨pos, af, ho⟩ := sig_at show10 (i := 41) rfl
    have e47 : c.eval (.tmp 47) = .bool true := fact_at (p := eqv (.bool true)) (by kernel_rfl) rfl (hF 39 (by decide))
    refine does_value ho (want_eq rfl (hF 39 (by decide))) (v := .slice (some ⟨w.heap.size, 0, none⟩) 1 1) (w' := w.alloc (.cells #[.string ⟨#[84]⟩] 9)) ?_ (srow_new (k := 1) (enc := strE) (fun _ => rfl) w [⟨#[84]⟩] #[.string ⟨#[84]⟩] 9 rfl (by decide)) ((Below.refl _ _).alloc (Nat.le_refl _) _)
    dsimp only [Sig.oper]
    generalize c.eval = ρ at *
    clear hF hW ho
    go_simp
  | 42, _, hF =>
    obtain ⟨pos, af, ho⟩ := sig_at show10 (i := 42) rfl
    have e47 : c.eval (.tmp 47) = .bool true := fact_at (p := eqv (.bool true)) (by kernel_rfl) rfl (hF 39 (by decide))
    have e48 : c.eval (.tmp 48) = gs10 la lc ta tc eb eo ec ka kc := fact_at (p := eqv (gs10 la lc ta tc eb eo ec ka kc)) (by kernel_rfl) rfl (hF 40 (by decide))
    have h49 := fact_at (d := 49) (p := (fun v W => SRow 1 strE W.heap.size W v [⟨#[84]⟩])) (by kernel_rfl) rfl (hF 41 (by decide))
    obtain ⟨y49, e49⟩ : ∃ y, c.eval (.tmp 49) = y := ⟨_, rfl⟩
    simp only [e49] at h49
    refine does_call ho (want_eq rfl (hF 39 (by decide))) (f := 28) (args := #[gs10 la lc ta tc eb eo ec ka kc, .string ⟨#[65]⟩, .int .i64 1, y49]) ?_ (Calls.mono (hW.k28 y49 h49) fun e w' ⟨h1, h2⟩ => ⟨_, h1, rfl, h2⟩)
    dsimp only [Sig.oper]
    generalize c.eval = ρ at *
    clear hF hW ho
    go_simp
  | 43, _, hF =>
    obtain ⟨pos, af, ho⟩ := sig_at show10 (i := 43) rfl
    have e47 : c.eval (.tmp 47) = .bool true := fact_at (p := eqv (.bool true)) (by kernel_rfl) rfl (hF 39 (by decide))
    have e50 : c.eval (.tmp 50) = .int .i64 1 := fact_at (p := eqv (.int .i64 1)) (by kernel_rfl) rfl (hF 42 (by decide))
    refine does_value ho (want_eq rfl (hF 39 (by decide))) (v := .bool true) ?_ rfl (Below.refl _ _)
    dsimp only [Sig.oper]
    generalize c.eval = ρ at *
    clear hF hW ho
    go_simp
  | 44, _, hF =>
    obtain ⟨pos, af, ho⟩ := sig_at show10 (i := 44) rfl
    have e47 : c.eval (.tmp 47) = .bool true := fact_at (p := eqv (.bool true)) (by kernel_rfl) rfl (hF 39 (by decide))
    have e51 : c.eval (.tmp 51) = .bool true := fact_at (p := eqv (.bool true)) (by kernel_rfl) rfl (hF 43 (by decide))
    refine does_value ho (want_none rfl) (v := .bool true) ?_ rfl (Below.refl _ _)
    dsimp only [Sig.oper]
    generalize c.eval = ρ at *
    clear hF hW ho
    go_simp
  | 45, _, hF =>
    obtain ⟨pos, af, ho⟩ := sig_at show10 (i := 45) rfl
    have e52 : c.eval (.tmp 52) = .bool true := fact_at (p := eqv (.bool true)) (by kernel_rfl) rfl (hF 44 (by decide))
    refine does_value ho (want_none rfl) (v := .bool true) ?_ rfl (Below.refl _ _)
    dsimp only [Sig.oper]
    generalize c.eval = ρ at *
    clear hF hW ho
    go_simp
  | 46, _, hF =>
    obtain ⟨pos, af, ho⟩ := sig_at show10 (i := 46) rfl
    have e53 : c.eval (.tmp 53) = .bool true := fact_at (p := eqv (.bool true)) (by kernel_rfl) rfl (hF 45 (by decide))
    refine does_call ho (want_eq rfl (hF 45 (by decide))) (f := 32) (args := #[.int .i64 7, .int .i64 2]) ?_ (Calls.mono hW.k32 fun e w' ⟨h1, h2⟩ => ⟨_, h1, rfl, h2⟩)
    dsimp only [Sig.oper]
    generalize c.eval = ρ at *
    clear hF hW ho
    go_simp
  | 47, _, hF =>
    obtain ⟨pos, af, ho⟩ := sig_at show10 (i := 47) rfl
    have e53 : c.eval (.tmp 53) = .bool true := fact_at (p := eqv (.bool true)) (by kernel_rfl) rfl (hF 45 (by decide))
    have e54 : c.eval (.tmp 54) = .int .i64 4 := fact_at (p := eqv (.int .i64 4)) (by kernel_rfl) rfl (hF 46 (by decide))
    refine does_value ho (want_eq rfl (hF 45 (by decide))) (v := .bool true) ?_ rfl (Below.refl _ _)
    dsimp only [Sig.oper]
    generalize c.eval = ρ at *
    clear hF hW ho
    go_simp
  | 48, _, hF =>
    obtain ⟨pos, af, ho⟩ := sig_at show10 (i := 48) rfl
    have e53 : c.eval (.tmp 53) = .bool true := fact_at (p := eqv (.bool true)) (by kernel_rfl) rfl (hF 45 (by decide))
    have e55 : c.eval (.tmp 55) = .bool true := fact_at (p := eqv (.bool true)) (by kernel_rfl) rfl (hF 47 (by decide))
    refine does_value ho (want_none rfl) (v := .bool true) ?_ rfl (Below.refl _ _)
    dsimp only [Sig.oper]
    generalize c.eval = ρ at *
    clear hF hW ho
    go_simp
  | 49, _, hF =>
    obtain ⟨pos, af, ho⟩ := sig_at show10 (i := 49) rfl
    have e56 : c.eval (.tmp 56) = .bool true := fact_at (p := eqv (.bool true)) (by kernel_rfl) rfl (hF 48 (by decide))
    refine does_value ho (want_none rfl) (v := .bool true) ?_ rfl (Below.refl _ _)
    dsimp only [Sig.oper]
    generalize c.eval = ρ at *
    clear hF hW ho
    go_simp
  | n + 50, h, _ => exact absurd h (by omega)
end
end Go.Proofs.YthfilnflgahcjaaGreatDoor

namespace Go.Proofs.YthfilnflgahcjaaGreatDoor
open Go.RowKit Go.Shelf Go.Maps
set_option linter.unusedVariables false
set_option linter.unusedSimpArgs false
attribute [local go_sem] Oper.semAt_some
theorem one_ok {x : ByteArray} (h : x.size ≤ 1) : okS x := Nat.le_trans h (by decide)
theorem val19 : labelledI sampleS [⟨#[65]⟩, ⟨#[66]⟩] = 1 := by kernel_rfl
theorem val24 : seekI sampleS ⟨#[65]⟩ ⟨#[107]⟩ = 2 := by kernel_rfl
theorem val26 : fanI sampleS 0 [] = 2 := by kernel_rfl
theorem val28 : fromI sampleS ⟨#[65]⟩ 1 [⟨#[84]⟩] = 1 := by kernel_rfl
theorem val32 : shareI 7 2 = 4 := by kernel_rfl
theorem sampleS_lies {base : Nat} {w : World} {vl vt ve vk : Value} (h : CntL base w vl vt ve vk sampleS) : StatL w.heap.size w vl vt ve vk sampleS := by
  refine ⟨h.l.srow fun _ => rfl, h.t.srow fun _ => rfl, h.e.srow fun _ => rfl, h.k.srow fun _ => rfl, ?_, ?_, ?_, ?_, by decide, by decide, by decide, by decide⟩
  · intro x hx
    simp only [sampleS, List.mem_cons, List.not_mem_nil, or_false] at hx
    rcases hx with rfl | rfl <;> exact one_ok (by decide)
  · intro x hx
    simp only [sampleS, List.mem_cons, List.not_mem_nil, or_false] at hx
    rcases hx with rfl | rfl <;> exact one_ok (by decide)
  · intro x hx
    simp only [sampleS, List.mem_cons, List.not_mem_nil, or_false] at hx
    rcases hx with rfl | rfl | rfl | rfl | rfl <;> exact ⟨one_ok (by decide), one_ok (by decide), w64 (by decide) (by decide)⟩
  · intro x hx
    simp only [sampleS, List.mem_cons, List.not_mem_nil, or_false] at hx
    rcases hx with rfl | rfl <;> exact ⟨one_ok (by decide), one_ok (by decide), w64 (by decide) (by decide), w64 (by decide) (by decide)⟩
theorem stable10 (bx : Nat) (la : Option Addr) (lc : Nat) (ta : Option Addr) (tc : Nat) (eb eo ec : Nat) (ka : Option Addr) (kc : Nat) : ∀ p ∈ facts10 bx la lc ta tc eb eo ec ka kc, Stable p := by
  intro p hp
  have hs : ∀ l : List ByteArray, Stable (fun v W => SRow 1 strE W.heap.size W v l) := fun l v W W' h hb => h.up hb hb.size
  simp only [facts10, List.mem_cons, List.not_mem_nil, or_false] at hp
  repeat (first | (rcases hp with rfl | hp; · first | exact eqv_stable _ | exact hs _) | (subst hp; first | exact eqv_stable _ | exact hs _))
theorem size10 : R10.size = 50 := by kernel_rfl
set_option maxRecDepth 100000 in
set_option maxHeartbeats 8000000 in
theorem works_any (w : World) (hE : Env w) : Calls Tryz.prog 10 #[] w fun e w' => e = .returned (.bool true) ∧ Below w.heap.size w w' := by
  have HE := hidE hE
  have HS := hidE (sample_any w)
  clear hE
  go_enter Tryz.func10, Tryz.ntmps10
  go_wp2_with fail
  refine HS.out.mono ?_
  rintro e w1 ⟨v, rfl, hg, hb1⟩
  have HB1 := hidE hb1
  have HC := hidE (count_sample v w1 (HE.out.below hb1 HE.out.room) hg)
  clear hg hb1 HS
  go_wp2_with fail
  refine HC.out.mono ?_
  rintro e w2 ⟨vl, vt, ve, vk, rfl, hl, hb2⟩
  have HB2 := hidE (Below.on HB1.out hb2)
  have HSL := hidE (sampleS_lies hl)
  obtain ⟨la, lc, rfl⟩ := hl.l.slice
  obtain ⟨ta, tc, rfl⟩ := hl.t.slice
  obtain ⟨ka, kc, rfl⟩ := hl.k.slice
  obtain ⟨ea, ec, rfl, _, _, hrow⟩ := HSL.out.he
  obtain ⟨eb, eo, rfl, hebl, hcel⟩ := hrow.resolve_left (by simp [sampleS])
  have hd : ∀ (j : Nat) (u : Value), (endC (⟨#[84]⟩, ⟨#[65]⟩, true, 2))[j]? = some u → w2.cell? ⟨eb, eo + 1 * 4 + j, none⟩ = some u := hcel 1 _ rfl
  have HD : Hid (eb < w2.heap.size ∧ w2.cell? ⟨eb, eo + 4, none⟩ = some (.string ⟨#[84]⟩) ∧ w2.cell? ⟨eb, eo + 4 + 1, none⟩ = some (.string ⟨#[65]⟩) ∧ w2.cell? ⟨eb, eo + 4 + 2, none⟩ = some (.bool true) ∧ w2.cell? ⟨eb, eo + 4 + 3, none⟩ = some (.int .i64 2)) :=
    ⟨hebl, hd 0 _ rfl, hd 1 _ rfl, hd 2 _ rfl, hd 3 _ rfl⟩
  simp only [statV, sampleS, List.length_cons, List.length_nil] at HSL ⊢
  clear hl hb2 HC hrow hcel hd hebl
  go_upto_region 2 with fail
  obtain ⟨W3, hW3⟩ : ∃ W, w2.alloc (.cells #[.int .i64 3, .int .i64 3, .slice la 2 lc, .slice ta 2 tc, .slice (some ⟨eb, eo, none⟩) 5 ec, .slice ka 2 kc] 33) = W := ⟨_, rfl⟩
  have HR : Hid (Rec W3 w2.heap.size #[.int .i64 3, .int .i64 3, .slice la 2 lc, .slice ta 2 tc, .slice (some ⟨eb, eo, none⟩) 5 ec, .slice ka 2 kc] 33) := by
    show Rec _ _ _ _
    rw [← hW3]; exact rec_new _ _ _
  have HB3 : Hid (Below w2.heap.size w2 W3) := by
    show Below _ _ _
    rw [← hW3]; exact (Below.refl _ _).alloc (Nat.le_refl _) _
  rw [hW3]
  clear hW3
  show (Code.region 2 R10 false).wp _ _ _ _
  refine facts_plain (A := anc10) (F := factsAt (facts10 w2.heap.size la lc ta tc eb eo ec ka kc)) (by kernel_rfl) (fun i v w w' => factsAt_stable (stable10 w2.heap.size la lc ta tc eb eo ec ka kc) i v w w') ?_ ?_
  · intro i hi c W hS hB hF
    have hb2W : Below w2.heap.size w2 W := Below.on HB3.out hB
    have hr := HR.out.below hB HR.out.lt
    obtain ⟨hebl, d0, d1, d2, d3⟩ := HD.out
    have hst : StatL W.heap.size W (.slice la 2 lc) (.slice ta 2 tc) (.slice (some ⟨eb, eo, none⟩) 5 ec) (.slice ka 2 kc) sampleS := StatL.up HSL.out hb2W hb2W.size
    have hcl : ∀ (j : Nat) (u : Value), w2.cell? ⟨eb, j, none⟩ = some u → W.cell? ⟨eb, j, none⟩ = some u := fun j u h => (hb2W.cell (p := ⟨eb, j, none⟩) hebl).trans h
    refine ops10 w2.heap.size la lc ta tc eb eo ec ka kc _ c W ((same_eval hS (by kernel_rfl)).trans rfl) ((same_eval hS (by kernel_rfl)).trans rfl) ⟨hr.cell 0 rfl, hr.cell 1 rfl, hr.cell 2 rfl, hr.cell 3 rfl, hr.cell 4 rfl, hr.cell 5 rfl, hcl _ _ d0, hcl _ _ d1, hcl _ _ d2, hcl _ _ d3, ?_, ?_, ?_, ?_, ?_, ?_⟩ i (by rwa [size10] at hi) hF
    · refine (num_any 0 W).mono ?_
      rintro e w' ⟨rfl, rfl⟩
      exact ⟨rfl, Below.refl _ _⟩
    · intro y hy
      have h := labelled_any sampleS (.slice la 2 lc) (.slice ta 2 tc) (.slice (some ⟨eb, eo, none⟩) 5 ec) (.slice ka 2 kc) y [⟨#[65]⟩, ⟨#[66]⟩] W.heap.size W (Nat.le_refl _) hst hy (fun x hx => by
        simp only [List.mem_cons, List.not_mem_nil, or_false] at hx
        rcases hx with rfl | rfl <;> exact one_ok (by decide)) (by decide)
      rw [val19] at h
      exact h
    · have h := seek_any sampleS (.slice la 2 lc) (.slice ta 2 tc) (.slice (some ⟨eb, eo, none⟩) 5 ec) (.slice ka 2 kc) ⟨#[65]⟩ ⟨#[107]⟩ W.heap.size W (Nat.le_refl _) hst (one_ok (by decide)) (one_ok (by decide))
      rw [val24] at h
      exact h
    · have h := fan_any sampleS (.slice la 2 lc) (.slice ta 2 tc) (.slice (some ⟨eb, eo, none⟩) 5 ec) (.slice ka 2 kc) (.slice none 0 0) 0 [] W.heap.size W (Nat.le_refl _) hst (srow_nil 1 strE _ _) (fun x hx => by simp at hx) (by decide)
      rw [val26] at h
      exact h
    · intro y hy
      have h := from_any sampleS (.slice la 2 lc) (.slice ta 2 tc) (.slice (some ⟨eb, eo, none⟩) 5 ec) (.slice ka 2 kc) y ⟨#[65]⟩ 1 [⟨#[84]⟩] W.heap.size W (Nat.le_refl _) hst hy (one_ok (by decide)) (fun x hx => by
        simp only [List.mem_cons, List.not_mem_nil, or_false] at hx
        subst hx; exact one_ok (by decide)) (by decide)
      rw [val28] at h
      exact h
    · refine (share_any 7 2 W).mono ?_
      rintro e w' ⟨rfl, rfl⟩
      exact ⟨by rw [val32], Below.refl _ _⟩
  · intro c W hS hB hF
    have h0 : c.eval (.tmp 0) = .bool true := fact_at (p := eqv (.bool true)) (by kernel_rfl) rfl (hF 49 (by rw [size10]; omega))
    have HB4 := hidE (Below.on HB2.out (Below.on HB3.out hB))
    clear hB hF
    go_wp2_with fail
    refine bodyPost_ret (results_tmp rfl c.tmps Tryz.prog W) hS.1 ?_
    exact ⟨congrArg Ending.returned h0, HB4.out⟩
end Go.Proofs.YthfilnflgahcjaaGreatDoor

