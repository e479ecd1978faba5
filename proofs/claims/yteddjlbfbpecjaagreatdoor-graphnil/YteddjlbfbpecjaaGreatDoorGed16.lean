/- Statements of AddRel and attach, in whatever order their operations are done. -/
import Derived.Test.YteddjlbfbpecjaaGreatDoorGed15
import Derived.Maps.AppendAt
namespace Go.Proofs.YteddjlbfbpecjaaGreatDoor
open Go.RowKit Go.Shelf Go.WideShapes
set_option linter.unusedVariables false
set_option linter.unusedSimpArgs false
theorem Tryz.info2 : (Tryz.prog.info? 2).map (fun i => (i.zero, i.size, i.bytes)) = some (some (.int .i64 0), 1, 8) := by kernel_rfl
theorem exec_append {P : Program} {w w' : World} {ρ : Operand → Value} {x y : Operand} {t ty : TypeId} {d : Option Tmp} {pos : String} {af : Array Edge} {g : Option (Nat × Bool)} {vx vy v' : Value} (hx : ρ x = vx) (hy : ρ y = vy)
    (h : (Builtin.append_ #[t, t] ty #[vx, vy]).run P w = .ok v' w') :
    (execOp ρ { dst := d, op := Op.call { callee := Callee.builtin Builtin.append, args := #[x, y], argTypes := #[t, t] }, type := ty, pos := pos, after := af, guard := g }).run P w = .ok (.value v') w' := by
  unfold execOp
  simp only [resolve, invoke, builtin, Sem.run_bind, Sem.run_pure, Result.andThen_ok, List.map_toArray, List.map_cons, List.map_nil, hx, hy, h]
noncomputable def RAR9 : Array Oper := regionAt Tryz.f32 9
def ancAR9 (i : Nat) : List Nat := ([[], [0], [1], [2], [3], [], [], [], [], [8], [4, 5, 6, 7, 9], [], [0, 1, 2, 3, 4, 5, 6, 7, 8, 9, 10, 11]] : List (List Nat)).getD i []
def factsAR9 (p : GP) (nr f t : Int) (s : ByteArray) (pv : Value) (B0 : Nat) (K : World → Value → Prop) : List (Value → World → Prop) :=
  [eqv (.pointer (some ⟨p.g, 0, none⟩)), eqv (.pointer (some ⟨p.g, 0, none⟩)), eqv (.pointer (some ⟨p.g, 0, none⟩)), eqv (.pointer (some ⟨p.g, 3, none⟩)), eqv (.int .i64 nr), eqv (.int .i64 f), eqv (.int .i64 t), eqv (.string s), eqv (pv), fun v w => ∃ a n c, v = .slice a n c ∧ KB K w v, fun v w => ∃ a n c, v = .agg #[.int .i64 nr, .int .i64 f, .int .i64 t, .string s, .slice a n c] ∧ KB K w (.slice a n c), fun v w => ∃ X, v = .pointer (some ⟨X, 0, none⟩) ∧ B0 ≤ X ∧ Rec w X #[.int .i64 0, .int .i64 0, .int .i64 0, .string ⟨#[]⟩, .slice none 0 0] 49]
structure BaseAR9 (p : GP) (nr f t : Int) (s : ByteArray) (pv : Value) (B0 : Nat) (K : World → Value → Prop) (c : Act) : Prop where
  t0 : c.eval (.tmp 0) = .pointer (some ⟨p.g, 0, none⟩)
  t1 : c.eval (.tmp 1) = .int .i64 f
  t2 : c.eval (.tmp 2) = .int .i64 t
  t3 : c.eval (.tmp 3) = .string s
  t4 : c.eval (.tmp 4) = pv
structure WorldAR9 (p : GP) (nr f t : Int) (s : ByteArray) (pv : Value) (B0 : Nat) (K : World → Value → Prop) (w : World) : Prop where
  c3 : w.cell? ⟨p.g, 3, none⟩ = some (.int .i64 nr)
  b0 : B0 ≤ w.heap.size
  k6 : Calls Tryz.prog 88 #[pv] w fun e w' => ∃ a n c, e = .returned (.slice a n c) ∧ K w' (.slice a n c) ∧ Below w.heap.size w w'
set_option maxRecDepth 10000 in
theorem oAR9_0 (p : GP) (nr f t : Int) (s : ByteArray) (pv : Value) (B0 : Nat) (K : World → Value → Prop) (Q : Exit → Act → World → Prop) (c : Act) (w : World) (hb : BaseAR9 p nr f t s pv B0 K c) (hW : WorldAR9 p nr f t s pv B0 K w) (hF : ∀ q0 ∈ ancAR9 0, factsAt (factsAR9 p nr f t s pv B0 K) q0 (val RAR9 c q0) w) :
    Does Tryz.prog RAR9 Q (factsAt (factsAR9 p nr f t s pv B0 K)) 0 c w := by
  have ho : RAR9[0]? = some ({ dst := some 45, op := Op.move (Operand.tmp 0), type := 31, pos := "edit.go:44", after := #[], guard := none } : Oper) := by kernel_rfl
  have e0 := hb.t0
  have hw : Region.wanted ({ dst := some 45, op := Op.move (Operand.tmp 0), type := 31, pos := "edit.go:44", after := #[], guard := none } : Oper) (yielded RAR9 c.tmps) = true := want_none rfl
  have ec : ∀ v, c.eval (.const v) = v := fun _ => rfl
  have ef : ∀ f, c.eval (.func f) = .func (.func f) #[] #[] := fun _ => rfl
  refine does_value ho hw (v := .pointer (some ⟨p.g, 0, none⟩)) ?_ rfl (Below.refl _ _)
  generalize c.eval = ρ at *
  clear hF hb hW hw ho
  go_simp
set_option maxRecDepth 10000 in
theorem oAR9_1 (p : GP) (nr f t : Int) (s : ByteArray) (pv : Value) (B0 : Nat) (K : World → Value → Prop) (Q : Exit → Act → World → Prop) (c : Act) (w : World) (hb : BaseAR9 p nr f t s pv B0 K c) (hW : WorldAR9 p nr f t s pv B0 K w) (hF : ∀ q0 ∈ ancAR9 1, factsAt (factsAR9 p nr f t s pv B0 K) q0 (val RAR9 c q0) w) :
    Does Tryz.prog RAR9 Q (factsAt (factsAR9 p nr f t s pv B0 K)) 1 c w := by
  have ho : RAR9[1]? = some ({ dst := some 46, op := Op.nilCheck (Operand.tmp 45), type := 0, pos := "edit.go:44", after := #[{ on := 0, ground := Ground.data }], guard := none } : Oper) := by kernel_rfl
  have e45 : c.eval (.tmp 45) = .pointer (some ⟨p.g, 0, none⟩) := fact_at (p := eqv (.pointer (some ⟨p.g, 0, none⟩))) (by kernel_rfl) rfl (hF 0 (by decide))
  have hw : Region.wanted ({ dst := some 46, op := Op.nilCheck (Operand.tmp 45), type := 0, pos := "edit.go:44", after := #[{ on := 0, ground := Ground.data }], guard := none } : Oper) (yielded RAR9 c.tmps) = true := want_none rfl
  have ec : ∀ v, c.eval (.const v) = v := fun _ => rfl
  have ef : ∀ f, c.eval (.func f) = .func (.func f) #[] #[] := fun _ => rfl
  refine does_value ho hw (v := .pointer (some ⟨p.g, 0, none⟩)) ?_ rfl (Below.refl _ _)
  generalize c.eval = ρ at *
  clear hF hb hW hw ho
  go_simp
set_option maxRecDepth 10000 in
theorem oAR9_2 (p : GP) (nr f t : Int) (s : ByteArray) (pv : Value) (B0 : Nat) (K : World → Value → Prop) (Q : Exit → Act → World → Prop) (c : Act) (w : World) (hb : BaseAR9 p nr f t s pv B0 K c) (hW : WorldAR9 p nr f t s pv B0 K w) (hF : ∀ q0 ∈ ancAR9 2, factsAt (factsAR9 p nr f t s pv B0 K) q0 (val RAR9 c q0) w) :
    Does Tryz.prog RAR9 Q (factsAt (factsAR9 p nr f t s pv B0 K)) 2 c w := by
  have ho : RAR9[2]? = some ({ dst := some 47, op := Op.fieldAddr 74 (Operand.tmp 46) 0, type := 0, pos := "edit.go:44", after := #[{ on := 1, ground := Ground.data }], guard := none } : Oper) := by kernel_rfl
  have e46 : c.eval (.tmp 46) = .pointer (some ⟨p.g, 0, none⟩) := fact_at (p := eqv (.pointer (some ⟨p.g, 0, none⟩))) (by kernel_rfl) rfl (hF 1 (by decide))
  have hw : Region.wanted ({ dst := some 47, op := Op.fieldAddr 74 (Operand.tmp 46) 0, type := 0, pos := "edit.go:44", after := #[{ on := 1, ground := Ground.data }], guard := none } : Oper) (yielded RAR9 c.tmps) = true := want_none rfl
  have ec : ∀ v, c.eval (.const v) = v := fun _ => rfl
  have ef : ∀ f, c.eval (.func f) = .func (.func f) #[] #[] := fun _ => rfl
  refine does_value ho hw (v := .pointer (some ⟨p.g, 0, none⟩)) ?_ rfl (Below.refl _ _)
  generalize c.eval = ρ at *
  clear hF hb hW hw ho
  go_simp
set_option maxRecDepth 10000 in
theorem oAR9_3 (p : GP) (nr f t : Int) (s : ByteArray) (pv : Value) (B0 : Nat) (K : World → Value → Prop) (Q : Exit → Act → World → Prop) (c : Act) (w : World) (hb : BaseAR9 p nr f t s pv B0 K c) (hW : WorldAR9 p nr f t s pv B0 K w) (hF : ∀ q0 ∈ ancAR9 3, factsAt (factsAR9 p nr f t s pv B0 K) q0 (val RAR9 c q0) w) :
    Does Tryz.prog RAR9 Q (factsAt (factsAR9 p nr f t s pv B0 K)) 3 c w := by
  have ho : RAR9[3]? = some ({ dst := some 48, op := Op.fieldAddr 71 (Operand.tmp 47) 3, type := 0, pos := "edit.go:44", after := #[{ on := 2, ground := Ground.data }], guard := none } : Oper) := by kernel_rfl
  have e47 : c.eval (.tmp 47) = .pointer (some ⟨p.g, 0, none⟩) := fact_at (p := eqv (.pointer (some ⟨p.g, 0, none⟩))) (by kernel_rfl) rfl (hF 2 (by decide))
  have hw : Region.wanted ({ dst := some 48, op := Op.fieldAddr 71 (Operand.tmp 47) 3, type := 0, pos := "edit.go:44", after := #[{ on := 2, ground := Ground.data }], guard := none } : Oper) (yielded RAR9 c.tmps) = true := want_none rfl
  have ec : ∀ v, c.eval (.const v) = v := fun _ => rfl
  have ef : ∀ f, c.eval (.func f) = .func (.func f) #[] #[] := fun _ => rfl
  refine does_value ho hw (v := .pointer (some ⟨p.g, 3, none⟩)) ?_ rfl (Below.refl _ _)
  generalize c.eval = ρ at *
  clear hF hb hW hw ho
  go_simp
set_option maxRecDepth 10000 in
theorem oAR9_4 (p : GP) (nr f t : Int) (s : ByteArray) (pv : Value) (B0 : Nat) (K : World → Value → Prop) (Q : Exit → Act → World → Prop) (c : Act) (w : World) (hb : BaseAR9 p nr f t s pv B0 K c) (hW : WorldAR9 p nr f t s pv B0 K w) (hF : ∀ q0 ∈ ancAR9 4, factsAt (factsAR9 p nr f t s pv B0 K) q0 (val RAR9 c q0) w) :
    Does Tryz.prog RAR9 Q (factsAt (factsAR9 p nr f t s pv B0 K)) 4 c w := by
  have ho : RAR9[4]? = some ({ dst := some 49, op := Op.load 2 (Operand.tmp 48), type := 2, pos := "edit.go:44", after := #[{ on := 3, ground := Ground.data }], guard := none } : Oper) := by kernel_rfl
  have e48 : c.eval (.tmp 48) = .pointer (some ⟨p.g, 3, none⟩) := fact_at (p := eqv (.pointer (some ⟨p.g, 3, none⟩))) (by kernel_rfl) rfl (hF 3 (by decide))
  have hw : Region.wanted ({ dst := some 49, op := Op.load 2 (Operand.tmp 48), type := 2, pos := "edit.go:44", after := #[{ on := 3, ground := Ground.data }], guard := none } : Oper) (yielded RAR9 c.tmps) = true := want_none rfl
  have ec : ∀ v, c.eval (.const v) = v := fun _ => rfl
  have ef : ∀ f, c.eval (.func f) = .func (.func f) #[] #[] := fun _ => rfl
  have c3 := hW.c3
  refine does_value ho hw (v := .int .i64 nr) ?_ rfl (Below.refl _ _)
  generalize c.eval = ρ at *
  clear hF hb hW hw ho
  go_simp
set_option maxRecDepth 10000 in
theorem oAR9_5 (p : GP) (nr f t : Int) (s : ByteArray) (pv : Value) (B0 : Nat) (K : World → Value → Prop) (Q : Exit → Act → World → Prop) (c : Act) (w : World) (hb : BaseAR9 p nr f t s pv B0 K c) (hW : WorldAR9 p nr f t s pv B0 K w) (hF : ∀ q0 ∈ ancAR9 5, factsAt (factsAR9 p nr f t s pv B0 K) q0 (val RAR9 c q0) w) :
    Does Tryz.prog RAR9 Q (factsAt (factsAR9 p nr f t s pv B0 K)) 5 c w := by
  have ho : RAR9[5]? = some ({ dst := some 50, op := Op.move (Operand.tmp 1), type := 2, pos := "edit.go:44", after := #[], guard := none } : Oper) := by kernel_rfl
  have e1 := hb.t1
  have hw : Region.wanted ({ dst := some 50, op := Op.move (Operand.tmp 1), type := 2, pos := "edit.go:44", after := #[], guard := none } : Oper) (yielded RAR9 c.tmps) = true := want_none rfl
  have ec : ∀ v, c.eval (.const v) = v := fun _ => rfl
  have ef : ∀ f, c.eval (.func f) = .func (.func f) #[] #[] := fun _ => rfl
  refine does_value ho hw (v := .int .i64 f) ?_ rfl (Below.refl _ _)
  generalize c.eval = ρ at *
  clear hF hb hW hw ho
  go_simp
set_option maxRecDepth 10000 in
theorem oAR9_6 (p : GP) (nr f t : Int) (s : ByteArray) (pv : Value) (B0 : Nat) (K : World → Value → Prop) (Q : Exit → Act → World → Prop) (c : Act) (w : World) (hb : BaseAR9 p nr f t s pv B0 K c) (hW : WorldAR9 p nr f t s pv B0 K w) (hF : ∀ q0 ∈ ancAR9 6, factsAt (factsAR9 p nr f t s pv B0 K) q0 (val RAR9 c q0) w) :
    Does Tryz.prog RAR9 Q (factsAt (factsAR9 p nr f t s pv B0 K)) 6 c w := by
  have ho : RAR9[6]? = some ({ dst := some 51, op := Op.move (Operand.tmp 2), type := 2, pos := "edit.go:44", after := #[], guard := none } : Oper) := by kernel_rfl
  have e2 := hb.t2
  have hw : Region.wanted ({ dst := some 51, op := Op.move (Operand.tmp 2), type := 2, pos := "edit.go:44", after := #[], guard := none } : Oper) (yielded RAR9 c.tmps) = true := want_none rfl
  have ec : ∀ v, c.eval (.const v) = v := fun _ => rfl
  have ef : ∀ f, c.eval (.func f) = .func (.func f) #[] #[] := fun _ => rfl
  refine does_value ho hw (v := .int .i64 t) ?_ rfl (Below.refl _ _)
  generalize c.eval = ρ at *
  clear hF hb hW hw ho
  go_simp
set_option maxRecDepth 10000 in
theorem oAR9_7 (p : GP) (nr f t : Int) (s : ByteArray) (pv : Value) (B0 : Nat) (K : World → Value → Prop) (Q : Exit → Act → World → Prop) (c : Act) (w : World) (hb : BaseAR9 p nr f t s pv B0 K c) (hW : WorldAR9 p nr f t s pv B0 K w) (hF : ∀ q0 ∈ ancAR9 7, factsAt (factsAR9 p nr f t s pv B0 K) q0 (val RAR9 c q0) w) :
    Does Tryz.prog RAR9 Q (factsAt (factsAR9 p nr f t s pv B0 K)) 7 c w := by
  have ho : RAR9[7]? = some ({ dst := some 52, op := Op.move (Operand.tmp 3), type := 9, pos := "edit.go:44", after := #[], guard := none } : Oper) := by kernel_rfl
  have e3 := hb.t3
  have hw : Region.wanted ({ dst := some 52, op := Op.move (Operand.tmp 3), type := 9, pos := "edit.go:44", after := #[], guard := none } : Oper) (yielded RAR9 c.tmps) = true := want_none rfl
  have ec : ∀ v, c.eval (.const v) = v := fun _ => rfl
  have ef : ∀ f, c.eval (.func f) = .func (.func f) #[] #[] := fun _ => rfl
  refine does_value ho hw (v := .string s) ?_ rfl (Below.refl _ _)
  generalize c.eval = ρ at *
  clear hF hb hW hw ho
  go_simp
set_option maxRecDepth 10000 in
theorem oAR9_8 (p : GP) (nr f t : Int) (s : ByteArray) (pv : Value) (B0 : Nat) (K : World → Value → Prop) (Q : Exit → Act → World → Prop) (c : Act) (w : World) (hb : BaseAR9 p nr f t s pv B0 K c) (hW : WorldAR9 p nr f t s pv B0 K w) (hF : ∀ q0 ∈ ancAR9 8, factsAt (factsAR9 p nr f t s pv B0 K) q0 (val RAR9 c q0) w) :
    Does Tryz.prog RAR9 Q (factsAt (factsAR9 p nr f t s pv B0 K)) 8 c w := by
  have ho : RAR9[8]? = some ({ dst := some 53, op := Op.move (Operand.tmp 4), type := 45, pos := "edit.go:44", after := #[], guard := none } : Oper) := by kernel_rfl
  have e4 := hb.t4
  have hw : Region.wanted ({ dst := some 53, op := Op.move (Operand.tmp 4), type := 45, pos := "edit.go:44", after := #[], guard := none } : Oper) (yielded RAR9 c.tmps) = true := want_none rfl
  have ec : ∀ v, c.eval (.const v) = v := fun _ => rfl
  have ef : ∀ f, c.eval (.func f) = .func (.func f) #[] #[] := fun _ => rfl
  refine does_value ho hw (v := pv) ?_ rfl (Below.refl _ _)
  generalize c.eval = ρ at *
  clear hF hb hW hw ho
  go_simp
set_option maxRecDepth 10000 in
theorem oAR9_9 (p : GP) (nr f t : Int) (s : ByteArray) (pv : Value) (B0 : Nat) (K : World → Value → Prop) (Q : Exit → Act → World → Prop) (c : Act) (w : World) (hb : BaseAR9 p nr f t s pv B0 K c) (hW : WorldAR9 p nr f t s pv B0 K w) (hF : ∀ q0 ∈ ancAR9 9, factsAt (factsAR9 p nr f t s pv B0 K) q0 (val RAR9 c q0) w) :
    Does Tryz.prog RAR9 Q (factsAt (factsAR9 p nr f t s pv B0 K)) 9 c w := by
  have ho : RAR9[9]? = some ({ dst := some 54, op := Op.call { callee := Callee.value (Operand.func 88), args := #[Operand.tmp 53], argTypes := #[45] }, type := 45, pos := "edit.go:44", after := #[{ on := 8, ground := Ground.data }], guard := none } : Oper) := by kernel_rfl
  have e53 : c.eval (.tmp 53) = pv := fact_at (p := eqv (pv)) (by kernel_rfl) rfl (hF 8 (by decide))
  have hw : Region.wanted ({ dst := some 54, op := Op.call { callee := Callee.value (Operand.func 88), args := #[Operand.tmp 53], argTypes := #[45] }, type := 45, pos := "edit.go:44", after := #[{ on := 8, ground := Ground.data }], guard := none } : Oper) (yielded RAR9 c.tmps) = true := want_none rfl
  have ec : ∀ v, c.eval (.const v) = v := fun _ => rfl
  have ef : ∀ f, c.eval (.func f) = .func (.func f) #[] #[] := fun _ => rfl
  refine does_call ho hw (f := 88) (args := #[pv]) ?_ (hW.k6.mono fun e w' ⟨a, n, c, h1, h2, h3⟩ => ⟨_, h1, ⟨a, n, c, rfl, w', h2, Below.refl _ _⟩, h3⟩)
  generalize c.eval = ρ at *
  clear hF hb hW hw ho
  go_simp
set_option maxRecDepth 10000 in
theorem oAR9_10 (p : GP) (nr f t : Int) (s : ByteArray) (pv : Value) (B0 : Nat) (K : World → Value → Prop) (Q : Exit → Act → World → Prop) (c : Act) (w : World) (hb : BaseAR9 p nr f t s pv B0 K c) (hW : WorldAR9 p nr f t s pv B0 K w) (hF : ∀ q0 ∈ ancAR9 10, factsAt (factsAR9 p nr f t s pv B0 K) q0 (val RAR9 c q0) w) :
    Does Tryz.prog RAR9 Q (factsAt (factsAR9 p nr f t s pv B0 K)) 10 c w := by
  have ho : RAR9[10]? = some ({ dst := some 55, op := Op.build 49 #[(0, Operand.tmp 49), (1, Operand.tmp 50), (2, Operand.tmp 51), (3, Operand.tmp 52), (4, Operand.tmp 54)], type := 49, pos := "edit.go:44", after := #[{ on := 4, ground := Ground.data }, { on := 5, ground := Ground.data }, { on := 6, ground := Ground.data }, { on := 7, ground := Ground.data }, { on := 9, ground := Ground.data }], guard := none } : Oper) := by kernel_rfl
  have e49 : c.eval (.tmp 49) = .int .i64 nr := fact_at (p := eqv (.int .i64 nr)) (by kernel_rfl) rfl (hF 4 (by decide))
  have e50 : c.eval (.tmp 50) = .int .i64 f := fact_at (p := eqv (.int .i64 f)) (by kernel_rfl) rfl (hF 5 (by decide))
  have e51 : c.eval (.tmp 51) = .int .i64 t := fact_at (p := eqv (.int .i64 t)) (by kernel_rfl) rfl (hF 6 (by decide))
  have e52 : c.eval (.tmp 52) = .string s := fact_at (p := eqv (.string s)) (by kernel_rfl) rfl (hF 7 (by decide))
  have f54 : (fun v w => ∃ a n c, v = .slice a n c ∧ KB K w v) (c.eval (.tmp 54)) w := fact_at (by kernel_rfl) rfl (hF 9 (by decide))
  have hw : Region.wanted ({ dst := some 55, op := Op.build 49 #[(0, Operand.tmp 49), (1, Operand.tmp 50), (2, Operand.tmp 51), (3, Operand.tmp 52), (4, Operand.tmp 54)], type := 49, pos := "edit.go:44", after := #[{ on := 4, ground := Ground.data }, { on := 5, ground := Ground.data }, { on := 6, ground := Ground.data }, { on := 7, ground := Ground.data }, { on := 9, ground := Ground.data }], guard := none } : Oper) (yielded RAR9 c.tmps) = true := want_none rfl
  have ec : ∀ v, c.eval (.const v) = v := fun _ => rfl
  have ef : ∀ f, c.eval (.func f) = .func (.func f) #[] #[] := fun _ => rfl
  obtain ⟨a, n, cc, e54, hk⟩ := f54
  rw [e54] at hk
  refine does_value ho hw (v := .agg #[.int .i64 nr, .int .i64 f, .int .i64 t, .string s, .slice a n cc]) ?_ ⟨a, n, cc, rfl, hk⟩ (Below.refl _ _)
  generalize c.eval = ρ at *
  clear hF hb hW hw ho
  go_simp
set_option maxRecDepth 10000 in
theorem oAR9_11 (p : GP) (nr f t : Int) (s : ByteArray) (pv : Value) (B0 : Nat) (K : World → Value → Prop) (Q : Exit → Act → World → Prop) (c : Act) (w : World) (hb : BaseAR9 p nr f t s pv B0 K c) (hW : WorldAR9 p nr f t s pv B0 K w) (hF : ∀ q0 ∈ ancAR9 11, factsAt (factsAR9 p nr f t s pv B0 K) q0 (val RAR9 c q0) w) :
    Does Tryz.prog RAR9 Q (factsAt (factsAR9 p nr f t s pv B0 K)) 11 c w := by
  have ho : RAR9[11]? = some ({ dst := some 12, op := Op.alloc 49, type := 0, pos := "edit.go:44", after := #[], guard := none } : Oper) := by kernel_rfl
  have hw : Region.wanted ({ dst := some 12, op := Op.alloc 49, type := 0, pos := "edit.go:44", after := #[], guard := none } : Oper) (yielded RAR9 c.tmps) = true := want_none rfl
  have ec : ∀ v, c.eval (.const v) = v := fun _ => rfl
  have ef : ∀ f, c.eval (.func f) = .func (.func f) #[] #[] := fun _ => rfl
  refine does_value ho hw (v := .pointer (some ⟨w.heap.size, 0, none⟩)) (w' := w.alloc (.cells #[.int .i64 0, .int .i64 0, .int .i64 0, .string ⟨#[]⟩, .slice none 0 0] 49)) ?_ ⟨w.heap.size, rfl, hW.b0, rec_new _ _ _⟩ ((Below.refl _ _).alloc (Nat.le_refl _) _)
  generalize c.eval = ρ at *
  clear hF hb hW hw ho
  go_simp
theorem stableAR9 (p : GP) (nr f t : Int) (s : ByteArray) (pv : Value) (B0 : Nat) (K : World → Value → Prop) : ∀ pr ∈ factsAR9 p nr f t s pv B0 K, Stable pr := by
  unfold factsAR9
  refine List.forall_mem_cons.2 ⟨eqv_stable _, ?_⟩
  refine List.forall_mem_cons.2 ⟨eqv_stable _, ?_⟩
  refine List.forall_mem_cons.2 ⟨eqv_stable _, ?_⟩
  refine List.forall_mem_cons.2 ⟨eqv_stable _, ?_⟩
  refine List.forall_mem_cons.2 ⟨eqv_stable _, ?_⟩
  refine List.forall_mem_cons.2 ⟨eqv_stable _, ?_⟩
  refine List.forall_mem_cons.2 ⟨eqv_stable _, ?_⟩
  refine List.forall_mem_cons.2 ⟨eqv_stable _, ?_⟩
  refine List.forall_mem_cons.2 ⟨eqv_stable _, ?_⟩
  refine List.forall_mem_cons.2 ⟨fun v w w' ⟨a, n, c, h, hk⟩ hb => ⟨a, n, c, h, hk.grow hb⟩, ?_⟩
  refine List.forall_mem_cons.2 ⟨fun v w w' ⟨a, n, c, h, hk⟩ hb => ⟨a, n, c, h, hk.grow hb⟩, ?_⟩
  refine List.forall_mem_cons.2 ⟨fun v w w' ⟨X, h, hX, hr⟩ hb => ⟨X, h, hX, hr.below hb hr.lt⟩, ?_⟩
  exact List.forall_mem_nil _
set_option maxRecDepth 100000 in
theorem allAR9 (p : GP) (nr f t : Int) (s : ByteArray) (pv : Value) (B0 : Nat) (K : World → Value → Prop) (Q : Exit → Act → World → Prop) : ∀ i, i < 12 → (fun i => ∀ c w, BaseAR9 p nr f t s pv B0 K c → WorldAR9 p nr f t s pv B0 K w → (∀ q0 ∈ ancAR9 i, factsAt (factsAR9 p nr f t s pv B0 K) q0 (val RAR9 c q0) w) → Does Tryz.prog RAR9 Q (factsAt (factsAR9 p nr f t s pv B0 K)) i c w) i := by
  refine below_succ ?_ (fun c w => oAR9_11 p nr f t s pv B0 K Q c w)
  refine below_succ ?_ (fun c w => oAR9_10 p nr f t s pv B0 K Q c w)
  refine below_succ ?_ (fun c w => oAR9_9 p nr f t s pv B0 K Q c w)
  refine below_succ ?_ (fun c w => oAR9_8 p nr f t s pv B0 K Q c w)
  refine below_succ ?_ (fun c w => oAR9_7 p nr f t s pv B0 K Q c w)
  refine below_succ ?_ (fun c w => oAR9_6 p nr f t s pv B0 K Q c w)
  refine below_succ ?_ (fun c w => oAR9_5 p nr f t s pv B0 K Q c w)
  refine below_succ ?_ (fun c w => oAR9_4 p nr f t s pv B0 K Q c w)
  refine below_succ ?_ (fun c w => oAR9_3 p nr f t s pv B0 K Q c w)
  refine below_succ ?_ (fun c w => oAR9_2 p nr f t s pv B0 K Q c w)
  refine below_succ ?_ (fun c w => oAR9_1 p nr f t s pv B0 K Q c w)
  refine below_succ ?_ (fun c w => oAR9_0 p nr f t s pv B0 K Q c w)
  exact below_zero
theorem regionAR9 (p : GP) (nr f t : Int) (s : ByteArray) (pv : Value) (B0 : Nat) (K : World → Value → Prop) (Q : Exit → Act → World → Prop) (base : Act) (w0 : World) (hsz : base.tmps.size = 78) (hb : BaseAR9 p nr f t s pv B0 K base)
    (hW : ∀ w, Below w0.heap.size w0 w → WorldAR9 p nr f t s pv B0 K w) (hL : ∀ c w, Same RAR9 base c → Below w0.heap.size w0 w → (fun v w => ∃ a n c, v = .agg #[.int .i64 nr, .int .i64 f, .int .i64 t, .string s, .slice a n c] ∧ KB K w (.slice a n c)) (c.eval (.tmp 55)) w → (fun v w => ∃ X, v = .pointer (some ⟨X, 0, none⟩) ∧ B0 ≤ X ∧ Rec w X #[.int .i64 0, .int .i64 0, .int .i64 0, .string ⟨#[]⟩, .slice none 0 0] 49) (c.eval (.tmp 12)) w → ∃ w', (execOp c.eval ({ dst := none, op := Op.store 49 (Operand.tmp 12) (Operand.tmp 55), type := 0, pos := "edit.go:44", after := #[{ on := 11, ground := Ground.data }, { on := 10, ground := Ground.data }, { on := 9, ground := Ground.chain }, { on := 0, ground := Ground.phase }, { on := 1, ground := Ground.phase }, { on := 2, ground := Ground.phase }, { on := 3, ground := Ground.phase }, { on := 4, ground := Ground.phase }, { on := 5, ground := Ground.phase }, { on := 6, ground := Ground.phase }, { on := 7, ground := Ground.phase }, { on := 8, ground := Ground.phase }, { on := 9, ground := Ground.phase }, { on := 10, ground := Ground.phase }, { on := 11, ground := Ground.phase }], guard := none } : Oper)).run Tryz.prog w = .ok .skip w' ∧ Q .normal c w') : (Code.region 9 RAR9 true).wp Tryz.prog Q base w0 := by
  have hall : (List.range 12).all (fun i => (slotOf RAR9 i).isSome) = true := by kernel_rfl
  refine facts_last (A := ancAR9) (F := factsAt (factsAR9 p nr f t s pv B0 K)) 12 (by kernel_rfl) (by kernel_rfl) (by kernel_rfl) (by rw [hsz]; kernel_rfl) ?_ (by decide) (fun i v w w' => factsAt_stable (stableAR9 p nr f t s pv B0 K) i v w w') ?_ ?_
  · exact fun i hi => Option.isSome_iff_exists.1 (List.all_eq_true.1 hall i (List.mem_range.2 hi))
  · intro i hi c w hS hB hF
    exact allAR9 p nr f t s pv B0 K Q i hi c w ⟨(same_eval hS (by kernel_rfl)).trans hb.t0, (same_eval hS (by kernel_rfl)).trans hb.t1, (same_eval hS (by kernel_rfl)).trans hb.t2, (same_eval hS (by kernel_rfl)).trans hb.t3, (same_eval hS (by kernel_rfl)).trans hb.t4⟩ (hW w hB) hF
  · intro c w hS hB hF
    obtain ⟨w', h1, h2⟩ := hL c w hS hB (fact_at (p := fun v w => ∃ a n c, v = .agg #[.int .i64 nr, .int .i64 f, .int .i64 t, .string s, .slice a n c] ∧ KB K w (.slice a n c)) (by kernel_rfl) rfl (hF 10 (by omega))) (fact_at (p := fun v w => ∃ X, v = .pointer (some ⟨X, 0, none⟩) ∧ B0 ≤ X ∧ Rec w X #[.int .i64 0, .int .i64 0, .int .i64 0, .string ⟨#[]⟩, .slice none 0 0] 49) (by kernel_rfl) rfl (hF 11 (by omega)))
    exact last_skip (by kernel_rfl) (want_none rfl) h1 h2
noncomputable def RAR10 : Array Oper := regionAt Tryz.f32 10
def ancAR10 (i : Nat) : List Nat := ([[], [0], [1], [2], [3], [], [5], [], [0, 1, 2, 3, 4, 5, 6, 7]] : List (List Nat)).getD i []
def factsAR10 (p : GP) (nr f t : Int) (s : ByteArray) (X : Nat) (pa : Option Addr) (pn pc : Nat) : List (Value → World → Prop) :=
  [eqv (.pointer (some ⟨p.g, 0, none⟩)), eqv (.pointer (some ⟨p.g, 0, none⟩)), eqv (.pointer (some ⟨p.g, 0, none⟩)), eqv (.pointer (some ⟨p.g, 1, none⟩)), eqv (.map (some p.r)), eqv (.pointer (some ⟨X, 0, none⟩)), eqv (.int .i64 nr), eqv (.agg #[.int .i64 nr, .int .i64 f, .int .i64 t, .string s, .slice pa pn pc])]
structure BaseAR10 (p : GP) (nr f t : Int) (s : ByteArray) (X : Nat) (pa : Option Addr) (pn pc : Nat) (c : Act) : Prop where
  t0 : c.eval (.tmp 0) = .pointer (some ⟨p.g, 0, none⟩)
  t12 : c.eval (.tmp 12) = .pointer (some ⟨X, 0, none⟩)
structure WorldAR10 (p : GP) (nr f t : Int) (s : ByteArray) (X : Nat) (pa : Option Addr) (pn pc : Nat) (w : World) : Prop where
  c1 : w.cell? ⟨p.g, 1, none⟩ = some (.map (some p.r))
  x0 : w.cell? ⟨X, 0, none⟩ = some (.int .i64 nr)
  x1 : w.cell? ⟨X, 1, none⟩ = some (.int .i64 f)
  x2 : w.cell? ⟨X, 2, none⟩ = some (.int .i64 t)
  x3 : w.cell? ⟨X, 3, none⟩ = some (.string s)
  x4 : w.cell? ⟨X, 4, none⟩ = some (.slice pa pn pc)
set_option maxRecDepth 10000 in
theorem oAR10_0 (p : GP) (nr f t : Int) (s : ByteArray) (X : Nat) (pa : Option Addr) (pn pc : Nat) (Q : Exit → Act → World → Prop) (c : Act) (w : World) (hb : BaseAR10 p nr f t s X pa pn pc c) (hW : WorldAR10 p nr f t s X pa pn pc w) (hF : ∀ q0 ∈ ancAR10 0, factsAt (factsAR10 p nr f t s X pa pn pc) q0 (val RAR10 c q0) w) :
    Does Tryz.prog RAR10 Q (factsAt (factsAR10 p nr f t s X pa pn pc)) 0 c w := by
  have ho : RAR10[0]? = some ({ dst := some 56, op := Op.move (Operand.tmp 0), type := 31, pos := "edit.go:45", after := #[], guard := none } : Oper) := by kernel_rfl
  have e0 := hb.t0
  have hw : Region.wanted ({ dst := some 56, op := Op.move (Operand.tmp 0), type := 31, pos := "edit.go:45", after := #[], guard := none } : Oper) (yielded RAR10 c.tmps) = true := want_none rfl
  have ec : ∀ v, c.eval (.const v) = v := fun _ => rfl
  have ef : ∀ f, c.eval (.func f) = .func (.func f) #[] #[] := fun _ => rfl
  refine does_value ho hw (v := .pointer (some ⟨p.g, 0, none⟩)) ?_ rfl (Below.refl _ _)
  generalize c.eval = ρ at *
  clear hF hb hW hw ho
  go_simp
set_option maxRecDepth 10000 in
theorem oAR10_1 (p : GP) (nr f t : Int) (s : ByteArray) (X : Nat) (pa : Option Addr) (pn pc : Nat) (Q : Exit → Act → World → Prop) (c : Act) (w : World) (hb : BaseAR10 p nr f t s X pa pn pc c) (hW : WorldAR10 p nr f t s X pa pn pc w) (hF : ∀ q0 ∈ ancAR10 1, factsAt (factsAR10 p nr f t s X pa pn pc) q0 (val RAR10 c q0) w) :
    Does Tryz.prog RAR10 Q (factsAt (factsAR10 p nr f t s X pa pn pc)) 1 c w := by
  have ho : RAR10[1]? = some ({ dst := some 57, op := Op.nilCheck (Operand.tmp 56), type := 0, pos := "edit.go:45", after := #[{ on := 0, ground := Ground.data }], guard := none } : Oper) := by kernel_rfl
  have e56 : c.eval (.tmp 56) = .pointer (some ⟨p.g, 0, none⟩) := fact_at (p := eqv (.pointer (some ⟨p.g, 0, none⟩))) (by kernel_rfl) rfl (hF 0 (by decide))
  have hw : Region.wanted ({ dst := some 57, op := Op.nilCheck (Operand.tmp 56), type := 0, pos := "edit.go:45", after := #[{ on := 0, ground := Ground.data }], guard := none } : Oper) (yielded RAR10 c.tmps) = true := want_none rfl
  have ec : ∀ v, c.eval (.const v) = v := fun _ => rfl
  have ef : ∀ f, c.eval (.func f) = .func (.func f) #[] #[] := fun _ => rfl
  refine does_value ho hw (v := .pointer (some ⟨p.g, 0, none⟩)) ?_ rfl (Below.refl _ _)
  generalize c.eval = ρ at *
  clear hF hb hW hw ho
  go_simp
set_option maxRecDepth 10000 in
theorem oAR10_2 (p : GP) (nr f t : Int) (s : ByteArray) (X : Nat) (pa : Option Addr) (pn pc : Nat) (Q : Exit → Act → World → Prop) (c : Act) (w : World) (hb : BaseAR10 p nr f t s X pa pn pc c) (hW : WorldAR10 p nr f t s X pa pn pc w) (hF : ∀ q0 ∈ ancAR10 2, factsAt (factsAR10 p nr f t s X pa pn pc) q0 (val RAR10 c q0) w) :
    Does Tryz.prog RAR10 Q (factsAt (factsAR10 p nr f t s X pa pn pc)) 2 c w := by
  have ho : RAR10[2]? = some ({ dst := some 58, op := Op.fieldAddr 74 (Operand.tmp 57) 0, type := 0, pos := "edit.go:45", after := #[{ on := 1, ground := Ground.data }], guard := none } : Oper) := by kernel_rfl
  have e57 : c.eval (.tmp 57) = .pointer (some ⟨p.g, 0, none⟩) := fact_at (p := eqv (.pointer (some ⟨p.g, 0, none⟩))) (by kernel_rfl) rfl (hF 1 (by decide))
  have hw : Region.wanted ({ dst := some 58, op := Op.fieldAddr 74 (Operand.tmp 57) 0, type := 0, pos := "edit.go:45", after := #[{ on := 1, ground := Ground.data }], guard := none } : Oper) (yielded RAR10 c.tmps) = true := want_none rfl
  have ec : ∀ v, c.eval (.const v) = v := fun _ => rfl
  have ef : ∀ f, c.eval (.func f) = .func (.func f) #[] #[] := fun _ => rfl
  refine does_value ho hw (v := .pointer (some ⟨p.g, 0, none⟩)) ?_ rfl (Below.refl _ _)
  generalize c.eval = ρ at *
  clear hF hb hW hw ho
  go_simp
set_option maxRecDepth 10000 in
theorem oAR10_3 (p : GP) (nr f t : Int) (s : ByteArray) (X : Nat) (pa : Option Addr) (pn pc : Nat) (Q : Exit → Act → World → Prop) (c : Act) (w : World) (hb : BaseAR10 p nr f t s X pa pn pc c) (hW : WorldAR10 p nr f t s X pa pn pc w) (hF : ∀ q0 ∈ ancAR10 3, factsAt (factsAR10 p nr f t s X pa pn pc) q0 (val RAR10 c q0) w) :
    Does Tryz.prog RAR10 Q (factsAt (factsAR10 p nr f t s X pa pn pc)) 3 c w := by
  have ho : RAR10[3]? = some ({ dst := some 59, op := Op.fieldAddr 71 (Operand.tmp 58) 1, type := 0, pos := "edit.go:45", after := #[{ on := 2, ground := Ground.data }], guard := none } : Oper) := by kernel_rfl
  have e58 : c.eval (.tmp 58) = .pointer (some ⟨p.g, 0, none⟩) := fact_at (p := eqv (.pointer (some ⟨p.g, 0, none⟩))) (by kernel_rfl) rfl (hF 2 (by decide))
  have hw : Region.wanted ({ dst := some 59, op := Op.fieldAddr 71 (Operand.tmp 58) 1, type := 0, pos := "edit.go:45", after := #[{ on := 2, ground := Ground.data }], guard := none } : Oper) (yielded RAR10 c.tmps) = true := want_none rfl
  have ec : ∀ v, c.eval (.const v) = v := fun _ => rfl
  have ef : ∀ f, c.eval (.func f) = .func (.func f) #[] #[] := fun _ => rfl
  refine does_value ho hw (v := .pointer (some ⟨p.g, 1, none⟩)) ?_ rfl (Below.refl _ _)
  generalize c.eval = ρ at *
  clear hF hb hW hw ho
  go_simp
set_option maxRecDepth 10000 in
theorem oAR10_4 (p : GP) (nr f t : Int) (s : ByteArray) (X : Nat) (pa : Option Addr) (pn pc : Nat) (Q : Exit → Act → World → Prop) (c : Act) (w : World) (hb : BaseAR10 p nr f t s X pa pn pc c) (hW : WorldAR10 p nr f t s X pa pn pc w) (hF : ∀ q0 ∈ ancAR10 4, factsAt (factsAR10 p nr f t s X pa pn pc) q0 (val RAR10 c q0) w) :
    Does Tryz.prog RAR10 Q (factsAt (factsAR10 p nr f t s X pa pn pc)) 4 c w := by
  have ho : RAR10[4]? = some ({ dst := some 60, op := Op.load 69 (Operand.tmp 59), type := 69, pos := "edit.go:45", after := #[{ on := 3, ground := Ground.data }], guard := none } : Oper) := by kernel_rfl
  have e59 : c.eval (.tmp 59) = .pointer (some ⟨p.g, 1, none⟩) := fact_at (p := eqv (.pointer (some ⟨p.g, 1, none⟩))) (by kernel_rfl) rfl (hF 3 (by decide))
  have hw : Region.wanted ({ dst := some 60, op := Op.load 69 (Operand.tmp 59), type := 69, pos := "edit.go:45", after := #[{ on := 3, ground := Ground.data }], guard := none } : Oper) (yielded RAR10 c.tmps) = true := want_none rfl
  have ec : ∀ v, c.eval (.const v) = v := fun _ => rfl
  have ef : ∀ f, c.eval (.func f) = .func (.func f) #[] #[] := fun _ => rfl
  have c1 := hW.c1
  refine does_value ho hw (v := .map (some p.r)) ?_ rfl (Below.refl _ _)
  generalize c.eval = ρ at *
  clear hF hb hW hw ho
  go_simp
set_option maxRecDepth 10000 in
theorem oAR10_5 (p : GP) (nr f t : Int) (s : ByteArray) (X : Nat) (pa : Option Addr) (pn pc : Nat) (Q : Exit → Act → World → Prop) (c : Act) (w : World) (hb : BaseAR10 p nr f t s X pa pn pc c) (hW : WorldAR10 p nr f t s X pa pn pc w) (hF : ∀ q0 ∈ ancAR10 5, factsAt (factsAR10 p nr f t s X pa pn pc) q0 (val RAR10 c q0) w) :
    Does Tryz.prog RAR10 Q (factsAt (factsAR10 p nr f t s X pa pn pc)) 5 c w := by
  have ho : RAR10[5]? = some ({ dst := some 61, op := Op.fieldAddr 49 (Operand.tmp 12) 0, type := 0, pos := "edit.go:45", after := #[], guard := none } : Oper) := by kernel_rfl
  have e12 := hb.t12
  have hw : Region.wanted ({ dst := some 61, op := Op.fieldAddr 49 (Operand.tmp 12) 0, type := 0, pos := "edit.go:45", after := #[], guard := none } : Oper) (yielded RAR10 c.tmps) = true := want_none rfl
  have ec : ∀ v, c.eval (.const v) = v := fun _ => rfl
  have ef : ∀ f, c.eval (.func f) = .func (.func f) #[] #[] := fun _ => rfl
  refine does_value ho hw (v := .pointer (some ⟨X, 0, none⟩)) ?_ rfl (Below.refl _ _)
  generalize c.eval = ρ at *
  clear hF hb hW hw ho
  go_simp
set_option maxRecDepth 10000 in
theorem oAR10_6 (p : GP) (nr f t : Int) (s : ByteArray) (X : Nat) (pa : Option Addr) (pn pc : Nat) (Q : Exit → Act → World → Prop) (c : Act) (w : World) (hb : BaseAR10 p nr f t s X pa pn pc c) (hW : WorldAR10 p nr f t s X pa pn pc w) (hF : ∀ q0 ∈ ancAR10 6, factsAt (factsAR10 p nr f t s X pa pn pc) q0 (val RAR10 c q0) w) :
    Does Tryz.prog RAR10 Q (factsAt (factsAR10 p nr f t s X pa pn pc)) 6 c w := by
  have ho : RAR10[6]? = some ({ dst := some 62, op := Op.load 2 (Operand.tmp 61), type := 2, pos := "edit.go:45", after := #[{ on := 5, ground := Ground.data }], guard := none } : Oper) := by kernel_rfl
  have e61 : c.eval (.tmp 61) = .pointer (some ⟨X, 0, none⟩) := fact_at (p := eqv (.pointer (some ⟨X, 0, none⟩))) (by kernel_rfl) rfl (hF 5 (by decide))
  have hw : Region.wanted ({ dst := some 62, op := Op.load 2 (Operand.tmp 61), type := 2, pos := "edit.go:45", after := #[{ on := 5, ground := Ground.data }], guard := none } : Oper) (yielded RAR10 c.tmps) = true := want_none rfl
  have ec : ∀ v, c.eval (.const v) = v := fun _ => rfl
  have ef : ∀ f, c.eval (.func f) = .func (.func f) #[] #[] := fun _ => rfl
  have x0 := hW.x0
  refine does_value ho hw (v := .int .i64 nr) ?_ rfl (Below.refl _ _)
  generalize c.eval = ρ at *
  clear hF hb hW hw ho
  go_simp
set_option maxRecDepth 10000 in
theorem oAR10_7 (p : GP) (nr f t : Int) (s : ByteArray) (X : Nat) (pa : Option Addr) (pn pc : Nat) (Q : Exit → Act → World → Prop) (c : Act) (w : World) (hb : BaseAR10 p nr f t s X pa pn pc c) (hW : WorldAR10 p nr f t s X pa pn pc w) (hF : ∀ q0 ∈ ancAR10 7, factsAt (factsAR10 p nr f t s X pa pn pc) q0 (val RAR10 c q0) w) :
    Does Tryz.prog RAR10 Q (factsAt (factsAR10 p nr f t s X pa pn pc)) 7 c w := by
  have ho : RAR10[7]? = some ({ dst := some 63, op := Op.load 49 (Operand.tmp 12), type := 49, pos := "edit.go:45", after := #[], guard := none } : Oper) := by kernel_rfl
  have e12 := hb.t12
  have hw : Region.wanted ({ dst := some 63, op := Op.load 49 (Operand.tmp 12), type := 49, pos := "edit.go:45", after := #[], guard := none } : Oper) (yielded RAR10 c.tmps) = true := want_none rfl
  have ec : ∀ v, c.eval (.const v) = v := fun _ => rfl
  have ef : ∀ f, c.eval (.func f) = .func (.func f) #[] #[] := fun _ => rfl
  have x0 := hW.x0
  have x1 := hW.x1
  have x2 := hW.x2
  have x3 := hW.x3
  have x4 := hW.x4
  refine does_value ho hw (v := .agg #[.int .i64 nr, .int .i64 f, .int .i64 t, .string s, .slice pa pn pc]) ?_ rfl (Below.refl _ _)
  generalize c.eval = ρ at *
  clear hF hb hW hw ho
  go_simp
theorem stableAR10 (p : GP) (nr f t : Int) (s : ByteArray) (X : Nat) (pa : Option Addr) (pn pc : Nat) : ∀ pr ∈ factsAR10 p nr f t s X pa pn pc, Stable pr := by
  unfold factsAR10
  refine List.forall_mem_cons.2 ⟨eqv_stable _, ?_⟩
  refine List.forall_mem_cons.2 ⟨eqv_stable _, ?_⟩
  refine List.forall_mem_cons.2 ⟨eqv_stable _, ?_⟩
  refine List.forall_mem_cons.2 ⟨eqv_stable _, ?_⟩
  refine List.forall_mem_cons.2 ⟨eqv_stable _, ?_⟩
  refine List.forall_mem_cons.2 ⟨eqv_stable _, ?_⟩
  refine List.forall_mem_cons.2 ⟨eqv_stable _, ?_⟩
  refine List.forall_mem_cons.2 ⟨eqv_stable _, ?_⟩
  exact List.forall_mem_nil _
set_option maxRecDepth 100000 in
theorem allAR10 (p : GP) (nr f t : Int) (s : ByteArray) (X : Nat) (pa : Option Addr) (pn pc : Nat) (Q : Exit → Act → World → Prop) : ∀ i, i < 8 → (fun i => ∀ c w, BaseAR10 p nr f t s X pa pn pc c → WorldAR10 p nr f t s X pa pn pc w → (∀ q0 ∈ ancAR10 i, factsAt (factsAR10 p nr f t s X pa pn pc) q0 (val RAR10 c q0) w) → Does Tryz.prog RAR10 Q (factsAt (factsAR10 p nr f t s X pa pn pc)) i c w) i := by
  refine below_succ ?_ (fun c w => oAR10_7 p nr f t s X pa pn pc Q c w)
  refine below_succ ?_ (fun c w => oAR10_6 p nr f t s X pa pn pc Q c w)
  refine below_succ ?_ (fun c w => oAR10_5 p nr f t s X pa pn pc Q c w)
  refine below_succ ?_ (fun c w => oAR10_4 p nr f t s X pa pn pc Q c w)
  refine below_succ ?_ (fun c w => oAR10_3 p nr f t s X pa pn pc Q c w)
  refine below_succ ?_ (fun c w => oAR10_2 p nr f t s X pa pn pc Q c w)
  refine below_succ ?_ (fun c w => oAR10_1 p nr f t s X pa pn pc Q c w)
  refine below_succ ?_ (fun c w => oAR10_0 p nr f t s X pa pn pc Q c w)
  exact below_zero
theorem regionAR10 (p : GP) (nr f t : Int) (s : ByteArray) (X : Nat) (pa : Option Addr) (pn pc : Nat) (Q : Exit → Act → World → Prop) (base : Act) (w0 : World) (hsz : base.tmps.size = 78) (hb : BaseAR10 p nr f t s X pa pn pc base)
    (hW : ∀ w, Below w0.heap.size w0 w → WorldAR10 p nr f t s X pa pn pc w) (hL : ∀ c w, Same RAR10 base c → Below w0.heap.size w0 w → c.eval (.tmp 60) = .map (some p.r) → c.eval (.tmp 62) = .int .i64 nr → c.eval (.tmp 63) = .agg #[.int .i64 nr, .int .i64 f, .int .i64 t, .string s, .slice pa pn pc] → ∃ w', (execOp c.eval ({ dst := none, op := Op.mapUpdate 69 (Operand.tmp 60) (Operand.tmp 62) (Operand.tmp 63), type := 0, pos := "edit.go:45", after := #[{ on := 4, ground := Ground.data }, { on := 6, ground := Ground.data }, { on := 7, ground := Ground.data }, { on := 0, ground := Ground.phase }, { on := 1, ground := Ground.phase }, { on := 2, ground := Ground.phase }, { on := 3, ground := Ground.phase }, { on := 4, ground := Ground.phase }, { on := 5, ground := Ground.phase }, { on := 6, ground := Ground.phase }, { on := 7, ground := Ground.phase }], guard := none } : Oper)).run Tryz.prog w = .ok .skip w' ∧ Q .normal c w') : (Code.region 10 RAR10 true).wp Tryz.prog Q base w0 := by
  have hall : (List.range 8).all (fun i => (slotOf RAR10 i).isSome) = true := by kernel_rfl
  refine facts_last (A := ancAR10) (F := factsAt (factsAR10 p nr f t s X pa pn pc)) 8 (by kernel_rfl) (by kernel_rfl) (by kernel_rfl) (by rw [hsz]; kernel_rfl) ?_ (by decide) (fun i v w w' => factsAt_stable (stableAR10 p nr f t s X pa pn pc) i v w w') ?_ ?_
  · exact fun i hi => Option.isSome_iff_exists.1 (List.all_eq_true.1 hall i (List.mem_range.2 hi))
  · intro i hi c w hS hB hF
    exact allAR10 p nr f t s X pa pn pc Q i hi c w ⟨(same_eval hS (by kernel_rfl)).trans hb.t0, (same_eval hS (by kernel_rfl)).trans hb.t12⟩ (hW w hB) hF
  · intro c w hS hB hF
    obtain ⟨w', h1, h2⟩ := hL c w hS hB (fact_at (p := eqv (.map (some p.r))) (by kernel_rfl) rfl (hF 4 (by omega))) (fact_at (p := eqv (.int .i64 nr)) (by kernel_rfl) rfl (hF 6 (by omega))) (fact_at (p := eqv (.agg #[.int .i64 nr, .int .i64 f, .int .i64 t, .string s, .slice pa pn pc])) (by kernel_rfl) rfl (hF 7 (by omega)))
    exact last_skip (by kernel_rfl) (want_none rfl) h1 h2
noncomputable def RAT1 : Array Oper := regionAt Tryz.f40 1
def ancAT1 (i : Nat) : List Nat := ([[], [0], [1], [2], [], [4], [], [6], [7], [8], [], [10], [9, 11], [], [13], [14], [12, 15], [0, 1, 2, 3, 4, 5, 6, 7, 8, 9, 10, 11, 12, 13, 14, 15, 16]] : List (List Nat)).getD i []
def factsAT1 (p : GP) (id k : Int) (X B0 : Nat) : List (Value → World → Prop) :=
  [eqv (.pointer (some ⟨p.g, 0, none⟩)), eqv (.pointer (some ⟨p.g, 0, none⟩)), eqv (.pointer (some ⟨p.g, 4, none⟩)), eqv (.map (some p.f)), eqv (.pointer (some ⟨X, 1, none⟩)), eqv (.int .i64 k), eqv (.pointer (some ⟨p.g, 0, none⟩)), eqv (.pointer (some ⟨p.g, 0, none⟩)), eqv (.pointer (some ⟨p.g, 4, none⟩)), eqv (.map (some p.f)), eqv (.pointer (some ⟨X, 1, none⟩)), eqv (.int .i64 k), eqv (.slice none 0 0), eqv (.pointer (some ⟨X, 0, none⟩)), eqv (.int .i64 id), laid [id], fun v w => w.ownsRow B0 2 1 v 1 [.int .i64 id] ∧ ∃ a c, v = .slice a 1 c]
structure BaseAT1 (p : GP) (id k : Int) (X B0 : Nat) (c : Act) : Prop where
  t0 : c.eval (.tmp 0) = .pointer (some ⟨p.g, 0, none⟩)
  t3 : c.eval (.tmp 3) = .pointer (some ⟨X, 0, none⟩)
structure WorldAT1 (p : GP) (id k : Int) (X B0 : Nat) (w : World) : Prop where
  cm : w.cell? ⟨p.g, 4, none⟩ = some (.map (some p.f))
  xk : w.cell? ⟨X, 1, none⟩ = some (.int .i64 k)
  xi : w.cell? ⟨X, 0, none⟩ = some (.int .i64 id)
  lk : (Instr.lookup 72 (.map (some p.f)) (.int .i64 k) false).run Tryz.prog w = .ok (.slice none 0 0) w
  b0 : B0 ≤ w.heap.size
set_option maxRecDepth 10000 in
theorem oAT1_0 (p : GP) (id k : Int) (X B0 : Nat) (Q : Exit → Act → World → Prop) (c : Act) (w : World) (hb : BaseAT1 p id k X B0 c) (hW : WorldAT1 p id k X B0 w) (hF : ∀ q0 ∈ ancAT1 0, factsAt (factsAT1 p id k X B0) q0 (val RAT1 c q0) w) :
    Does Tryz.prog RAT1 Q (factsAt (factsAT1 p id k X B0)) 0 c w := by
  have ho : RAT1[0]? = some ({ dst := some 4, op := Op.move (Operand.tmp 0), type := 31, pos := "edit.go:126", after := #[], guard := none } : Oper) := by kernel_rfl
  have e0 := hb.t0
  have hw : Region.wanted ({ dst := some 4, op := Op.move (Operand.tmp 0), type := 31, pos := "edit.go:126", after := #[], guard := none } : Oper) (yielded RAT1 c.tmps) = true := want_none rfl
  have ec : ∀ v, c.eval (.const v) = v := fun _ => rfl
  have ef : ∀ f, c.eval (.func f) = .func (.func f) #[] #[] := fun _ => rfl
  refine does_value ho hw (v := .pointer (some ⟨p.g, 0, none⟩)) ?_ rfl (Below.refl _ _)
  generalize c.eval = ρ at *
  clear hF hb hW hw ho
  go_simp
set_option maxRecDepth 10000 in
theorem oAT1_1 (p : GP) (id k : Int) (X B0 : Nat) (Q : Exit → Act → World → Prop) (c : Act) (w : World) (hb : BaseAT1 p id k X B0 c) (hW : WorldAT1 p id k X B0 w) (hF : ∀ q0 ∈ ancAT1 1, factsAt (factsAT1 p id k X B0) q0 (val RAT1 c q0) w) :
    Does Tryz.prog RAT1 Q (factsAt (factsAT1 p id k X B0)) 1 c w := by
  have ho : RAT1[1]? = some ({ dst := some 5, op := Op.nilCheck (Operand.tmp 4), type := 0, pos := "edit.go:126", after := #[{ on := 0, ground := Ground.data }], guard := none } : Oper) := by kernel_rfl
  have e4 : c.eval (.tmp 4) = .pointer (some ⟨p.g, 0, none⟩) := fact_at (p := eqv (.pointer (some ⟨p.g, 0, none⟩))) (by kernel_rfl) rfl (hF 0 (by decide))
  have hw : Region.wanted ({ dst := some 5, op := Op.nilCheck (Operand.tmp 4), type := 0, pos := "edit.go:126", after := #[{ on := 0, ground := Ground.data }], guard := none } : Oper) (yielded RAT1 c.tmps) = true := want_none rfl
  have ec : ∀ v, c.eval (.const v) = v := fun _ => rfl
  have ef : ∀ f, c.eval (.func f) = .func (.func f) #[] #[] := fun _ => rfl
  refine does_value ho hw (v := .pointer (some ⟨p.g, 0, none⟩)) ?_ rfl (Below.refl _ _)
  generalize c.eval = ρ at *
  clear hF hb hW hw ho
  go_simp
set_option maxRecDepth 10000 in
theorem oAT1_2 (p : GP) (id k : Int) (X B0 : Nat) (Q : Exit → Act → World → Prop) (c : Act) (w : World) (hb : BaseAT1 p id k X B0 c) (hW : WorldAT1 p id k X B0 w) (hF : ∀ q0 ∈ ancAT1 2, factsAt (factsAT1 p id k X B0) q0 (val RAT1 c q0) w) :
    Does Tryz.prog RAT1 Q (factsAt (factsAT1 p id k X B0)) 2 c w := by
  have ho : RAT1[2]? = some ({ dst := some 6, op := Op.fieldAddr 74 (Operand.tmp 5) 1, type := 0, pos := "edit.go:126", after := #[{ on := 1, ground := Ground.data }], guard := none } : Oper) := by kernel_rfl
  have e5 : c.eval (.tmp 5) = .pointer (some ⟨p.g, 0, none⟩) := fact_at (p := eqv (.pointer (some ⟨p.g, 0, none⟩))) (by kernel_rfl) rfl (hF 1 (by decide))
  have hw : Region.wanted ({ dst := some 6, op := Op.fieldAddr 74 (Operand.tmp 5) 1, type := 0, pos := "edit.go:126", after := #[{ on := 1, ground := Ground.data }], guard := none } : Oper) (yielded RAT1 c.tmps) = true := want_none rfl
  have ec : ∀ v, c.eval (.const v) = v := fun _ => rfl
  have ef : ∀ f, c.eval (.func f) = .func (.func f) #[] #[] := fun _ => rfl
  refine does_value ho hw (v := .pointer (some ⟨p.g, 4, none⟩)) ?_ rfl (Below.refl _ _)
  generalize c.eval = ρ at *
  clear hF hb hW hw ho
  go_simp
set_option maxRecDepth 10000 in
theorem oAT1_3 (p : GP) (id k : Int) (X B0 : Nat) (Q : Exit → Act → World → Prop) (c : Act) (w : World) (hb : BaseAT1 p id k X B0 c) (hW : WorldAT1 p id k X B0 w) (hF : ∀ q0 ∈ ancAT1 3, factsAt (factsAT1 p id k X B0) q0 (val RAT1 c q0) w) :
    Does Tryz.prog RAT1 Q (factsAt (factsAT1 p id k X B0)) 3 c w := by
  have ho : RAT1[3]? = some ({ dst := some 7, op := Op.load 72 (Operand.tmp 6), type := 72, pos := "edit.go:126", after := #[{ on := 2, ground := Ground.data }], guard := none } : Oper) := by kernel_rfl
  have e6 : c.eval (.tmp 6) = .pointer (some ⟨p.g, 4, none⟩) := fact_at (p := eqv (.pointer (some ⟨p.g, 4, none⟩))) (by kernel_rfl) rfl (hF 2 (by decide))
  have hw : Region.wanted ({ dst := some 7, op := Op.load 72 (Operand.tmp 6), type := 72, pos := "edit.go:126", after := #[{ on := 2, ground := Ground.data }], guard := none } : Oper) (yielded RAT1 c.tmps) = true := want_none rfl
  have ec : ∀ v, c.eval (.const v) = v := fun _ => rfl
  have ef : ∀ f, c.eval (.func f) = .func (.func f) #[] #[] := fun _ => rfl
  have cm := hW.cm
  refine does_value ho hw (v := .map (some p.f)) ?_ rfl (Below.refl _ _)
  generalize c.eval = ρ at *
  clear hF hb hW hw ho
  go_simp
set_option maxRecDepth 10000 in
theorem oAT1_4 (p : GP) (id k : Int) (X B0 : Nat) (Q : Exit → Act → World → Prop) (c : Act) (w : World) (hb : BaseAT1 p id k X B0 c) (hW : WorldAT1 p id k X B0 w) (hF : ∀ q0 ∈ ancAT1 4, factsAt (factsAT1 p id k X B0) q0 (val RAT1 c q0) w) :
    Does Tryz.prog RAT1 Q (factsAt (factsAT1 p id k X B0)) 4 c w := by
  have ho : RAT1[4]? = some ({ dst := some 8, op := Op.fieldAddr 49 (Operand.tmp 3) 1, type := 0, pos := "edit.go:126", after := #[], guard := none } : Oper) := by kernel_rfl
  have e3 := hb.t3
  have hw : Region.wanted ({ dst := some 8, op := Op.fieldAddr 49 (Operand.tmp 3) 1, type := 0, pos := "edit.go:126", after := #[], guard := none } : Oper) (yielded RAT1 c.tmps) = true := want_none rfl
  have ec : ∀ v, c.eval (.const v) = v := fun _ => rfl
  have ef : ∀ f, c.eval (.func f) = .func (.func f) #[] #[] := fun _ => rfl
  refine does_value ho hw (v := .pointer (some ⟨X, 1, none⟩)) ?_ rfl (Below.refl _ _)
  generalize c.eval = ρ at *
  clear hF hb hW hw ho
  go_simp
set_option maxRecDepth 10000 in
theorem oAT1_5 (p : GP) (id k : Int) (X B0 : Nat) (Q : Exit → Act → World → Prop) (c : Act) (w : World) (hb : BaseAT1 p id k X B0 c) (hW : WorldAT1 p id k X B0 w) (hF : ∀ q0 ∈ ancAT1 5, factsAt (factsAT1 p id k X B0) q0 (val RAT1 c q0) w) :
    Does Tryz.prog RAT1 Q (factsAt (factsAT1 p id k X B0)) 5 c w := by
  have ho : RAT1[5]? = some ({ dst := some 9, op := Op.load 2 (Operand.tmp 8), type := 2, pos := "edit.go:126", after := #[{ on := 4, ground := Ground.data }], guard := none } : Oper) := by kernel_rfl
  have e8 : c.eval (.tmp 8) = .pointer (some ⟨X, 1, none⟩) := fact_at (p := eqv (.pointer (some ⟨X, 1, none⟩))) (by kernel_rfl) rfl (hF 4 (by decide))
  have hw : Region.wanted ({ dst := some 9, op := Op.load 2 (Operand.tmp 8), type := 2, pos := "edit.go:126", after := #[{ on := 4, ground := Ground.data }], guard := none } : Oper) (yielded RAT1 c.tmps) = true := want_none rfl
  have ec : ∀ v, c.eval (.const v) = v := fun _ => rfl
  have ef : ∀ f, c.eval (.func f) = .func (.func f) #[] #[] := fun _ => rfl
  have xk := hW.xk
  refine does_value ho hw (v := .int .i64 k) ?_ rfl (Below.refl _ _)
  generalize c.eval = ρ at *
  clear hF hb hW hw ho
  go_simp
set_option maxRecDepth 10000 in
theorem oAT1_6 (p : GP) (id k : Int) (X B0 : Nat) (Q : Exit → Act → World → Prop) (c : Act) (w : World) (hb : BaseAT1 p id k X B0 c) (hW : WorldAT1 p id k X B0 w) (hF : ∀ q0 ∈ ancAT1 6, factsAt (factsAT1 p id k X B0) q0 (val RAT1 c q0) w) :
    Does Tryz.prog RAT1 Q (factsAt (factsAT1 p id k X B0)) 6 c w := by
  have ho : RAT1[6]? = some ({ dst := some 10, op := Op.move (Operand.tmp 0), type := 31, pos := "edit.go:126", after := #[], guard := none } : Oper) := by kernel_rfl
  have e0 := hb.t0
  have hw : Region.wanted ({ dst := some 10, op := Op.move (Operand.tmp 0), type := 31, pos := "edit.go:126", after := #[], guard := none } : Oper) (yielded RAT1 c.tmps) = true := want_none rfl
  have ec : ∀ v, c.eval (.const v) = v := fun _ => rfl
  have ef : ∀ f, c.eval (.func f) = .func (.func f) #[] #[] := fun _ => rfl
  refine does_value ho hw (v := .pointer (some ⟨p.g, 0, none⟩)) ?_ rfl (Below.refl _ _)
  generalize c.eval = ρ at *
  clear hF hb hW hw ho
  go_simp
set_option maxRecDepth 10000 in
theorem oAT1_7 (p : GP) (id k : Int) (X B0 : Nat) (Q : Exit → Act → World → Prop) (c : Act) (w : World) (hb : BaseAT1 p id k X B0 c) (hW : WorldAT1 p id k X B0 w) (hF : ∀ q0 ∈ ancAT1 7, factsAt (factsAT1 p id k X B0) q0 (val RAT1 c q0) w) :
    Does Tryz.prog RAT1 Q (factsAt (factsAT1 p id k X B0)) 7 c w := by
  have ho : RAT1[7]? = some ({ dst := some 11, op := Op.nilCheck (Operand.tmp 10), type := 0, pos := "edit.go:126", after := #[{ on := 6, ground := Ground.data }], guard := none } : Oper) := by kernel_rfl
  have e10 : c.eval (.tmp 10) = .pointer (some ⟨p.g, 0, none⟩) := fact_at (p := eqv (.pointer (some ⟨p.g, 0, none⟩))) (by kernel_rfl) rfl (hF 6 (by decide))
  have hw : Region.wanted ({ dst := some 11, op := Op.nilCheck (Operand.tmp 10), type := 0, pos := "edit.go:126", after := #[{ on := 6, ground := Ground.data }], guard := none } : Oper) (yielded RAT1 c.tmps) = true := want_none rfl
  have ec : ∀ v, c.eval (.const v) = v := fun _ => rfl
  have ef : ∀ f, c.eval (.func f) = .func (.func f) #[] #[] := fun _ => rfl
  refine does_value ho hw (v := .pointer (some ⟨p.g, 0, none⟩)) ?_ rfl (Below.refl _ _)
  generalize c.eval = ρ at *
  clear hF hb hW hw ho
  go_simp
set_option maxRecDepth 10000 in
theorem oAT1_8 (p : GP) (id k : Int) (X B0 : Nat) (Q : Exit → Act → World → Prop) (c : Act) (w : World) (hb : BaseAT1 p id k X B0 c) (hW : WorldAT1 p id k X B0 w) (hF : ∀ q0 ∈ ancAT1 8, factsAt (factsAT1 p id k X B0) q0 (val RAT1 c q0) w) :
    Does Tryz.prog RAT1 Q (factsAt (factsAT1 p id k X B0)) 8 c w := by
  have ho : RAT1[8]? = some ({ dst := some 12, op := Op.fieldAddr 74 (Operand.tmp 11) 1, type := 0, pos := "edit.go:126", after := #[{ on := 7, ground := Ground.data }], guard := none } : Oper) := by kernel_rfl
  have e11 : c.eval (.tmp 11) = .pointer (some ⟨p.g, 0, none⟩) := fact_at (p := eqv (.pointer (some ⟨p.g, 0, none⟩))) (by kernel_rfl) rfl (hF 7 (by decide))
  have hw : Region.wanted ({ dst := some 12, op := Op.fieldAddr 74 (Operand.tmp 11) 1, type := 0, pos := "edit.go:126", after := #[{ on := 7, ground := Ground.data }], guard := none } : Oper) (yielded RAT1 c.tmps) = true := want_none rfl
  have ec : ∀ v, c.eval (.const v) = v := fun _ => rfl
  have ef : ∀ f, c.eval (.func f) = .func (.func f) #[] #[] := fun _ => rfl
  refine does_value ho hw (v := .pointer (some ⟨p.g, 4, none⟩)) ?_ rfl (Below.refl _ _)
  generalize c.eval = ρ at *
  clear hF hb hW hw ho
  go_simp
set_option maxRecDepth 10000 in
theorem oAT1_9 (p : GP) (id k : Int) (X B0 : Nat) (Q : Exit → Act → World → Prop) (c : Act) (w : World) (hb : BaseAT1 p id k X B0 c) (hW : WorldAT1 p id k X B0 w) (hF : ∀ q0 ∈ ancAT1 9, factsAt (factsAT1 p id k X B0) q0 (val RAT1 c q0) w) :
    Does Tryz.prog RAT1 Q (factsAt (factsAT1 p id k X B0)) 9 c w := by
  have ho : RAT1[9]? = some ({ dst := some 13, op := Op.load 72 (Operand.tmp 12), type := 72, pos := "edit.go:126", after := #[{ on := 8, ground := Ground.data }], guard := none } : Oper) := by kernel_rfl
  have e12 : c.eval (.tmp 12) = .pointer (some ⟨p.g, 4, none⟩) := fact_at (p := eqv (.pointer (some ⟨p.g, 4, none⟩))) (by kernel_rfl) rfl (hF 8 (by decide))
  have hw : Region.wanted ({ dst := some 13, op := Op.load 72 (Operand.tmp 12), type := 72, pos := "edit.go:126", after := #[{ on := 8, ground := Ground.data }], guard := none } : Oper) (yielded RAT1 c.tmps) = true := want_none rfl
  have ec : ∀ v, c.eval (.const v) = v := fun _ => rfl
  have ef : ∀ f, c.eval (.func f) = .func (.func f) #[] #[] := fun _ => rfl
  have cm := hW.cm
  refine does_value ho hw (v := .map (some p.f)) ?_ rfl (Below.refl _ _)
  generalize c.eval = ρ at *
  clear hF hb hW hw ho
  go_simp
set_option maxRecDepth 10000 in
theorem oAT1_10 (p : GP) (id k : Int) (X B0 : Nat) (Q : Exit → Act → World → Prop) (c : Act) (w : World) (hb : BaseAT1 p id k X B0 c) (hW : WorldAT1 p id k X B0 w) (hF : ∀ q0 ∈ ancAT1 10, factsAt (factsAT1 p id k X B0) q0 (val RAT1 c q0) w) :
    Does Tryz.prog RAT1 Q (factsAt (factsAT1 p id k X B0)) 10 c w := by
  have ho : RAT1[10]? = some ({ dst := some 14, op := Op.fieldAddr 49 (Operand.tmp 3) 1, type := 0, pos := "edit.go:126", after := #[], guard := none } : Oper) := by kernel_rfl
  have e3 := hb.t3
  have hw : Region.wanted ({ dst := some 14, op := Op.fieldAddr 49 (Operand.tmp 3) 1, type := 0, pos := "edit.go:126", after := #[], guard := none } : Oper) (yielded RAT1 c.tmps) = true := want_none rfl
  have ec : ∀ v, c.eval (.const v) = v := fun _ => rfl
  have ef : ∀ f, c.eval (.func f) = .func (.func f) #[] #[] := fun _ => rfl
  refine does_value ho hw (v := .pointer (some ⟨X, 1, none⟩)) ?_ rfl (Below.refl _ _)
  generalize c.eval = ρ at *
  clear hF hb hW hw ho
  go_simp
set_option maxRecDepth 10000 in
theorem oAT1_11 (p : GP) (id k : Int) (X B0 : Nat) (Q : Exit → Act → World → Prop) (c : Act) (w : World) (hb : BaseAT1 p id k X B0 c) (hW : WorldAT1 p id k X B0 w) (hF : ∀ q0 ∈ ancAT1 11, factsAt (factsAT1 p id k X B0) q0 (val RAT1 c q0) w) :
    Does Tryz.prog RAT1 Q (factsAt (factsAT1 p id k X B0)) 11 c w := by
  have ho : RAT1[11]? = some ({ dst := some 15, op := Op.load 2 (Operand.tmp 14), type := 2, pos := "edit.go:126", after := #[{ on := 10, ground := Ground.data }], guard := none } : Oper) := by kernel_rfl
  have e14 : c.eval (.tmp 14) = .pointer (some ⟨X, 1, none⟩) := fact_at (p := eqv (.pointer (some ⟨X, 1, none⟩))) (by kernel_rfl) rfl (hF 10 (by decide))
  have hw : Region.wanted ({ dst := some 15, op := Op.load 2 (Operand.tmp 14), type := 2, pos := "edit.go:126", after := #[{ on := 10, ground := Ground.data }], guard := none } : Oper) (yielded RAT1 c.tmps) = true := want_none rfl
  have ec : ∀ v, c.eval (.const v) = v := fun _ => rfl
  have ef : ∀ f, c.eval (.func f) = .func (.func f) #[] #[] := fun _ => rfl
  have xk := hW.xk
  refine does_value ho hw (v := .int .i64 k) ?_ rfl (Below.refl _ _)
  generalize c.eval = ρ at *
  clear hF hb hW hw ho
  go_simp
set_option maxRecDepth 10000 in
theorem oAT1_12 (p : GP) (id k : Int) (X B0 : Nat) (Q : Exit → Act → World → Prop) (c : Act) (w : World) (hb : BaseAT1 p id k X B0 c) (hW : WorldAT1 p id k X B0 w) (hF : ∀ q0 ∈ ancAT1 12, factsAt (factsAT1 p id k X B0) q0 (val RAT1 c q0) w) :
    Does Tryz.prog RAT1 Q (factsAt (factsAT1 p id k X B0)) 12 c w := by
  have ho : RAT1[12]? = some ({ dst := some 16, op := Op.lookup 72 (Operand.tmp 13) (Operand.tmp 15) false, type := 100, pos := "edit.go:126", after := #[{ on := 9, ground := Ground.data }, { on := 11, ground := Ground.data }], guard := none } : Oper) := by kernel_rfl
  have e13 : c.eval (.tmp 13) = .map (some p.f) := fact_at (p := eqv (.map (some p.f))) (by kernel_rfl) rfl (hF 9 (by decide))
  have e15 : c.eval (.tmp 15) = .int .i64 k := fact_at (p := eqv (.int .i64 k)) (by kernel_rfl) rfl (hF 11 (by decide))
  have hw : Region.wanted ({ dst := some 16, op := Op.lookup 72 (Operand.tmp 13) (Operand.tmp 15) false, type := 100, pos := "edit.go:126", after := #[{ on := 9, ground := Ground.data }, { on := 11, ground := Ground.data }], guard := none } : Oper) (yielded RAT1 c.tmps) = true := want_none rfl
  have ec : ∀ v, c.eval (.const v) = v := fun _ => rfl
  have ef : ∀ f, c.eval (.func f) = .func (.func f) #[] #[] := fun _ => rfl
  have lk := hW.lk
  refine does_value ho hw (v := .slice none 0 0) ?_ rfl (Below.refl _ _)
  generalize c.eval = ρ at *
  clear hF hb hW hw ho
  go_simp
set_option maxRecDepth 10000 in
theorem oAT1_13 (p : GP) (id k : Int) (X B0 : Nat) (Q : Exit → Act → World → Prop) (c : Act) (w : World) (hb : BaseAT1 p id k X B0 c) (hW : WorldAT1 p id k X B0 w) (hF : ∀ q0 ∈ ancAT1 13, factsAt (factsAT1 p id k X B0) q0 (val RAT1 c q0) w) :
    Does Tryz.prog RAT1 Q (factsAt (factsAT1 p id k X B0)) 13 c w := by
  have ho : RAT1[13]? = some ({ dst := some 17, op := Op.fieldAddr 49 (Operand.tmp 3) 0, type := 0, pos := "edit.go:126", after := #[], guard := none } : Oper) := by kernel_rfl
  have e3 := hb.t3
  have hw : Region.wanted ({ dst := some 17, op := Op.fieldAddr 49 (Operand.tmp 3) 0, type := 0, pos := "edit.go:126", after := #[], guard := none } : Oper) (yielded RAT1 c.tmps) = true := want_none rfl
  have ec : ∀ v, c.eval (.const v) = v := fun _ => rfl
  have ef : ∀ f, c.eval (.func f) = .func (.func f) #[] #[] := fun _ => rfl
  refine does_value ho hw (v := .pointer (some ⟨X, 0, none⟩)) ?_ rfl (Below.refl _ _)
  generalize c.eval = ρ at *
  clear hF hb hW hw ho
  go_simp
set_option maxRecDepth 10000 in
theorem oAT1_14 (p : GP) (id k : Int) (X B0 : Nat) (Q : Exit → Act → World → Prop) (c : Act) (w : World) (hb : BaseAT1 p id k X B0 c) (hW : WorldAT1 p id k X B0 w) (hF : ∀ q0 ∈ ancAT1 14, factsAt (factsAT1 p id k X B0) q0 (val RAT1 c q0) w) :
    Does Tryz.prog RAT1 Q (factsAt (factsAT1 p id k X B0)) 14 c w := by
  have ho : RAT1[14]? = some ({ dst := some 18, op := Op.load 2 (Operand.tmp 17), type := 2, pos := "edit.go:126", after := #[{ on := 13, ground := Ground.data }], guard := none } : Oper) := by kernel_rfl
  have e17 : c.eval (.tmp 17) = .pointer (some ⟨X, 0, none⟩) := fact_at (p := eqv (.pointer (some ⟨X, 0, none⟩))) (by kernel_rfl) rfl (hF 13 (by decide))
  have hw : Region.wanted ({ dst := some 18, op := Op.load 2 (Operand.tmp 17), type := 2, pos := "edit.go:126", after := #[{ on := 13, ground := Ground.data }], guard := none } : Oper) (yielded RAT1 c.tmps) = true := want_none rfl
  have ec : ∀ v, c.eval (.const v) = v := fun _ => rfl
  have ef : ∀ f, c.eval (.func f) = .func (.func f) #[] #[] := fun _ => rfl
  have xi := hW.xi
  refine does_value ho hw (v := .int .i64 id) ?_ rfl (Below.refl _ _)
  generalize c.eval = ρ at *
  clear hF hb hW hw ho
  go_simp
set_option maxRecDepth 10000 in
theorem oAT1_15 (p : GP) (id k : Int) (X B0 : Nat) (Q : Exit → Act → World → Prop) (c : Act) (w : World) (hb : BaseAT1 p id k X B0 c) (hW : WorldAT1 p id k X B0 w) (hF : ∀ q0 ∈ ancAT1 15, factsAt (factsAT1 p id k X B0) q0 (val RAT1 c q0) w) :
    Does Tryz.prog RAT1 Q (factsAt (factsAT1 p id k X B0)) 15 c w := by
  have ho : RAT1[15]? = some ({ dst := some 19, op := Op.buildSlice 100 1 #[(0, Operand.tmp 18)], type := 100, pos := "edit.go:126", after := #[{ on := 14, ground := Ground.data }], guard := none } : Oper) := by kernel_rfl
  have e18 : c.eval (.tmp 18) = .int .i64 id := fact_at (p := eqv (.int .i64 id)) (by kernel_rfl) rfl (hF 14 (by decide))
  have hw : Region.wanted ({ dst := some 19, op := Op.buildSlice 100 1 #[(0, Operand.tmp 18)], type := 100, pos := "edit.go:126", after := #[{ on := 14, ground := Ground.data }], guard := none } : Oper) (yielded RAT1 c.tmps) = true := want_none rfl
  have ec : ∀ v, c.eval (.const v) = v := fun _ => rfl
  have ef : ∀ f, c.eval (.func f) = .func (.func f) #[] #[] := fun _ => rfl
  refine does_value ho hw (v := .slice (some ⟨w.heap.size, 0, none⟩) 1 1) (w' := w.alloc (.cells #[.int .i64 id] 2)) ?_ ⟨w.heap.size, rfl, by simp, fun j hj => ?_⟩ ((Below.refl _ _).alloc (Nat.le_refl _) _)
  · generalize c.eval = ρ at *
    clear hF hb hW hw ho
    go_simp
  · have hj0 : j = 0 := by simp at hj; omega
    subst hj0
    exact cell_new _ _ _ _ _ rfl
set_option maxRecDepth 10000 in
theorem oAT1_16 (p : GP) (id k : Int) (X B0 : Nat) (Q : Exit → Act → World → Prop) (c : Act) (w : World) (hb : BaseAT1 p id k X B0 c) (hW : WorldAT1 p id k X B0 w) (hF : ∀ q0 ∈ ancAT1 16, factsAt (factsAT1 p id k X B0) q0 (val RAT1 c q0) w) :
    Does Tryz.prog RAT1 Q (factsAt (factsAT1 p id k X B0)) 16 c w := by
  have ho : RAT1[16]? = some ({ dst := some 20, op := Op.call { callee := Callee.builtin Builtin.append, args := #[Operand.tmp 16, Operand.tmp 19], argTypes := #[100, 100] }, type := 100, pos := "edit.go:126", after := #[{ on := 12, ground := Ground.data }, { on := 15, ground := Ground.data }], guard := none } : Oper) := by kernel_rfl
  have e16 : c.eval (.tmp 16) = .slice none 0 0 := fact_at (p := eqv (.slice none 0 0)) (by kernel_rfl) rfl (hF 12 (by decide))
  have f19 : (laid [id]) (c.eval (.tmp 19)) w := fact_at (by kernel_rfl) rfl (hF 15 (by decide))
  have hw : Region.wanted ({ dst := some 20, op := Op.call { callee := Callee.builtin Builtin.append, args := #[Operand.tmp 16, Operand.tmp 19], argTypes := #[100, 100] }, type := 100, pos := "edit.go:126", after := #[{ on := 12, ground := Ground.data }, { on := 15, ground := Ground.data }], guard := none } : Oper) (yielded RAT1 c.tmps) = true := want_none rfl
  have ec : ∀ v, c.eval (.const v) = v := fun _ => rfl
  have ef : ∀ f, c.eval (.func f) = .func (.func f) #[] #[] := fun _ => rfl
  obtain ⟨i0, hi, hz0, hz1, hz2⟩ := info_parts Tryz.info2
  obtain ⟨y, e19, hy, hyc⟩ := f19
  obtain ⟨v', w', hrun, hown, hgr, _, _⟩ := run_append_own_at (P := Tryz.prog) w B0 100 100 2 i0 (.int .i64 0) 1 8 Tryz.underlying100 hi hz0 hz1 hz2 rfl (by decide) (.slice none 0 0) 0 [] (World.ownsRow_nil _ _ _ _) ⟨y, 0, none⟩ 1 1 [.int .i64 id] rfl (fun j u hj => by
    have hj0 : j = 0 := by
      have := (List.getElem?_eq_some_iff.1 hj).1
      simp at this; omega
    subst hj0
    have : u = .int .i64 id := by simpa using hj.symm
    subst this
    have hadd : (⟨y, 0, none⟩ : Addr).add 0 = ⟨y, 0, none⟩ := by unfold Addr.add; split <;> simp_all
    rw [hadd]
    exact hyc 0 (by simp)) (by intro u hu; simp only [List.mem_cons, List.not_mem_nil, or_false] at hu; subst hu; rfl) (by unfold maxLen; omega) (by omega) hW.b0
  obtain ⟨ua, uc, rfl⟩ := row_slice hown
  refine does_value ho hw (v := .slice ua (0 + 1) uc) (w' := w') ?_ ⟨hown, ua, uc, rfl⟩ ((Below.refl _ w).grown hgr (Nat.le_refl _) (fun q h => by cases h))
  exact exec_append e16 e19 hrun
theorem stableAT1 (p : GP) (id k : Int) (X B0 : Nat) : ∀ pr ∈ factsAT1 p id k X B0, Stable pr := by
  unfold factsAT1
  refine List.forall_mem_cons.2 ⟨eqv_stable _, ?_⟩
  refine List.forall_mem_cons.2 ⟨eqv_stable _, ?_⟩
  refine List.forall_mem_cons.2 ⟨eqv_stable _, ?_⟩
  refine List.forall_mem_cons.2 ⟨eqv_stable _, ?_⟩
  refine List.forall_mem_cons.2 ⟨eqv_stable _, ?_⟩
  refine List.forall_mem_cons.2 ⟨eqv_stable _, ?_⟩
  refine List.forall_mem_cons.2 ⟨eqv_stable _, ?_⟩
  refine List.forall_mem_cons.2 ⟨eqv_stable _, ?_⟩
  refine List.forall_mem_cons.2 ⟨eqv_stable _, ?_⟩
  refine List.forall_mem_cons.2 ⟨eqv_stable _, ?_⟩
  refine List.forall_mem_cons.2 ⟨eqv_stable _, ?_⟩
  refine List.forall_mem_cons.2 ⟨eqv_stable _, ?_⟩
  refine List.forall_mem_cons.2 ⟨eqv_stable _, ?_⟩
  refine List.forall_mem_cons.2 ⟨eqv_stable _, ?_⟩
  refine List.forall_mem_cons.2 ⟨eqv_stable _, ?_⟩
  refine List.forall_mem_cons.2 ⟨laid_stable _, ?_⟩
  refine List.forall_mem_cons.2 ⟨fun v w w' ⟨h, h2⟩ hb => ⟨row_keep h fun g _ hg => hb.block g hg, h2⟩, ?_⟩
  exact List.forall_mem_nil _
set_option maxRecDepth 100000 in
theorem allAT1 (p : GP) (id k : Int) (X B0 : Nat) (Q : Exit → Act → World → Prop) : ∀ i, i < 17 → (fun i => ∀ c w, BaseAT1 p id k X B0 c → WorldAT1 p id k X B0 w → (∀ q0 ∈ ancAT1 i, factsAt (factsAT1 p id k X B0) q0 (val RAT1 c q0) w) → Does Tryz.prog RAT1 Q (factsAt (factsAT1 p id k X B0)) i c w) i := by
  refine below_succ ?_ (fun c w => oAT1_16 p id k X B0 Q c w)
  refine below_succ ?_ (fun c w => oAT1_15 p id k X B0 Q c w)
  refine below_succ ?_ (fun c w => oAT1_14 p id k X B0 Q c w)
  refine below_succ ?_ (fun c w => oAT1_13 p id k X B0 Q c w)
  refine below_succ ?_ (fun c w => oAT1_12 p id k X B0 Q c w)
  refine below_succ ?_ (fun c w => oAT1_11 p id k X B0 Q c w)
  refine below_succ ?_ (fun c w => oAT1_10 p id k X B0 Q c w)
  refine below_succ ?_ (fun c w => oAT1_9 p id k X B0 Q c w)
  refine below_succ ?_ (fun c w => oAT1_8 p id k X B0 Q c w)
  refine below_succ ?_ (fun c w => oAT1_7 p id k X B0 Q c w)
  refine below_succ ?_ (fun c w => oAT1_6 p id k X B0 Q c w)
  refine below_succ ?_ (fun c w => oAT1_5 p id k X B0 Q c w)
  refine below_succ ?_ (fun c w => oAT1_4 p id k X B0 Q c w)
  refine below_succ ?_ (fun c w => oAT1_3 p id k X B0 Q c w)
  refine below_succ ?_ (fun c w => oAT1_2 p id k X B0 Q c w)
  refine below_succ ?_ (fun c w => oAT1_1 p id k X B0 Q c w)
  refine below_succ ?_ (fun c w => oAT1_0 p id k X B0 Q c w)
  exact below_zero
theorem regionAT1 (p : GP) (id k : Int) (X B0 : Nat) (Q : Exit → Act → World → Prop) (base : Act) (w0 : World) (hsz : base.tmps.size = 38) (hb : BaseAT1 p id k X B0 base)
    (hW : ∀ w, Below w0.heap.size w0 w → WorldAT1 p id k X B0 w) (hL : ∀ c w, Same RAT1 base c → Below w0.heap.size w0 w → c.eval (.tmp 7) = .map (some p.f) → c.eval (.tmp 9) = .int .i64 k → (fun v w => w.ownsRow B0 2 1 v 1 [.int .i64 id] ∧ ∃ a c, v = .slice a 1 c) (c.eval (.tmp 20)) w → ∃ w', (execOp c.eval ({ dst := none, op := Op.mapUpdate 72 (Operand.tmp 7) (Operand.tmp 9) (Operand.tmp 20), type := 0, pos := "edit.go:126", after := #[{ on := 3, ground := Ground.data }, { on := 5, ground := Ground.data }, { on := 16, ground := Ground.data }, { on := 16, ground := Ground.chain }, { on := 0, ground := Ground.phase }, { on := 1, ground := Ground.phase }, { on := 2, ground := Ground.phase }, { on := 3, ground := Ground.phase }, { on := 4, ground := Ground.phase }, { on := 5, ground := Ground.phase }, { on := 6, ground := Ground.phase }, { on := 7, ground := Ground.phase }, { on := 8, ground := Ground.phase }, { on := 9, ground := Ground.phase }, { on := 10, ground := Ground.phase }, { on := 11, ground := Ground.phase }, { on := 12, ground := Ground.phase }, { on := 13, ground := Ground.phase }, { on := 14, ground := Ground.phase }, { on := 15, ground := Ground.phase }, { on := 16, ground := Ground.phase }], guard := none } : Oper)).run Tryz.prog w = .ok .skip w' ∧ Q .normal c w') : (Code.region 1 RAT1 true).wp Tryz.prog Q base w0 := by
  have hall : (List.range 17).all (fun i => (slotOf RAT1 i).isSome) = true := by kernel_rfl
  refine facts_last (A := ancAT1) (F := factsAt (factsAT1 p id k X B0)) 17 (by kernel_rfl) (by kernel_rfl) (by kernel_rfl) (by rw [hsz]; kernel_rfl) ?_ (by decide) (fun i v w w' => factsAt_stable (stableAT1 p id k X B0) i v w w') ?_ ?_
  · exact fun i hi => Option.isSome_iff_exists.1 (List.all_eq_true.1 hall i (List.mem_range.2 hi))
  · intro i hi c w hS hB hF
    exact allAT1 p id k X B0 Q i hi c w ⟨(same_eval hS (by kernel_rfl)).trans hb.t0, (same_eval hS (by kernel_rfl)).trans hb.t3⟩ (hW w hB) hF
  · intro c w hS hB hF
    obtain ⟨w', h1, h2⟩ := hL c w hS hB (fact_at (p := eqv (.map (some p.f))) (by kernel_rfl) rfl (hF 3 (by omega))) (fact_at (p := eqv (.int .i64 k)) (by kernel_rfl) rfl (hF 5 (by omega))) (fact_at (p := fun v w => w.ownsRow B0 2 1 v 1 [.int .i64 id] ∧ ∃ a c, v = .slice a 1 c) (by kernel_rfl) rfl (hF 16 (by omega)))
    exact last_skip (by kernel_rfl) (want_none rfl) h1 h2
noncomputable def RAT2 : Array Oper := regionAt Tryz.f40 2
def ancAT2 (i : Nat) : List Nat := ([[], [0], [1], [2], [], [4], [], [6], [7], [8], [], [10], [9, 11], [], [13], [14], [12, 15], [0, 1, 2, 3, 4, 5, 6, 7, 8, 9, 10, 11, 12, 13, 14, 15, 16]] : List (List Nat)).getD i []
def factsAT2 (p : GP) (id k : Int) (X B0 : Nat) : List (Value → World → Prop) :=
  [eqv (.pointer (some ⟨p.g, 0, none⟩)), eqv (.pointer (some ⟨p.g, 0, none⟩)), eqv (.pointer (some ⟨p.g, 5, none⟩)), eqv (.map (some p.t)), eqv (.pointer (some ⟨X, 2, none⟩)), eqv (.int .i64 k), eqv (.pointer (some ⟨p.g, 0, none⟩)), eqv (.pointer (some ⟨p.g, 0, none⟩)), eqv (.pointer (some ⟨p.g, 5, none⟩)), eqv (.map (some p.t)), eqv (.pointer (some ⟨X, 2, none⟩)), eqv (.int .i64 k), eqv (.slice none 0 0), eqv (.pointer (some ⟨X, 0, none⟩)), eqv (.int .i64 id), laid [id], fun v w => w.ownsRow B0 2 1 v 1 [.int .i64 id] ∧ ∃ a c, v = .slice a 1 c]
structure BaseAT2 (p : GP) (id k : Int) (X B0 : Nat) (c : Act) : Prop where
  t0 : c.eval (.tmp 0) = .pointer (some ⟨p.g, 0, none⟩)
  t3 : c.eval (.tmp 3) = .pointer (some ⟨X, 0, none⟩)
structure WorldAT2 (p : GP) (id k : Int) (X B0 : Nat) (w : World) : Prop where
  cm : w.cell? ⟨p.g, 5, none⟩ = some (.map (some p.t))
  xk : w.cell? ⟨X, 2, none⟩ = some (.int .i64 k)
  xi : w.cell? ⟨X, 0, none⟩ = some (.int .i64 id)
  lk : (Instr.lookup 72 (.map (some p.t)) (.int .i64 k) false).run Tryz.prog w = .ok (.slice none 0 0) w
  b0 : B0 ≤ w.heap.size
set_option maxRecDepth 10000 in
theorem oAT2_0 (p : GP) (id k : Int) (X B0 : Nat) (Q : Exit → Act → World → Prop) (c : Act) (w : World) (hb : BaseAT2 p id k X B0 c) (hW : WorldAT2 p id k X B0 w) (hF : ∀ q0 ∈ ancAT2 0, factsAt (factsAT2 p id k X B0) q0 (val RAT2 c q0) w) :
    Does Tryz.prog RAT2 Q (factsAt (factsAT2 p id k X B0)) 0 c w := by
  have ho : RAT2[0]? = some ({ dst := some 21, op := Op.move (Operand.tmp 0), type := 31, pos := "edit.go:127", after := #[], guard := none } : Oper) := by kernel_rfl
  have e0 := hb.t0
  have hw : Region.wanted ({ dst := some 21, op := Op.move (Operand.tmp 0), type := 31, pos := "edit.go:127", after := #[], guard := none } : Oper) (yielded RAT2 c.tmps) = true := want_none rfl
  have ec : ∀ v, c.eval (.const v) = v := fun _ => rfl
  have ef : ∀ f, c.eval (.func f) = .func (.func f) #[] #[] := fun _ => rfl
  refine does_value ho hw (v := .pointer (some ⟨p.g, 0, none⟩)) ?_ rfl (Below.refl _ _)
  generalize c.eval = ρ at *
  clear hF hb hW hw ho
  go_simp
set_option maxRecDepth 10000 in
theorem oAT2_1 (p : GP) (id k : Int) (X B0 : Nat) (Q : Exit → Act → World → Prop) (c : Act) (w : World) (hb : BaseAT2 p id k X B0 c) (hW : WorldAT2 p id k X B0 w) (hF : ∀ q0 ∈ ancAT2 1, factsAt (factsAT2 p id k X B0) q0 (val RAT2 c q0) w) :
    Does Tryz.prog RAT2 Q (factsAt (factsAT2 p id k X B0)) 1 c w := by
  have ho : RAT2[1]? = some ({ dst := some 22, op := Op.nilCheck (Operand.tmp 21), type := 0, pos := "edit.go:127", after := #[{ on := 0, ground := Ground.data }], guard := none } : Oper) := by kernel_rfl
  have e21 : c.eval (.tmp 21) = .pointer (some ⟨p.g, 0, none⟩) := fact_at (p := eqv (.pointer (some ⟨p.g, 0, none⟩))) (by kernel_rfl) rfl (hF 0 (by decide))
  have hw : Region.wanted ({ dst := some 22, op := Op.nilCheck (Operand.tmp 21), type := 0, pos := "edit.go:127", after := #[{ on := 0, ground := Ground.data }], guard := none } : Oper) (yielded RAT2 c.tmps) = true := want_none rfl
  have ec : ∀ v, c.eval (.const v) = v := fun _ => rfl
  have ef : ∀ f, c.eval (.func f) = .func (.func f) #[] #[] := fun _ => rfl
  refine does_value ho hw (v := .pointer (some ⟨p.g, 0, none⟩)) ?_ rfl (Below.refl _ _)
  generalize c.eval = ρ at *
  clear hF hb hW hw ho
  go_simp
set_option maxRecDepth 10000 in
theorem oAT2_2 (p : GP) (id k : Int) (X B0 : Nat) (Q : Exit → Act → World → Prop) (c : Act) (w : World) (hb : BaseAT2 p id k X B0 c) (hW : WorldAT2 p id k X B0 w) (hF : ∀ q0 ∈ ancAT2 2, factsAt (factsAT2 p id k X B0) q0 (val RAT2 c q0) w) :
    Does Tryz.prog RAT2 Q (factsAt (factsAT2 p id k X B0)) 2 c w := by
  have ho : RAT2[2]? = some ({ dst := some 23, op := Op.fieldAddr 74 (Operand.tmp 22) 2, type := 0, pos := "edit.go:127", after := #[{ on := 1, ground := Ground.data }], guard := none } : Oper) := by kernel_rfl
  have e22 : c.eval (.tmp 22) = .pointer (some ⟨p.g, 0, none⟩) := fact_at (p := eqv (.pointer (some ⟨p.g, 0, none⟩))) (by kernel_rfl) rfl (hF 1 (by decide))
  have hw : Region.wanted ({ dst := some 23, op := Op.fieldAddr 74 (Operand.tmp 22) 2, type := 0, pos := "edit.go:127", after := #[{ on := 1, ground := Ground.data }], guard := none } : Oper) (yielded RAT2 c.tmps) = true := want_none rfl
  have ec : ∀ v, c.eval (.const v) = v := fun _ => rfl
  have ef : ∀ f, c.eval (.func f) = .func (.func f) #[] #[] := fun _ => rfl
  refine does_value ho hw (v := .pointer (some ⟨p.g, 5, none⟩)) ?_ rfl (Below.refl _ _)
  generalize c.eval = ρ at *
  clear hF hb hW hw ho
  go_simp
set_option maxRecDepth 10000 in
theorem oAT2_3 (p : GP) (id k : Int) (X B0 : Nat) (Q : Exit → Act → World → Prop) (c : Act) (w : World) (hb : BaseAT2 p id k X B0 c) (hW : WorldAT2 p id k X B0 w) (hF : ∀ q0 ∈ ancAT2 3, factsAt (factsAT2 p id k X B0) q0 (val RAT2 c q0) w) :
    Does Tryz.prog RAT2 Q (factsAt (factsAT2 p id k X B0)) 3 c w := by
  have ho : RAT2[3]? = some ({ dst := some 24, op := Op.load 72 (Operand.tmp 23), type := 72, pos := "edit.go:127", after := #[{ on := 2, ground := Ground.data }], guard := none } : Oper) := by kernel_rfl
  have e23 : c.eval (.tmp 23) = .pointer (some ⟨p.g, 5, none⟩) := fact_at (p := eqv (.pointer (some ⟨p.g, 5, none⟩))) (by kernel_rfl) rfl (hF 2 (by decide))
  have hw : Region.wanted ({ dst := some 24, op := Op.load 72 (Operand.tmp 23), type := 72, pos := "edit.go:127", after := #[{ on := 2, ground := Ground.data }], guard := none } : Oper) (yielded RAT2 c.tmps) = true := want_none rfl
  have ec : ∀ v, c.eval (.const v) = v := fun _ => rfl
  have ef : ∀ f, c.eval (.func f) = .func (.func f) #[] #[] := fun _ => rfl
  have cm := hW.cm
  refine does_value ho hw (v := .map (some p.t)) ?_ rfl (Below.refl _ _)
  generalize c.eval = ρ at *
  clear hF hb hW hw ho
  go_simp
set_option maxRecDepth 10000 in
theorem oAT2_4 (p : GP) (id k : Int) (X B0 : Nat) (Q : Exit → Act → World → Prop) (c : Act) (w : World) (hb : BaseAT2 p id k X B0 c) (hW : WorldAT2 p id k X B0 w) (hF : ∀ q0 ∈ ancAT2 4, factsAt (factsAT2 p id k X B0) q0 (val RAT2 c q0) w) :
    Does Tryz.prog RAT2 Q (factsAt (factsAT2 p id k X B0)) 4 c w := by
  have ho : RAT2[4]? = some ({ dst := some 25, op := Op.fieldAddr 49 (Operand.tmp 3) 2, type := 0, pos := "edit.go:127", after := #[], guard := none } : Oper) := by kernel_rfl
  have e3 := hb.t3
  have hw : Region.wanted ({ dst := some 25, op := Op.fieldAddr 49 (Operand.tmp 3) 2, type := 0, pos := "edit.go:127", after := #[], guard := none } : Oper) (yielded RAT2 c.tmps) = true := want_none rfl
  have ec : ∀ v, c.eval (.const v) = v := fun _ => rfl
  have ef : ∀ f, c.eval (.func f) = .func (.func f) #[] #[] := fun _ => rfl
  refine does_value ho hw (v := .pointer (some ⟨X, 2, none⟩)) ?_ rfl (Below.refl _ _)
  generalize c.eval = ρ at *
  clear hF hb hW hw ho
  go_simp
set_option maxRecDepth 10000 in
theorem oAT2_5 (p : GP) (id k : Int) (X B0 : Nat) (Q : Exit → Act → World → Prop) (c : Act) (w : World) (hb : BaseAT2 p id k X B0 c) (hW : WorldAT2 p id k X B0 w) (hF : ∀ q0 ∈ ancAT2 5, factsAt (factsAT2 p id k X B0) q0 (val RAT2 c q0) w) :
    Does Tryz.prog RAT2 Q (factsAt (factsAT2 p id k X B0)) 5 c w := by
  have ho : RAT2[5]? = some ({ dst := some 26, op := Op.load 2 (Operand.tmp 25), type := 2, pos := "edit.go:127", after := #[{ on := 4, ground := Ground.data }], guard := none } : Oper) := by kernel_rfl
  have e25 : c.eval (.tmp 25) = .pointer (some ⟨X, 2, none⟩) := fact_at (p := eqv (.pointer (some ⟨X, 2, none⟩))) (by kernel_rfl) rfl (hF 4 (by decide))
  have hw : Region.wanted ({ dst := some 26, op := Op.load 2 (Operand.tmp 25), type := 2, pos := "edit.go:127", after := #[{ on := 4, ground := Ground.data }], guard := none } : Oper) (yielded RAT2 c.tmps) = true := want_none rfl
  have ec : ∀ v, c.eval (.const v) = v := fun _ => rfl
  have ef : ∀ f, c.eval (.func f) = .func (.func f) #[] #[] := fun _ => rfl
  have xk := hW.xk
  refine does_value ho hw (v := .int .i64 k) ?_ rfl (Below.refl _ _)
  generalize c.eval = ρ at *
  clear hF hb hW hw ho
  go_simp
set_option maxRecDepth 10000 in
theorem oAT2_6 (p : GP) (id k : Int) (X B0 : Nat) (Q : Exit → Act → World → Prop) (c : Act) (w : World) (hb : BaseAT2 p id k X B0 c) (hW : WorldAT2 p id k X B0 w) (hF : ∀ q0 ∈ ancAT2 6, factsAt (factsAT2 p id k X B0) q0 (val RAT2 c q0) w) :
    Does Tryz.prog RAT2 Q (factsAt (factsAT2 p id k X B0)) 6 c w := by
  have ho : RAT2[6]? = some ({ dst := some 27, op := Op.move (Operand.tmp 0), type := 31, pos := "edit.go:127", after := #[], guard := none } : Oper) := by kernel_rfl
  have e0 := hb.t0
  have hw : Region.wanted ({ dst := some 27, op := Op.move (Operand.tmp 0), type := 31, pos := "edit.go:127", after := #[], guard := none } : Oper) (yielded RAT2 c.tmps) = true := want_none rfl
  have ec : ∀ v, c.eval (.const v) = v := fun _ => rfl
  have ef : ∀ f, c.eval (.func f) = .func (.func f) #[] #[] := fun _ => rfl
  refine does_value ho hw (v := .pointer (some ⟨p.g, 0, none⟩)) ?_ rfl (Below.refl _ _)
  generalize c.eval = ρ at *
  clear hF hb hW hw ho
  go_simp
set_option maxRecDepth 10000 in
theorem oAT2_7 (p : GP) (id k : Int) (X B0 : Nat) (Q : Exit → Act → World → Prop) (c : Act) (w : World) (hb : BaseAT2 p id k X B0 c) (hW : WorldAT2 p id k X B0 w) (hF : ∀ q0 ∈ ancAT2 7, factsAt (factsAT2 p id k X B0) q0 (val RAT2 c q0) w) :
    Does Tryz.prog RAT2 Q (factsAt (factsAT2 p id k X B0)) 7 c w := by
  have ho : RAT2[7]? = some ({ dst := some 28, op := Op.nilCheck (Operand.tmp 27), type := 0, pos := "edit.go:127", after := #[{ on := 6, ground := Ground.data }], guard := none } : Oper) := by kernel_rfl
  have e27 : c.eval (.tmp 27) = .pointer (some ⟨p.g, 0, none⟩) := fact_at (p := eqv (.pointer (some ⟨p.g, 0, none⟩))) (by kernel_rfl) rfl (hF 6 (by decide))
  have hw : Region.wanted ({ dst := some 28, op := Op.nilCheck (Operand.tmp 27), type := 0, pos := "edit.go:127", after := #[{ on := 6, ground := Ground.data }], guard := none } : Oper) (yielded RAT2 c.tmps) = true := want_none rfl
  have ec : ∀ v, c.eval (.const v) = v := fun _ => rfl
  have ef : ∀ f, c.eval (.func f) = .func (.func f) #[] #[] := fun _ => rfl
  refine does_value ho hw (v := .pointer (some ⟨p.g, 0, none⟩)) ?_ rfl (Below.refl _ _)
  generalize c.eval = ρ at *
  clear hF hb hW hw ho
  go_simp
set_option maxRecDepth 10000 in
theorem oAT2_8 (p : GP) (id k : Int) (X B0 : Nat) (Q : Exit → Act → World → Prop) (c : Act) (w : World) (hb : BaseAT2 p id k X B0 c) (hW : WorldAT2 p id k X B0 w) (hF : ∀ q0 ∈ ancAT2 8, factsAt (factsAT2 p id k X B0) q0 (val RAT2 c q0) w) :
    Does Tryz.prog RAT2 Q (factsAt (factsAT2 p id k X B0)) 8 c w := by
  have ho : RAT2[8]? = some ({ dst := some 29, op := Op.fieldAddr 74 (Operand.tmp 28) 2, type := 0, pos := "edit.go:127", after := #[{ on := 7, ground := Ground.data }], guard := none } : Oper) := by kernel_rfl
  have e28 : c.eval (.tmp 28) = .pointer (some ⟨p.g, 0, none⟩) := fact_at (p := eqv (.pointer (some ⟨p.g, 0, none⟩))) (by kernel_rfl) rfl (hF 7 (by decide))
  have hw : Region.wanted ({ dst := some 29, op := Op.fieldAddr 74 (Operand.tmp 28) 2, type := 0, pos := "edit.go:127", after := #[{ on := 7, ground := Ground.data }], guard := none } : Oper) (yielded RAT2 c.tmps) = true := want_none rfl
  have ec : ∀ v, c.eval (.const v) = v := fun _ => rfl
  have ef : ∀ f, c.eval (.func f) = .func (.func f) #[] #[] := fun _ => rfl
  refine does_value ho hw (v := .pointer (some ⟨p.g, 5, none⟩)) ?_ rfl (Below.refl _ _)
  generalize c.eval = ρ at *
  clear hF hb hW hw ho
  go_simp
set_option maxRecDepth 10000 in
theorem oAT2_9 (p : GP) (id k : Int) (X B0 : Nat) (Q : Exit → Act → World → Prop) (c : Act) (w : World) (hb : BaseAT2 p id k X B0 c) (hW : WorldAT2 p id k X B0 w) (hF : ∀ q0 ∈ ancAT2 9, factsAt (factsAT2 p id k X B0) q0 (val RAT2 c q0) w) :
    Does Tryz.prog RAT2 Q (factsAt (factsAT2 p id k X B0)) 9 c w := by
  have ho : RAT2[9]? = some ({ dst := some 30, op := Op.load 72 (Operand.tmp 29), type := 72, pos := "edit.go:127", after := #[{ on := 8, ground := Ground.data }], guard := none } : Oper) := by kernel_rfl
  have e29 : c.eval (.tmp 29) = .pointer (some ⟨p.g, 5, none⟩) := fact_at (p := eqv (.pointer (some ⟨p.g, 5, none⟩))) (by kernel_rfl) rfl (hF 8 (by decide))
  have hw : Region.wanted ({ dst := some 30, op := Op.load 72 (Operand.tmp 29), type := 72, pos := "edit.go:127", after := #[{ on := 8, ground := Ground.data }], guard := none } : Oper) (yielded RAT2 c.tmps) = true := want_none rfl
  have ec : ∀ v, c.eval (.const v) = v := fun _ => rfl
  have ef : ∀ f, c.eval (.func f) = .func (.func f) #[] #[] := fun _ => rfl
  have cm := hW.cm
  refine does_value ho hw (v := .map (some p.t)) ?_ rfl (Below.refl _ _)
  generalize c.eval = ρ at *
  clear hF hb hW hw ho
  go_simp
set_option maxRecDepth 10000 in
theorem oAT2_10 (p : GP) (id k : Int) (X B0 : Nat) (Q : Exit → Act → World → Prop) (c : Act) (w : World) (hb : BaseAT2 p id k X B0 c) (hW : WorldAT2 p id k X B0 w) (hF : ∀ q0 ∈ ancAT2 10, factsAt (factsAT2 p id k X B0) q0 (val RAT2 c q0) w) :
    Does Tryz.prog RAT2 Q (factsAt (factsAT2 p id k X B0)) 10 c w := by
  have ho : RAT2[10]? = some ({ dst := some 31, op := Op.fieldAddr 49 (Operand.tmp 3) 2, type := 0, pos := "edit.go:127", after := #[], guard := none } : Oper) := by kernel_rfl
  have e3 := hb.t3
  have hw : Region.wanted ({ dst := some 31, op := Op.fieldAddr 49 (Operand.tmp 3) 2, type := 0, pos := "edit.go:127", after := #[], guard := none } : Oper) (yielded RAT2 c.tmps) = true := want_none rfl
  have ec : ∀ v, c.eval (.const v) = v := fun _ => rfl
  have ef : ∀ f, c.eval (.func f) = .func (.func f) #[] #[] := fun _ => rfl
  refine does_value ho hw (v := .pointer (some ⟨X, 2, none⟩)) ?_ rfl (Below.refl _ _)
  generalize c.eval = ρ at *
  clear hF hb hW hw ho
  go_simp
set_option maxRecDepth 10000 in
theorem oAT2_11 (p : GP) (id k : Int) (X B0 : Nat) (Q : Exit → Act → World → Prop) (c : Act) (w : World) (hb : BaseAT2 p id k X B0 c) (hW : WorldAT2 p id k X B0 w) (hF : ∀ q0 ∈ ancAT2 11, factsAt (factsAT2 p id k X B0) q0 (val RAT2 c q0) w) :
    Does Tryz.prog RAT2 Q (factsAt (factsAT2 p id k X B0)) 11 c w := by
  have ho : RAT2[11]? = some ({ dst := some 32, op := Op.load 2 (Operand.tmp 31), type := 2, pos := "edit.go:127", after := #[{ on := 10, ground := Ground.data }], guard := none } : Oper) := by kernel_rfl
  have e31 : c.eval (.tmp 31) = .pointer (some ⟨X, 2, none⟩) := fact_at (p := eqv (.pointer (some ⟨X, 2, none⟩))) (by kernel_rfl) rfl (hF 10 (by decide))
  have hw : Region.wanted ({ dst := some 32, op := Op.load 2 (Operand.tmp 31), type := 2, pos := "edit.go:127", after := #[{ on := 10, ground := Ground.data }], guard := none } : Oper) (yielded RAT2 c.tmps) = true := want_none rfl
  have ec : ∀ v, c.eval (.const v) = v := fun _ => rfl
  have ef : ∀ f, c.eval (.func f) = .func (.func f) #[] #[] := fun _ => rfl
  have xk := hW.xk
  refine does_value ho hw (v := .int .i64 k) ?_ rfl (Below.refl _ _)
  generalize c.eval = ρ at *
  clear hF hb hW hw ho
  go_simp
set_option maxRecDepth 10000 in
theorem oAT2_12 (p : GP) (id k : Int) (X B0 : Nat) (Q : Exit → Act → World → Prop) (c : Act) (w : World) (hb : BaseAT2 p id k X B0 c) (hW : WorldAT2 p id k X B0 w) (hF : ∀ q0 ∈ ancAT2 12, factsAt (factsAT2 p id k X B0) q0 (val RAT2 c q0) w) :
    Does Tryz.prog RAT2 Q (factsAt (factsAT2 p id k X B0)) 12 c w := by
  have ho : RAT2[12]? = some ({ dst := some 33, op := Op.lookup 72 (Operand.tmp 30) (Operand.tmp 32) false, type := 100, pos := "edit.go:127", after := #[{ on := 9, ground := Ground.data }, { on := 11, ground := Ground.data }], guard := none } : Oper) := by kernel_rfl
  have e30 : c.eval (.tmp 30) = .map (some p.t) := fact_at (p := eqv (.map (some p.t))) (by kernel_rfl) rfl (hF 9 (by decide))
  have e32 : c.eval (.tmp 32) = .int .i64 k := fact_at (p := eqv (.int .i64 k)) (by kernel_rfl) rfl (hF 11 (by decide))
  have hw : Region.wanted ({ dst := some 33, op := Op.lookup 72 (Operand.tmp 30) (Operand.tmp 32) false, type := 100, pos := "edit.go:127", after := #[{ on := 9, ground := Ground.data }, { on := 11, ground := Ground.data }], guard := none } : Oper) (yielded RAT2 c.tmps) = true := want_none rfl
  have ec : ∀ v, c.eval (.const v) = v := fun _ => rfl
  have ef : ∀ f, c.eval (.func f) = .func (.func f) #[] #[] := fun _ => rfl
  have lk := hW.lk
  refine does_value ho hw (v := .slice none 0 0) ?_ rfl (Below.refl _ _)
  generalize c.eval = ρ at *
  clear hF hb hW hw ho
  go_simp
set_option maxRecDepth 10000 in
theorem oAT2_13 (p : GP) (id k : Int) (X B0 : Nat) (Q : Exit → Act → World → Prop) (c : Act) (w : World) (hb : BaseAT2 p id k X B0 c) (hW : WorldAT2 p id k X B0 w) (hF : ∀ q0 ∈ ancAT2 13, factsAt (factsAT2 p id k X B0) q0 (val RAT2 c q0) w) :
    Does Tryz.prog RAT2 Q (factsAt (factsAT2 p id k X B0)) 13 c w := by
  have ho : RAT2[13]? = some ({ dst := some 34, op := Op.fieldAddr 49 (Operand.tmp 3) 0, type := 0, pos := "edit.go:127", after := #[], guard := none } : Oper) := by kernel_rfl
  have e3 := hb.t3
  have hw : Region.wanted ({ dst := some 34, op := Op.fieldAddr 49 (Operand.tmp 3) 0, type := 0, pos := "edit.go:127", after := #[], guard := none } : Oper) (yielded RAT2 c.tmps) = true := want_none rfl
  have ec : ∀ v, c.eval (.const v) = v := fun _ => rfl
  have ef : ∀ f, c.eval (.func f) = .func (.func f) #[] #[] := fun _ => rfl
  refine does_value ho hw (v := .pointer (some ⟨X, 0, none⟩)) ?_ rfl (Below.refl _ _)
  generalize c.eval = ρ at *
  clear hF hb hW hw ho
  go_simp
set_option maxRecDepth 10000 in
theorem oAT2_14 (p : GP) (id k : Int) (X B0 : Nat) (Q : Exit → Act → World → Prop) (c : Act) (w : World) (hb : BaseAT2 p id k X B0 c) (hW : WorldAT2 p id k X B0 w) (hF : ∀ q0 ∈ ancAT2 14, factsAt (factsAT2 p id k X B0) q0 (val RAT2 c q0) w) :
    Does Tryz.prog RAT2 Q (factsAt (factsAT2 p id k X B0)) 14 c w := by
  have ho : RAT2[14]? = some ({ dst := some 35, op := Op.load 2 (Operand.tmp 34), type := 2, pos := "edit.go:127", after := #[{ on := 13, ground := Ground.data }], guard := none } : Oper) := by kernel_rfl
  have e34 : c.eval (.tmp 34) = .pointer (some ⟨X, 0, none⟩) := fact_at (p := eqv (.pointer (some ⟨X, 0, none⟩))) (by kernel_rfl) rfl (hF 13 (by decide))
  have hw : Region.wanted ({ dst := some 35, op := Op.load 2 (Operand.tmp 34), type := 2, pos := "edit.go:127", after := #[{ on := 13, ground := Ground.data }], guard := none } : Oper) (yielded RAT2 c.tmps) = true := want_none rfl
  have ec : ∀ v, c.eval (.const v) = v := fun _ => rfl
  have ef : ∀ f, c.eval (.func f) = .func (.func f) #[] #[] := fun _ => rfl
  have xi := hW.xi
  refine does_value ho hw (v := .int .i64 id) ?_ rfl (Below.refl _ _)
  generalize c.eval = ρ at *
  clear hF hb hW hw ho
  go_simp
set_option maxRecDepth 10000 in
theorem oAT2_15 (p : GP) (id k : Int) (X B0 : Nat) (Q : Exit → Act → World → Prop) (c : Act) (w : World) (hb : BaseAT2 p id k X B0 c) (hW : WorldAT2 p id k X B0 w) (hF : ∀ q0 ∈ ancAT2 15, factsAt (factsAT2 p id k X B0) q0 (val RAT2 c q0) w) :
    Does Tryz.prog RAT2 Q (factsAt (factsAT2 p id k X B0)) 15 c w := by
  have ho : RAT2[15]? = some ({ dst := some 36, op := Op.buildSlice 100 1 #[(0, Operand.tmp 35)], type := 100, pos := "edit.go:127", after := #[{ on := 14, ground := Ground.data }], guard := none } : Oper) := by kernel_rfl
  have e35 : c.eval (.tmp 35) = .int .i64 id := fact_at (p := eqv (.int .i64 id)) (by kernel_rfl) rfl (hF 14 (by decide))
  have hw : Region.wanted ({ dst := some 36, op := Op.buildSlice 100 1 #[(0, Operand.tmp 35)], type := 100, pos := "edit.go:127", after := #[{ on := 14, ground := Ground.data }], guard := none } : Oper) (yielded RAT2 c.tmps) = true := want_none rfl
  have ec : ∀ v, c.eval (.const v) = v := fun _ => rfl
  have ef : ∀ f, c.eval (.func f) = .func (.func f) #[] #[] := fun _ => rfl
  refine does_value ho hw (v := .slice (some ⟨w.heap.size, 0, none⟩) 1 1) (w' := w.alloc (.cells #[.int .i64 id] 2)) ?_ ⟨w.heap.size, rfl, by simp, fun j hj => ?_⟩ ((Below.refl _ _).alloc (Nat.le_refl _) _)
  · generalize c.eval = ρ at *
    clear hF hb hW hw ho
    go_simp
  · have hj0 : j = 0 := by simp at hj; omega
    subst hj0
    exact cell_new _ _ _ _ _ rfl
set_option maxRecDepth 10000 in
theorem oAT2_16 (p : GP) (id k : Int) (X B0 : Nat) (Q : Exit → Act → World → Prop) (c : Act) (w : World) (hb : BaseAT2 p id k X B0 c) (hW : WorldAT2 p id k X B0 w) (hF : ∀ q0 ∈ ancAT2 16, factsAt (factsAT2 p id k X B0) q0 (val RAT2 c q0) w) :
    Does Tryz.prog RAT2 Q (factsAt (factsAT2 p id k X B0)) 16 c w := by
  have ho : RAT2[16]? = some ({ dst := some 37, op := Op.call { callee := Callee.builtin Builtin.append, args := #[Operand.tmp 33, Operand.tmp 36], argTypes := #[100, 100] }, type := 100, pos := "edit.go:127", after := #[{ on := 12, ground := Ground.data }, { on := 15, ground := Ground.data }], guard := none } : Oper) := by kernel_rfl
  have e33 : c.eval (.tmp 33) = .slice none 0 0 := fact_at (p := eqv (.slice none 0 0)) (by kernel_rfl) rfl (hF 12 (by decide))
  have f36 : (laid [id]) (c.eval (.tmp 36)) w := fact_at (by kernel_rfl) rfl (hF 15 (by decide))
  have hw : Region.wanted ({ dst := some 37, op := Op.call { callee := Callee.builtin Builtin.append, args := #[Operand.tmp 33, Operand.tmp 36], argTypes := #[100, 100] }, type := 100, pos := "edit.go:127", after := #[{ on := 12, ground := Ground.data }, { on := 15, ground := Ground.data }], guard := none } : Oper) (yielded RAT2 c.tmps) = true := want_none rfl
  have ec : ∀ v, c.eval (.const v) = v := fun _ => rfl
  have ef : ∀ f, c.eval (.func f) = .func (.func f) #[] #[] := fun _ => rfl
  obtain ⟨i0, hi, hz0, hz1, hz2⟩ := info_parts Tryz.info2
  obtain ⟨y, e36, hy, hyc⟩ := f36
  obtain ⟨v', w', hrun, hown, hgr, _, _⟩ := run_append_own_at (P := Tryz.prog) w B0 100 100 2 i0 (.int .i64 0) 1 8 Tryz.underlying100 hi hz0 hz1 hz2 rfl (by decide) (.slice none 0 0) 0 [] (World.ownsRow_nil _ _ _ _) ⟨y, 0, none⟩ 1 1 [.int .i64 id] rfl (fun j u hj => by
    have hj0 : j = 0 := by
      have := (List.getElem?_eq_some_iff.1 hj).1
      simp at this; omega
    subst hj0
    have : u = .int .i64 id := by simpa using hj.symm
    subst this
    have hadd : (⟨y, 0, none⟩ : Addr).add 0 = ⟨y, 0, none⟩ := by unfold Addr.add; split <;> simp_all
    rw [hadd]
    exact hyc 0 (by simp)) (by intro u hu; simp only [List.mem_cons, List.not_mem_nil, or_false] at hu; subst hu; rfl) (by unfold maxLen; omega) (by omega) hW.b0
  obtain ⟨ua, uc, rfl⟩ := row_slice hown
  refine does_value ho hw (v := .slice ua (0 + 1) uc) (w' := w') ?_ ⟨hown, ua, uc, rfl⟩ ((Below.refl _ w).grown hgr (Nat.le_refl _) (fun q h => by cases h))
  exact exec_append e33 e36 hrun
theorem stableAT2 (p : GP) (id k : Int) (X B0 : Nat) : ∀ pr ∈ factsAT2 p id k X B0, Stable pr := by
  unfold factsAT2
  refine List.forall_mem_cons.2 ⟨eqv_stable _, ?_⟩
  refine List.forall_mem_cons.2 ⟨eqv_stable _, ?_⟩
  refine List.forall_mem_cons.2 ⟨eqv_stable _, ?_⟩
  refine List.forall_mem_cons.2 ⟨eqv_stable _, ?_⟩
  refine List.forall_mem_cons.2 ⟨eqv_stable _, ?_⟩
  refine List.forall_mem_cons.2 ⟨eqv_stable _, ?_⟩
  refine List.forall_mem_cons.2 ⟨eqv_stable _, ?_⟩
  refine List.forall_mem_cons.2 ⟨eqv_stable _, ?_⟩
  refine List.forall_mem_cons.2 ⟨eqv_stable _, ?_⟩
  refine List.forall_mem_cons.2 ⟨eqv_stable _, ?_⟩
  refine List.forall_mem_cons.2 ⟨eqv_stable _, ?_⟩
  refine List.forall_mem_cons.2 ⟨eqv_stable _, ?_⟩
  refine List.forall_mem_cons.2 ⟨eqv_stable _, ?_⟩
  refine List.forall_mem_cons.2 ⟨eqv_stable _, ?_⟩
  refine List.forall_mem_cons.2 ⟨eqv_stable _, ?_⟩
  refine List.forall_mem_cons.2 ⟨laid_stable _, ?_⟩
  refine List.forall_mem_cons.2 ⟨fun v w w' ⟨h, h2⟩ hb => ⟨row_keep h fun g _ hg => hb.block g hg, h2⟩, ?_⟩
  exact List.forall_mem_nil _
set_option maxRecDepth 100000 in
theorem allAT2 (p : GP) (id k : Int) (X B0 : Nat) (Q : Exit → Act → World → Prop) : ∀ i, i < 17 → (fun i => ∀ c w, BaseAT2 p id k X B0 c → WorldAT2 p id k X B0 w → (∀ q0 ∈ ancAT2 i, factsAt (factsAT2 p id k X B0) q0 (val RAT2 c q0) w) → Does Tryz.prog RAT2 Q (factsAt (factsAT2 p id k X B0)) i c w) i := by
  refine below_succ ?_ (fun c w => oAT2_16 p id k X B0 Q c w)
  refine below_succ ?_ (fun c w => oAT2_15 p id k X B0 Q c w)
  refine below_succ ?_ (fun c w => oAT2_14 p id k X B0 Q c w)
  refine below_succ ?_ (fun c w => oAT2_13 p id k X B0 Q c w)
  refine below_succ ?_ (fun c w => oAT2_12 p id k X B0 Q c w)
  refine below_succ ?_ (fun c w => oAT2_11 p id k X B0 Q c w)
  refine below_succ ?_ (fun c w => oAT2_10 p id k X B0 Q c w)
  refine below_succ ?_ (fun c w => oAT2_9 p id k X B0 Q c w)
  refine below_succ ?_ (fun c w => oAT2_8 p id k X B0 Q c w)
  refine below_succ ?_ (fun c w => oAT2_7 p id k X B0 Q c w)
  refine below_succ ?_ (fun c w => oAT2_6 p id k X B0 Q c w)
  refine below_succ ?_ (fun c w => oAT2_5 p id k X B0 Q c w)
  refine below_succ ?_ (fun c w => oAT2_4 p id k X B0 Q c w)
  refine below_succ ?_ (fun c w => oAT2_3 p id k X B0 Q c w)
  refine below_succ ?_ (fun c w => oAT2_2 p id k X B0 Q c w)
  refine below_succ ?_ (fun c w => oAT2_1 p id k X B0 Q c w)
  refine below_succ ?_ (fun c w => oAT2_0 p id k X B0 Q c w)
  exact below_zero
theorem regionAT2 (p : GP) (id k : Int) (X B0 : Nat) (Q : Exit → Act → World → Prop) (base : Act) (w0 : World) (hsz : base.tmps.size = 38) (hb : BaseAT2 p id k X B0 base)
    (hW : ∀ w, Below w0.heap.size w0 w → WorldAT2 p id k X B0 w) (hL : ∀ c w, Same RAT2 base c → Below w0.heap.size w0 w → c.eval (.tmp 24) = .map (some p.t) → c.eval (.tmp 26) = .int .i64 k → (fun v w => w.ownsRow B0 2 1 v 1 [.int .i64 id] ∧ ∃ a c, v = .slice a 1 c) (c.eval (.tmp 37)) w → ∃ w', (execOp c.eval ({ dst := none, op := Op.mapUpdate 72 (Operand.tmp 24) (Operand.tmp 26) (Operand.tmp 37), type := 0, pos := "edit.go:127", after := #[{ on := 3, ground := Ground.data }, { on := 5, ground := Ground.data }, { on := 16, ground := Ground.data }, { on := 16, ground := Ground.chain }, { on := 0, ground := Ground.phase }, { on := 1, ground := Ground.phase }, { on := 2, ground := Ground.phase }, { on := 3, ground := Ground.phase }, { on := 4, ground := Ground.phase }, { on := 5, ground := Ground.phase }, { on := 6, ground := Ground.phase }, { on := 7, ground := Ground.phase }, { on := 8, ground := Ground.phase }, { on := 9, ground := Ground.phase }, { on := 10, ground := Ground.phase }, { on := 11, ground := Ground.phase }, { on := 12, ground := Ground.phase }, { on := 13, ground := Ground.phase }, { on := 14, ground := Ground.phase }, { on := 15, ground := Ground.phase }, { on := 16, ground := Ground.phase }], guard := none } : Oper)).run Tryz.prog w = .ok .skip w' ∧ Q .normal c w') : (Code.region 2 RAT2 true).wp Tryz.prog Q base w0 := by
  have hall : (List.range 17).all (fun i => (slotOf RAT2 i).isSome) = true := by kernel_rfl
  refine facts_last (A := ancAT2) (F := factsAt (factsAT2 p id k X B0)) 17 (by kernel_rfl) (by kernel_rfl) (by kernel_rfl) (by rw [hsz]; kernel_rfl) ?_ (by decide) (fun i v w w' => factsAt_stable (stableAT2 p id k X B0) i v w w') ?_ ?_
  · exact fun i hi => Option.isSome_iff_exists.1 (List.all_eq_true.1 hall i (List.mem_range.2 hi))
  · intro i hi c w hS hB hF
    exact allAT2 p id k X B0 Q i hi c w ⟨(same_eval hS (by kernel_rfl)).trans hb.t0, (same_eval hS (by kernel_rfl)).trans hb.t3⟩ (hW w hB) hF
  · intro c w hS hB hF
    obtain ⟨w', h1, h2⟩ := hL c w hS hB (fact_at (p := eqv (.map (some p.t))) (by kernel_rfl) rfl (hF 3 (by omega))) (fact_at (p := eqv (.int .i64 k)) (by kernel_rfl) rfl (hF 5 (by omega))) (fact_at (p := fun v w => w.ownsRow B0 2 1 v 1 [.int .i64 id] ∧ ∃ a c, v = .slice a 1 c) (by kernel_rfl) rfl (hF 16 (by omega)))
    exact last_skip (by kernel_rfl) (want_none rfl) h1 h2
end Go.Proofs.YteddjlbfbpecjaaGreatDoor
