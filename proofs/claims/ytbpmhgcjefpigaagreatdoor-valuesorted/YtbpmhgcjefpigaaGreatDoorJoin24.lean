/- A statement that reads, calls and lays rows of its own: operation by operation, in whatever order. Whatever order a region draws, where its last operation writes over what the region has read: facts about values, and the old value until then. -/
import Derived.Test.YtbpmhgcjefpigaaGreatDoorJoin19
import Derived.Test.YtbpmhgcjefpigaaGreatDoorJoin9
namespace Go.Proofs.YtbpmhgcjefpigaaGreatDoor
open Go.RowKit Go.WideShapes Go.Shelf
set_option linter.unusedVariables false
set_option linter.unusedSimpArgs false

noncomputable def RZ6f : Array Oper := regionAt Tryz.f48 6
def ancZ6f (i : Nat) : List Nat := ([[], [], [1], [0, 2], [3], [4], [4], [4, 5, 6], [4, 7], [4], [4], [4, 9, 10], [4, 11], [4, 8, 12], [4, 13], [4, 14]] : List (List Nat)).getD i []
def factsZ6f (ad : Option Addr) (n cap j bl off m lc ii : Nat) : List (Value → World → Prop) :=
  [eqv (.int .i64 (j : Int)), eqv (.slice ad n cap), eqv (.int .i64 (n : Int)), eqv (.bool false), eqv (.bool false), eqv undef, eqv undef, eqv undef, eqv undef, eqv undef, eqv undef, eqv undef, eqv undef, eqv undef, eqv undef, eqv (.bool false)]
structure BaseZ6f (ad : Option Addr) (n cap j bl off m lc ii : Nat) (c : Act) : Prop where
  t0 : c.eval (.tmp 0) = .slice (some ⟨bl, off, none⟩) m lc
  t3 : c.eval (.tmp 3) = .slice ad n cap
  t4 : c.eval (.tmp 4) = .int .i64 (ii : Int)
  t5 : c.eval (.tmp 5) = .int .i64 (j : Int)
structure WorldZ6f (ad : Option Addr) (n cap j bl off m lc ii : Nat) (w : World) : Prop where
  hj : ¬ j < n

set_option maxRecDepth 10000 in
theorem oZ6f_0 (ad : Option Addr) (n cap j bl off m lc ii : Nat) (Q : Exit → Act → World → Prop) (c : Act) (w : World) (hb : BaseZ6f ad n cap j bl off m lc ii c) (hW : WorldZ6f ad n cap j bl off m lc ii w) (hF : ∀ q0 ∈ ancZ6f 0, factsAt (factsZ6f ad n cap j bl off m lc ii) q0 (val RZ6f c q0) w) :
    Does Tryz.prog RZ6f Q (factsAt (factsZ6f ad n cap j bl off m lc ii)) 0 c w := by
  have ho : RZ6f[0]? = some ({ dst := some 13, op := Op.move (Operand.tmp 5), type := 3, pos := "ref.go:364", after := #[], guard := none } : Oper) := by kernel_rfl
  have e5 := hb.t5
  have hw : Region.wanted ({ dst := some 13, op := Op.move (Operand.tmp 5), type := 3, pos := "ref.go:364", after := #[], guard := none } : Oper) (yielded RZ6f c.tmps) = true := want_none rfl
  have ec : ∀ v, c.eval (.const v) = v := fun _ => rfl
  have ef : ∀ f, c.eval (.func f) = .func (.func f) #[] #[] := fun _ => rfl
  refine does_value ho hw (v := .int .i64 (j : Int)) ?_ rfl (Below.refl _ _)
  generalize c.eval = ρ at *
  clear hF hb hW hw ho
  go_simp

set_option maxRecDepth 10000 in
theorem oZ6f_1 (ad : Option Addr) (n cap j bl off m lc ii : Nat) (Q : Exit → Act → World → Prop) (c : Act) (w : World) (hb : BaseZ6f ad n cap j bl off m lc ii c) (hW : WorldZ6f ad n cap j bl off m lc ii w) (hF : ∀ q0 ∈ ancZ6f 1, factsAt (factsZ6f ad n cap j bl off m lc ii) q0 (val RZ6f c q0) w) :
    Does Tryz.prog RZ6f Q (factsAt (factsZ6f ad n cap j bl off m lc ii)) 1 c w := by
  have ho : RZ6f[1]? = some ({ dst := some 14, op := Op.move (Operand.tmp 3), type := 24, pos := "ref.go:364", after := #[], guard := none } : Oper) := by kernel_rfl
  have e3 := hb.t3
  have hw : Region.wanted ({ dst := some 14, op := Op.move (Operand.tmp 3), type := 24, pos := "ref.go:364", after := #[], guard := none } : Oper) (yielded RZ6f c.tmps) = true := want_none rfl
  have ec : ∀ v, c.eval (.const v) = v := fun _ => rfl
  have ef : ∀ f, c.eval (.func f) = .func (.func f) #[] #[] := fun _ => rfl
  refine does_value ho hw (v := .slice ad n cap) ?_ rfl (Below.refl _ _)
  generalize c.eval = ρ at *
  clear hF hb hW hw ho
  go_simp

set_option maxRecDepth 10000 in
theorem oZ6f_2 (ad : Option Addr) (n cap j bl off m lc ii : Nat) (Q : Exit → Act → World → Prop) (c : Act) (w : World) (hb : BaseZ6f ad n cap j bl off m lc ii c) (hW : WorldZ6f ad n cap j bl off m lc ii w) (hF : ∀ q0 ∈ ancZ6f 2, factsAt (factsZ6f ad n cap j bl off m lc ii) q0 (val RZ6f c q0) w) :
    Does Tryz.prog RZ6f Q (factsAt (factsZ6f ad n cap j bl off m lc ii)) 2 c w := by
  have ho : RZ6f[2]? = some ({ dst := some 15, op := Op.call { callee := Callee.builtin Builtin.len, args := #[Operand.tmp 14], argTypes := #[24] }, type := 3, pos := "ref.go:364", after := #[{ on := 1, ground := Ground.data }], guard := none } : Oper) := by kernel_rfl
  have e14 : c.eval (.tmp 14) = .slice ad n cap := fact_at (p := eqv (.slice ad n cap)) (by kernel_rfl) rfl (hF 1 (by decide))
  have hw : Region.wanted ({ dst := some 15, op := Op.call { callee := Callee.builtin Builtin.len, args := #[Operand.tmp 14], argTypes := #[24] }, type := 3, pos := "ref.go:364", after := #[{ on := 1, ground := Ground.data }], guard := none } : Oper) (yielded RZ6f c.tmps) = true := want_none rfl
  have ec : ∀ v, c.eval (.const v) = v := fun _ => rfl
  have ef : ∀ f, c.eval (.func f) = .func (.func f) #[] #[] := fun _ => rfl
  refine does_value ho hw (v := .int .i64 (n : Int)) ?_ rfl (Below.refl _ _)
  generalize c.eval = ρ at *
  clear hF hb hW hw ho
  go_simp

set_option maxRecDepth 10000 in
theorem oZ6f_3 (ad : Option Addr) (n cap j bl off m lc ii : Nat) (Q : Exit → Act → World → Prop) (c : Act) (w : World) (hb : BaseZ6f ad n cap j bl off m lc ii c) (hW : WorldZ6f ad n cap j bl off m lc ii w) (hF : ∀ q0 ∈ ancZ6f 3, factsAt (factsZ6f ad n cap j bl off m lc ii) q0 (val RZ6f c q0) w) :
    Does Tryz.prog RZ6f Q (factsAt (factsZ6f ad n cap j bl off m lc ii)) 3 c w := by
  have ho : RZ6f[3]? = some ({ dst := some 16, op := Op.binOp BinOp.lss 3 (Operand.tmp 13) (Operand.tmp 15) 3, type := 4, pos := "ref.go:364", after := #[{ on := 0, ground := Ground.data }, { on := 2, ground := Ground.data }], guard := none } : Oper) := by kernel_rfl
  have e13 : c.eval (.tmp 13) = .int .i64 (j : Int) := fact_at (p := eqv (.int .i64 (j : Int))) (by kernel_rfl) rfl (hF 0 (by decide))
  have e15 : c.eval (.tmp 15) = .int .i64 (n : Int) := fact_at (p := eqv (.int .i64 (n : Int))) (by kernel_rfl) rfl (hF 2 (by decide))
  have hw : Region.wanted ({ dst := some 16, op := Op.binOp BinOp.lss 3 (Operand.tmp 13) (Operand.tmp 15) 3, type := 4, pos := "ref.go:364", after := #[{ on := 0, ground := Ground.data }, { on := 2, ground := Ground.data }], guard := none } : Oper) (yielded RZ6f c.tmps) = true := want_none rfl
  have ec : ∀ v, c.eval (.const v) = v := fun _ => rfl
  have ef : ∀ f, c.eval (.func f) = .func (.func f) #[] #[] := fun _ => rfl
  have hj := hW.hj
  refine does_value ho hw (v := .bool false) ?_ rfl (Below.refl _ _)
  generalize c.eval = ρ at *
  clear hF hb hW hw ho
  go_simp

set_option maxRecDepth 10000 in
theorem oZ6f_4 (ad : Option Addr) (n cap j bl off m lc ii : Nat) (Q : Exit → Act → World → Prop) (c : Act) (w : World) (hb : BaseZ6f ad n cap j bl off m lc ii c) (hW : WorldZ6f ad n cap j bl off m lc ii w) (hF : ∀ q0 ∈ ancZ6f 4, factsAt (factsZ6f ad n cap j bl off m lc ii) q0 (val RZ6f c q0) w) :
    Does Tryz.prog RZ6f Q (factsAt (factsZ6f ad n cap j bl off m lc ii)) 4 c w := by
  have ho : RZ6f[4]? = some ({ dst := some 17, op := Op.move (Operand.tmp 16), type := 4, pos := "ref.go:364", after := #[{ on := 3, ground := Ground.data }], guard := none } : Oper) := by kernel_rfl
  have e16 : c.eval (.tmp 16) = .bool false := fact_at (p := eqv (.bool false)) (by kernel_rfl) rfl (hF 3 (by decide))
  have hw : Region.wanted ({ dst := some 17, op := Op.move (Operand.tmp 16), type := 4, pos := "ref.go:364", after := #[{ on := 3, ground := Ground.data }], guard := none } : Oper) (yielded RZ6f c.tmps) = true := want_none rfl
  have ec : ∀ v, c.eval (.const v) = v := fun _ => rfl
  have ef : ∀ f, c.eval (.func f) = .func (.func f) #[] #[] := fun _ => rfl
  refine does_value ho hw (v := .bool false) ?_ rfl (Below.refl _ _)
  generalize c.eval = ρ at *
  clear hF hb hW hw ho
  go_simp

set_option maxRecDepth 10000 in
theorem oZ6f_5 (ad : Option Addr) (n cap j bl off m lc ii : Nat) (Q : Exit → Act → World → Prop) (c : Act) (w : World) (hb : BaseZ6f ad n cap j bl off m lc ii c) (hW : WorldZ6f ad n cap j bl off m lc ii w) (hF : ∀ q0 ∈ ancZ6f 5, factsAt (factsZ6f ad n cap j bl off m lc ii) q0 (val RZ6f c q0) w) :
    Does Tryz.prog RZ6f Q (factsAt (factsZ6f ad n cap j bl off m lc ii)) 5 c w := by
  have ho : RZ6f[5]? = some ({ dst := some 18, op := Op.move (Operand.tmp 3), type := 24, pos := "ref.go:364", after := #[{ on := 4, ground := Ground.guard }], guard := some (4, true) } : Oper) := by kernel_rfl
  have hg : val RZ6f c 4 = .bool false := hF 4 (by decide)
  refine does_not ho ((want_val rfl hg).trans rfl) rfl

set_option maxRecDepth 10000 in
theorem oZ6f_6 (ad : Option Addr) (n cap j bl off m lc ii : Nat) (Q : Exit → Act → World → Prop) (c : Act) (w : World) (hb : BaseZ6f ad n cap j bl off m lc ii c) (hW : WorldZ6f ad n cap j bl off m lc ii w) (hF : ∀ q0 ∈ ancZ6f 6, factsAt (factsZ6f ad n cap j bl off m lc ii) q0 (val RZ6f c q0) w) :
    Does Tryz.prog RZ6f Q (factsAt (factsZ6f ad n cap j bl off m lc ii)) 6 c w := by
  have ho : RZ6f[6]? = some ({ dst := some 19, op := Op.move (Operand.tmp 5), type := 3, pos := "ref.go:364", after := #[{ on := 4, ground := Ground.guard }], guard := some (4, true) } : Oper) := by kernel_rfl
  have hg : val RZ6f c 4 = .bool false := hF 4 (by decide)
  refine does_not ho ((want_val rfl hg).trans rfl) rfl

set_option maxRecDepth 10000 in
theorem oZ6f_7 (ad : Option Addr) (n cap j bl off m lc ii : Nat) (Q : Exit → Act → World → Prop) (c : Act) (w : World) (hb : BaseZ6f ad n cap j bl off m lc ii c) (hW : WorldZ6f ad n cap j bl off m lc ii w) (hF : ∀ q0 ∈ ancZ6f 7, factsAt (factsZ6f ad n cap j bl off m lc ii) q0 (val RZ6f c q0) w) :
    Does Tryz.prog RZ6f Q (factsAt (factsZ6f ad n cap j bl off m lc ii)) 7 c w := by
  have ho : RZ6f[7]? = some ({ dst := some 20, op := Op.indexAddr 24 (Operand.tmp 18) (Operand.tmp 19), type := 0, pos := "ref.go:364", after := #[{ on := 5, ground := Ground.data }, { on := 6, ground := Ground.data }, { on := 4, ground := Ground.guard }], guard := some (4, true) } : Oper) := by kernel_rfl
  have hg : val RZ6f c 4 = .bool false := hF 4 (by decide)
  refine does_not ho ((want_val rfl hg).trans rfl) rfl

set_option maxRecDepth 10000 in
theorem oZ6f_8 (ad : Option Addr) (n cap j bl off m lc ii : Nat) (Q : Exit → Act → World → Prop) (c : Act) (w : World) (hb : BaseZ6f ad n cap j bl off m lc ii c) (hW : WorldZ6f ad n cap j bl off m lc ii w) (hF : ∀ q0 ∈ ancZ6f 8, factsAt (factsZ6f ad n cap j bl off m lc ii) q0 (val RZ6f c q0) w) :
    Does Tryz.prog RZ6f Q (factsAt (factsZ6f ad n cap j bl off m lc ii)) 8 c w := by
  have ho : RZ6f[8]? = some ({ dst := some 21, op := Op.load 26 (Operand.tmp 20), type := 26, pos := "ref.go:364", after := #[{ on := 7, ground := Ground.data }, { on := 4, ground := Ground.guard }], guard := some (4, true) } : Oper) := by kernel_rfl
  have hg : val RZ6f c 4 = .bool false := hF 4 (by decide)
  refine does_not ho ((want_val rfl hg).trans rfl) rfl

set_option maxRecDepth 10000 in
theorem oZ6f_9 (ad : Option Addr) (n cap j bl off m lc ii : Nat) (Q : Exit → Act → World → Prop) (c : Act) (w : World) (hb : BaseZ6f ad n cap j bl off m lc ii c) (hW : WorldZ6f ad n cap j bl off m lc ii w) (hF : ∀ q0 ∈ ancZ6f 9, factsAt (factsZ6f ad n cap j bl off m lc ii) q0 (val RZ6f c q0) w) :
    Does Tryz.prog RZ6f Q (factsAt (factsZ6f ad n cap j bl off m lc ii)) 9 c w := by
  have ho : RZ6f[9]? = some ({ dst := some 22, op := Op.move (Operand.tmp 0), type := 24, pos := "ref.go:364", after := #[{ on := 4, ground := Ground.guard }], guard := some (4, true) } : Oper) := by kernel_rfl
  have hg : val RZ6f c 4 = .bool false := hF 4 (by decide)
  refine does_not ho ((want_val rfl hg).trans rfl) rfl

set_option maxRecDepth 10000 in
theorem oZ6f_10 (ad : Option Addr) (n cap j bl off m lc ii : Nat) (Q : Exit → Act → World → Prop) (c : Act) (w : World) (hb : BaseZ6f ad n cap j bl off m lc ii c) (hW : WorldZ6f ad n cap j bl off m lc ii w) (hF : ∀ q0 ∈ ancZ6f 10, factsAt (factsZ6f ad n cap j bl off m lc ii) q0 (val RZ6f c q0) w) :
    Does Tryz.prog RZ6f Q (factsAt (factsZ6f ad n cap j bl off m lc ii)) 10 c w := by
  have ho : RZ6f[10]? = some ({ dst := some 23, op := Op.move (Operand.tmp 4), type := 3, pos := "ref.go:364", after := #[{ on := 4, ground := Ground.guard }], guard := some (4, true) } : Oper) := by kernel_rfl
  have hg : val RZ6f c 4 = .bool false := hF 4 (by decide)
  refine does_not ho ((want_val rfl hg).trans rfl) rfl

set_option maxRecDepth 10000 in
theorem oZ6f_11 (ad : Option Addr) (n cap j bl off m lc ii : Nat) (Q : Exit → Act → World → Prop) (c : Act) (w : World) (hb : BaseZ6f ad n cap j bl off m lc ii c) (hW : WorldZ6f ad n cap j bl off m lc ii w) (hF : ∀ q0 ∈ ancZ6f 11, factsAt (factsZ6f ad n cap j bl off m lc ii) q0 (val RZ6f c q0) w) :
    Does Tryz.prog RZ6f Q (factsAt (factsZ6f ad n cap j bl off m lc ii)) 11 c w := by
  have ho : RZ6f[11]? = some ({ dst := some 24, op := Op.indexAddr 24 (Operand.tmp 22) (Operand.tmp 23), type := 0, pos := "ref.go:364", after := #[{ on := 9, ground := Ground.data }, { on := 10, ground := Ground.data }, { on := 4, ground := Ground.guard }], guard := some (4, true) } : Oper) := by kernel_rfl
  have hg : val RZ6f c 4 = .bool false := hF 4 (by decide)
  refine does_not ho ((want_val rfl hg).trans rfl) rfl

set_option maxRecDepth 10000 in
theorem oZ6f_12 (ad : Option Addr) (n cap j bl off m lc ii : Nat) (Q : Exit → Act → World → Prop) (c : Act) (w : World) (hb : BaseZ6f ad n cap j bl off m lc ii c) (hW : WorldZ6f ad n cap j bl off m lc ii w) (hF : ∀ q0 ∈ ancZ6f 12, factsAt (factsZ6f ad n cap j bl off m lc ii) q0 (val RZ6f c q0) w) :
    Does Tryz.prog RZ6f Q (factsAt (factsZ6f ad n cap j bl off m lc ii)) 12 c w := by
  have ho : RZ6f[12]? = some ({ dst := some 25, op := Op.load 26 (Operand.tmp 24), type := 26, pos := "ref.go:364", after := #[{ on := 11, ground := Ground.data }, { on := 4, ground := Ground.guard }], guard := some (4, true) } : Oper) := by kernel_rfl
  have hg : val RZ6f c 4 = .bool false := hF 4 (by decide)
  refine does_not ho ((want_val rfl hg).trans rfl) rfl

set_option maxRecDepth 10000 in
theorem oZ6f_13 (ad : Option Addr) (n cap j bl off m lc ii : Nat) (Q : Exit → Act → World → Prop) (c : Act) (w : World) (hb : BaseZ6f ad n cap j bl off m lc ii c) (hW : WorldZ6f ad n cap j bl off m lc ii w) (hF : ∀ q0 ∈ ancZ6f 13, factsAt (factsZ6f ad n cap j bl off m lc ii) q0 (val RZ6f c q0) w) :
    Does Tryz.prog RZ6f Q (factsAt (factsZ6f ad n cap j bl off m lc ii)) 13 c w := by
  have ho : RZ6f[13]? = some ({ dst := some 26, op := Op.call { callee := Callee.value (Operand.func 30), args := #[Operand.tmp 21, Operand.tmp 25], argTypes := #[26, 26] }, type := 3, pos := "ref.go:364", after := #[{ on := 8, ground := Ground.data }, { on := 12, ground := Ground.data }, { on := 4, ground := Ground.chain }, { on := 4, ground := Ground.guard }], guard := some (4, true) } : Oper) := by kernel_rfl
  have hg : val RZ6f c 4 = .bool false := hF 4 (by decide)
  refine does_not ho ((want_val rfl hg).trans rfl) rfl

set_option maxRecDepth 10000 in
theorem oZ6f_14 (ad : Option Addr) (n cap j bl off m lc ii : Nat) (Q : Exit → Act → World → Prop) (c : Act) (w : World) (hb : BaseZ6f ad n cap j bl off m lc ii c) (hW : WorldZ6f ad n cap j bl off m lc ii w) (hF : ∀ q0 ∈ ancZ6f 14, factsAt (factsZ6f ad n cap j bl off m lc ii) q0 (val RZ6f c q0) w) :
    Does Tryz.prog RZ6f Q (factsAt (factsZ6f ad n cap j bl off m lc ii)) 14 c w := by
  have ho : RZ6f[14]? = some ({ dst := some 27, op := Op.binOp BinOp.leq 3 (Operand.tmp 26) (Operand.const (Value.int IntKind.i64 0)) 3, type := 4, pos := "ref.go:364", after := #[{ on := 13, ground := Ground.data }, { on := 4, ground := Ground.guard }], guard := some (4, true) } : Oper) := by kernel_rfl
  have hg : val RZ6f c 4 = .bool false := hF 4 (by decide)
  refine does_not ho ((want_val rfl hg).trans rfl) rfl

set_option maxRecDepth 10000 in
theorem oZ6f_15 (ad : Option Addr) (n cap j bl off m lc ii : Nat) (Q : Exit → Act → World → Prop) (c : Act) (w : World) (hb : BaseZ6f ad n cap j bl off m lc ii c) (hW : WorldZ6f ad n cap j bl off m lc ii w) (hF : ∀ q0 ∈ ancZ6f 15, factsAt (factsZ6f ad n cap j bl off m lc ii) q0 (val RZ6f c q0) w) :
    Does Tryz.prog RZ6f Q (factsAt (factsZ6f ad n cap j bl off m lc ii)) 15 c w := by
  have ho : RZ6f[15]? = some ({ dst := some 28, op := Op.pick (Operand.tmp 17) (Operand.tmp 27) (Operand.const (Value.bool false)), type := 4, pos := "ref.go:364", after := #[{ on := 4, ground := Ground.data }, { on := 14, ground := Ground.data }], guard := none } : Oper) := by kernel_rfl
  have e17 : c.eval (.tmp 17) = .bool false := fact_at (p := eqv (.bool false)) (by kernel_rfl) rfl (hF 4 (by decide))
  have e27 : c.eval (.tmp 27) = undef := fact_at (p := eqv undef) (by kernel_rfl) rfl (hF 14 (by decide))
  have hw : Region.wanted ({ dst := some 28, op := Op.pick (Operand.tmp 17) (Operand.tmp 27) (Operand.const (Value.bool false)), type := 4, pos := "ref.go:364", after := #[{ on := 4, ground := Ground.data }, { on := 14, ground := Ground.data }], guard := none } : Oper) (yielded RZ6f c.tmps) = true := want_none rfl
  have ec : ∀ v, c.eval (.const v) = v := fun _ => rfl
  have ef : ∀ f, c.eval (.func f) = .func (.func f) #[] #[] := fun _ => rfl
  refine does_value ho hw (v := .bool false) ?_ rfl (Below.refl _ _)
  generalize c.eval = ρ at *
  clear hF hb hW hw ho
  go_simp

theorem stableZ6f (ad : Option Addr) (n cap j bl off m lc ii : Nat) : ∀ pr ∈ factsZ6f ad n cap j bl off m lc ii, Stable pr := by
  unfold factsZ6f
  refine List.forall_mem_cons.2 ⟨eqv_stable _, ?_⟩
  refine List.forall_mem_cons.2 ⟨eqv_stable _, ?_⟩
  refine List.forall_mem_cons.2 ⟨eqv_stable _, ?_⟩
  refine List.forall_mem_cons.2 ⟨eqv_stable _, ?_⟩
  refine List.forall_mem_cons.2 ⟨eqv_stable _, ?_⟩
  refine List.forall_mem_cons.2 ⟨eqv_stable _, ?_⟩
  refine List.forall_mem_cons.2 ⟨eqv_stable _, ?_⟩
  refine List.forall_mem_cons.2 ⟨eqv_stable _, ?_⟩
  refine List.forall_mem_cons.2 ⟨eqv_stable _, ?_⟩
  refine List.forall_mem_cons.2 ⟨eqv_stable _, ?_⟩
  refine List.forall_mem_cons.2 ⟨eqv_stable _, ?_⟩
  refine List.forall_mem_cons.2 ⟨eqv_stable _, ?_⟩
  refine List.forall_mem_cons.2 ⟨eqv_stable _, ?_⟩
  refine List.forall_mem_cons.2 ⟨eqv_stable _, ?_⟩
  refine List.forall_mem_cons.2 ⟨eqv_stable _, ?_⟩
  refine List.forall_mem_cons.2 ⟨eqv_stable _, ?_⟩
  exact List.forall_mem_nil _

set_option maxRecDepth 100000 in
theorem allZ6f (ad : Option Addr) (n cap j bl off m lc ii : Nat) (Q : Exit → Act → World → Prop) : ∀ i, i < 16 → (fun i => ∀ c w, BaseZ6f ad n cap j bl off m lc ii c → WorldZ6f ad n cap j bl off m lc ii w → (∀ q0 ∈ ancZ6f i, factsAt (factsZ6f ad n cap j bl off m lc ii) q0 (val RZ6f c q0) w) → Does Tryz.prog RZ6f Q (factsAt (factsZ6f ad n cap j bl off m lc ii)) i c w) i := by
  refine below_succ ?_ (fun c w => oZ6f_15 ad n cap j bl off m lc ii Q c w)
  refine below_succ ?_ (fun c w => oZ6f_14 ad n cap j bl off m lc ii Q c w)
  refine below_succ ?_ (fun c w => oZ6f_13 ad n cap j bl off m lc ii Q c w)
  refine below_succ ?_ (fun c w => oZ6f_12 ad n cap j bl off m lc ii Q c w)
  refine below_succ ?_ (fun c w => oZ6f_11 ad n cap j bl off m lc ii Q c w)
  refine below_succ ?_ (fun c w => oZ6f_10 ad n cap j bl off m lc ii Q c w)
  refine below_succ ?_ (fun c w => oZ6f_9 ad n cap j bl off m lc ii Q c w)
  refine below_succ ?_ (fun c w => oZ6f_8 ad n cap j bl off m lc ii Q c w)
  refine below_succ ?_ (fun c w => oZ6f_7 ad n cap j bl off m lc ii Q c w)
  refine below_succ ?_ (fun c w => oZ6f_6 ad n cap j bl off m lc ii Q c w)
  refine below_succ ?_ (fun c w => oZ6f_5 ad n cap j bl off m lc ii Q c w)
  refine below_succ ?_ (fun c w => oZ6f_4 ad n cap j bl off m lc ii Q c w)
  refine below_succ ?_ (fun c w => oZ6f_3 ad n cap j bl off m lc ii Q c w)
  refine below_succ ?_ (fun c w => oZ6f_2 ad n cap j bl off m lc ii Q c w)
  refine below_succ ?_ (fun c w => oZ6f_1 ad n cap j bl off m lc ii Q c w)
  refine below_succ ?_ (fun c w => oZ6f_0 ad n cap j bl off m lc ii Q c w)
  exact below_zero

theorem regionZ6f (ad : Option Addr) (n cap j bl off m lc ii : Nat) (Q : Exit → Act → World → Prop) (base : Act) (w0 : World) (hsz : base.tmps.size = 48) (hb : BaseZ6f ad n cap j bl off m lc ii base)
    (hW : ∀ w, Below w0.heap.size w0 w → WorldZ6f ad n cap j bl off m lc ii w) (hQ : ∀ c w, Same RZ6f base c → Below w0.heap.size w0 w → c.eval (.tmp 28) = .bool false → Q .normal c w) : (Code.region 6 RZ6f true).wp Tryz.prog Q base w0 := by
  refine facts_rule (A := ancZ6f) (F := factsAt (factsZ6f ad n cap j bl off m lc ii)) (by kernel_rfl) (by rw [hsz]; kernel_rfl) (fun i v w w' => factsAt_stable (stableZ6f ad n cap j bl off m lc ii) i v w w') ?_ ?_
  · intro i hi c w hS hB hF
    exact allZ6f ad n cap j bl off m lc ii Q i (by rwa [show RZ6f.size = 16 by kernel_rfl] at hi) c w ⟨(same_eval hS (by kernel_rfl)).trans hb.t0, (same_eval hS (by kernel_rfl)).trans hb.t3, (same_eval hS (by kernel_rfl)).trans hb.t4, (same_eval hS (by kernel_rfl)).trans hb.t5⟩ (hW w hB) hF
  · intro c w hS hB hF
    exact hQ c w hS hB (fact_at (p := eqv (.bool false)) (by kernel_rfl) rfl (hF 15 (by rw [show RZ6f.size = 16 by kernel_rfl]; omega)))
end Go.Proofs.YtbpmhgcjefpigaaGreatDoor

namespace Go.Proofs.YtbpmhgcjefpigaaGreatDoor
open Go.RowKit
set_option linter.unusedVariables false
variable {P : Program} {ops : Array Oper} {Q : Exit → Act → World → Prop}

theorem facts_ruleK {A : Nat → List Nat} {F : Nat → Value → World → Prop} {base : Act} {w0 : World} {id : Nat} (k : Nat) (old : Value) (hold : val ops base k = old)
    (hm : P.follows .mixedOrders = true) (hok : writesOk ops base.tmps.size A = true) (hdst : ∀ i, i < ops.size → ∃ d, slotOf ops i = some d)
    (hmono : ∀ i v w w', F i v w → Below w.heap.size w w' → F i v w')
    (hop : ∀ i, i < ops.size → ∀ a w, Same ops base a → Below w0.heap.size w0 w → (i ∈ A k ∨ i = k → val ops a k = old) → (∀ j ∈ A i, F j (val ops a j) w) → Does P ops Q F i a w)
    (hend : ∀ a w, Same ops base a → Below w0.heap.size w0 w → (∀ i, i < ops.size → F i (val ops a i) w) → Q .normal a w) :
    (Code.region id ops true).wp P Q base w0 := by
  refine writes_rule (A := A) (G := fun _ _ => True) (S := fun l vs w => Below w0.heap.size w0 w ∧ (∀ i, l i = true → i < ops.size → F i (vs i) w) ∧ (l k = false → vs k = old)) hm hok ⟨(Below.refl _ _).drew, fun i h => (by cases h), fun _ => hold⟩ ?_ ?_
  · rintro i hi l a w hS hli hcl hA ⟨hB, hF, hK⟩
    have hlt : ∀ j ∈ A i, j < ops.size := by
      obtain ⟨o, ho, hs, hdn, hlt, _, hAA⟩ := laid_of hok i hi
      have key : ∀ n i, i < n → i < ops.size → ∀ j ∈ A i, j < ops.size := by
        intro n
        induction n with
        | zero => intro i h; omega
        | succ n ih =>
          intro i h hi j hj
          obtain ⟨o, _, _, _, hlt, _, hAA⟩ := laid_of hok i hi
          obtain ⟨e, he, hb, hor⟩ := hAA j hj
          have h1 := hlt e he hb
          rcases hor with rfl | h2
          · omega
          · exact ih e.on (by omega) (by omega) j h2
      exact key (i + 1) i (by omega) hi
    have hold' : i ∈ A k ∨ i = k → val ops a k = old := fun hik => hK (by
      cases h : l k with
      | false => rfl
      | true =>
        rcases hik with hik | hik
        · have := hcl k h i hik; rw [hli] at this; cases this
        · rw [hik, h] at hli; cases hli)
    refine wpOp_mono ?_ (hop i hi a w hS hB hold' (fun j hj => hF j (hA j hj).1 (hlt j hj)))
    rintro a' w' ⟨v, rfl, hFi, hb⟩
    obtain ⟨d, hd⟩ := hdst i hi
    obtain ⟨o, ho, hs, hdn, _, _, _⟩ := laid_of hok i hi
    have hsz : d < a.tmps.size := by rw [hS.2.1]; exact hdn d (hs ▸ hd)
    have hv := val_put ho (hs ▸ hd : o.dst = some d) hsz v
    refine ⟨v, rfl, trivial, hB.trans (hb.mono hB.size), fun j hj hjs => ?_, fun hk => ?_⟩
    · by_cases e : j = i
      · subst e; rw [upd_same, hv]; exact hFi
      · rw [upd_other _ _ e] at hj ⊢
        exact hmono _ _ _ _ (hF j hj hjs) hb
    · by_cases e : k = i
      · subst e; rw [upd_same] at hk; cases hk
      · rw [upd_other _ _ e] at hk ⊢
        exact hK hk
  · rintro l a w hS hall ⟨hB, hF, hK⟩
    exact hend a w hS hB fun i hi => hF i (hall i hi).1 hi
end Go.Proofs.YtbpmhgcjefpigaaGreatDoor

