/- The last statement of works: operation by operation, in whatever order. -/
import Derived.Test.YtbpmhgcjefpigaaGreatDoorJoin17
import Derived.Test.YtbpmhgcjefpigaaGreatDoorJoin9
namespace Go.Proofs.YtbpmhgcjefpigaaGreatDoor
open Go.RowKit Go.WideShapes Go.Shelf
set_option linter.unusedVariables false
set_option linter.unusedSimpArgs false
theorem comp_map : compN mapT (.mk 3 false 0 ⟨#[97]⟩ [] []) = -1 := by kernel_rfl
theorem equal_map : equalN mapT mapT = 1 := by kernel_rfl
theorem less_one : lessN (leafT 2 false 1) (leafT 2 false 2) = 2 := by kernel_rfl
theorem same_map : sameB mapT mapT = true := by kernel_rfl
theorem modest_a : Modest (.mk 3 false 0 ⟨#[97]⟩ [] []) := by constructor <;> decide
theorem modest_leaf1 : Modest (leafT 2 false 1) := by constructor <;> decide
theorem modest_leaf2 : Modest (leafT 2 false 2) := by constructor <;> decide
theorem textA_lies (B : Nat) (w : World) : Lies B w (leaf 3 false 0 ⟨#[97]⟩) (.mk 3 false 0 ⟨#[97]⟩ [] []) := by
  unfold leaf
  simp only [Lies]
  exact ⟨none, 0, none, 0, rfl, ⟨by show 1 ≤ _; unfold maxLen; omega, by simp, by unfold maxLen; omega, by simp, by unfold maxLen; omega⟩, .inl rfl, .inl trivial⟩
theorem num_any (n : Int) (w : World) : Calls Tryz.prog 22 #[.int .i64 n] w fun e w' => e = .returned (.int .i64 n) ∧ Below w.heap.size w w' := by
  go_enter Tryz.func22, Tryz.ntmps22
  go_wp2_with fail
  go_ret
  exact ⟨rfl, Below.refl _ _⟩
/-- A copy of the example. -/
def liesM : Value → World → Prop := fun v w => Lies w.heap.size w v mapT
theorem liesM_stable : Stable liesM := fun v w w' h hb => (Lies.below hb h).mono hb.size
noncomputable def RW4 : Array Oper := regionAt Tryz.f16 4
def ancW4 (i : Nat) : List Nat := ([[], [0], [], [2], [1, 3], [4], [5], [6], [6, 7], [6, 8], [9], [10], [10, 11], [10, 12], [10, 13], [14], [15], [15], [15, 16, 17], [15, 18], [15, 19], [20], [21], [21], [21, 22, 23], [21, 24], [21, 25], [26], [27], [27], [27, 28, 29], [27, 30], [27, 31], [32], [33], [33], [33, 35], [33, 34, 36], [33, 37], [38]] : List (List Nat)).getD i []
def factsW4 (q D mkc mlc : Nat) (mka mla : Option Addr) : List (Value → World → Prop) :=
  [eqv (.int .i64 0), eqv (.int .i64 0), eqv (.int .i64 0), eqv (.int .i64 0), eqv (.int .i64 0), eqv (.bool true), eqv (.bool true), eqv (.string ⟨#[123, 96, 97, 32, 98, 96, 58, 32, 91, 110, 117, 108, 108, 44, 32, 116, 114, 117, 101, 93, 44, 32, 98, 58, 32, 50, 125]⟩), eqv (.bool true), eqv (.bool true), eqv (.bool true), eqv (.int .i64 2), eqv (.int .i64 2), eqv (.bool true), eqv (.bool true), eqv (.bool true), eqv (.agg #[.int .i64 5, .bool false, .int .i64 0, .string ⟨#[]⟩, .slice mka 2 mkc, .slice mla 2 mlc]), eqv (leaf 3 false 0 ⟨#[97]⟩), eqv (.int .i64 (-1)), eqv (.bool true), eqv (.bool true), eqv (.bool true), eqv (.agg #[.int .i64 5, .bool false, .int .i64 0, .string ⟨#[]⟩, .slice mka 2 mkc, .slice mla 2 mlc]), eqv (.agg #[.int .i64 5, .bool false, .int .i64 0, .string ⟨#[]⟩, .slice mka 2 mkc, .slice mla 2 mlc]), eqv (.int .i64 1), eqv (.bool true), eqv (.bool true), eqv (.bool true), eqv (leaf 2 false 1 ⟨#[]⟩), eqv (leaf 2 false 2 ⟨#[]⟩), eqv (.int .i64 2), eqv (.bool true), eqv (.bool true), eqv (.bool true), eqv (.agg #[.int .i64 5, .bool false, .int .i64 0, .string ⟨#[]⟩, .slice mka 2 mkc, .slice mla 2 mlc]), eqv (.agg #[.int .i64 5, .bool false, .int .i64 0, .string ⟨#[]⟩, .slice mka 2 mkc, .slice mla 2 mlc]), liesM, eqv (.bool true), eqv (.bool true), eqv (.bool true)]
structure BaseW4 (q D mkc mlc : Nat) (mka mla : Option Addr) (c : Act) : Prop where
  t1 : c.eval (.tmp 1) = .pointer (some ⟨q, 0, none⟩)
  t2 : c.eval (.tmp 2) = .int .i64 0
  t3 : c.eval (.tmp 3) = .string ⟨#[123, 96, 97, 32, 98, 96, 58, 32, 91, 110, 117, 108, 108, 44, 32, 116, 114, 117, 101, 93, 44, 32, 98, 58, 32, 50, 125]⟩
  t4 : c.eval (.tmp 4) = .int .i64 0
  t6 : c.eval (.tmp 6) = .int .i64 2
structure WorldW4 (q D mkc mlc : Nat) (mka mla : Option Addr) (w : World) : Prop where
  y0 : w.cell? ⟨q, 0, none⟩ = some (.int .i64 5)
  y1 : w.cell? ⟨q, 1, none⟩ = some (.bool false)
  y2 : w.cell? ⟨q, 2, none⟩ = some (.int .i64 0)
  y3 : w.cell? ⟨q, 3, none⟩ = some (.string ⟨#[]⟩)
  y4 : w.cell? ⟨q, 4, none⟩ = some (.slice mka 2 mkc)
  y5 : w.cell? ⟨q, 5, none⟩ = some (.slice mla 2 mlc)
  lies : Lies D w (.agg #[.int .i64 5, .bool false, .int .i64 0, .string ⟨#[]⟩, .slice mka 2 mkc, .slice mla 2 mlc]) mapT
  low : D ≤ w.heap.size
  tabs : Tabs w
def stepW4 (q D mkc mlc : Nat) (mka mla : Option Addr) (Q : Exit → Act → World → Prop) (i : Nat) : Prop := ∀ (c : Act) (w : World), BaseW4 q D mkc mlc mka mla c → WorldW4 q D mkc mlc mka mla w → (∀ q0 ∈ ancW4 i, factsAt (factsW4 q D mkc mlc mka mla) q0 (val RW4 c q0) w) → Does Tryz.prog RW4 Q (factsAt (factsW4 q D mkc mlc mka mla)) i c w
theorem wnW4 {i : Nat} {o : Oper} {c : Act} (ho : RW4[i]? = some o) (h : o.guard = none) : Region.wanted o (yielded RW4 c.tmps) = true := want_none h
theorem weW4 {i g : Nat} {b : Bool} {o : Oper} {c : Act} (ho : RW4[i]? = some o) (h : o.guard = some (g, b)) (hg : val RW4 c g = .bool b) : Region.wanted o (yielded RW4 c.tmps) = true := want_eq h hg
section
variable (q D mkc mlc : Nat) (mka mla : Option Addr) (Q : Exit → Act → World → Prop)
set_option maxRecDepth 10000 in
theorem oW4_0 : stepW4 q D mkc mlc mka mla Q 0 := by
  intro c w hb hW hF
  have ho : RW4[0]? = some ({ dst := some 31, op := Op.move (Operand.tmp 2), type := 35, pos := "law.go:18", after := #[], guard := none } : Oper) := by kernel_rfl
  have e2 := hb.t2
  have hw := wnW4 (c := c) ho rfl
  have ec : ∀ v, c.eval (.const v) = v := fun _ => rfl
  have ef : ∀ f, c.eval (.func f) = .func (.func f) #[] #[] := fun _ => rfl
  refine does_value ho hw (v := .int .i64 0) ?_ rfl (Below.refl _ _)
  generalize c.eval = ρ at *
  clear hF hb hW hw ho
  go_simp
set_option maxRecDepth 10000 in
theorem oW4_1 : stepW4 q D mkc mlc mka mla Q 1 := by
  intro c w hb hW hF
  have ho : RW4[1]? = some ({ dst := some 32, op := Op.call { callee := Callee.value (Operand.func 22), args := #[Operand.tmp 31], argTypes := #[35] }, type := 3, pos := "law.go:18", after := #[{ on := 0, ground := Ground.data }], guard := none } : Oper) := by kernel_rfl
  have e31 : c.eval (.tmp 31) = .int .i64 0 := fact_at (p := eqv (.int .i64 0)) (by kernel_rfl) rfl (hF 0 (by decide))
  have hw := wnW4 (c := c) ho rfl
  have ec : ∀ v, c.eval (.const v) = v := fun _ => rfl
  have ef : ∀ f, c.eval (.func f) = .func (.func f) #[] #[] := fun _ => rfl
  refine does_call ho hw (f := 22) (args := #[.int .i64 0]) ?_ (Calls.mono (num_any 0 w) fun e w' ⟨h1, h2⟩ => ⟨_, h1, rfl, h2⟩)
  generalize c.eval = ρ at *
  clear hF hb hW hw ho
  go_simp
set_option maxRecDepth 10000 in
theorem oW4_2 : stepW4 q D mkc mlc mka mla Q 2 := by
  intro c w hb hW hF
  have ho : RW4[2]? = some ({ dst := some 33, op := Op.move (Operand.tmp 4), type := 35, pos := "law.go:18", after := #[], guard := none } : Oper) := by kernel_rfl
  have e4 := hb.t4
  have hw := wnW4 (c := c) ho rfl
  have ec : ∀ v, c.eval (.const v) = v := fun _ => rfl
  have ef : ∀ f, c.eval (.func f) = .func (.func f) #[] #[] := fun _ => rfl
  refine does_value ho hw (v := .int .i64 0) ?_ rfl (Below.refl _ _)
  generalize c.eval = ρ at *
  clear hF hb hW hw ho
  go_simp
set_option maxRecDepth 10000 in
theorem oW4_3 : stepW4 q D mkc mlc mka mla Q 3 := by
  intro c w hb hW hF
  have ho : RW4[3]? = some ({ dst := some 34, op := Op.call { callee := Callee.value (Operand.func 22), args := #[Operand.tmp 33], argTypes := #[35] }, type := 3, pos := "law.go:18", after := #[{ on := 2, ground := Ground.data }, { on := 1, ground := Ground.chain }], guard := none } : Oper) := by kernel_rfl
  have e33 : c.eval (.tmp 33) = .int .i64 0 := fact_at (p := eqv (.int .i64 0)) (by kernel_rfl) rfl (hF 2 (by decide))
  have hw := wnW4 (c := c) ho rfl
  have ec : ∀ v, c.eval (.const v) = v := fun _ => rfl
  have ef : ∀ f, c.eval (.func f) = .func (.func f) #[] #[] := fun _ => rfl
  refine does_call ho hw (f := 22) (args := #[.int .i64 0]) ?_ (Calls.mono (num_any 0 w) fun e w' ⟨h1, h2⟩ => ⟨_, h1, rfl, h2⟩)
  generalize c.eval = ρ at *
  clear hF hb hW hw ho
  go_simp
set_option maxRecDepth 10000 in
theorem oW4_4 : stepW4 q D mkc mlc mka mla Q 4 := by
  intro c w hb hW hF
  have ho : RW4[4]? = some ({ dst := some 35, op := Op.binOp BinOp.add 3 (Operand.tmp 32) (Operand.tmp 34) 3, type := 3, pos := "law.go:18", after := #[{ on := 1, ground := Ground.data }, { on := 3, ground := Ground.data }], guard := none } : Oper) := by kernel_rfl
  have e32 : c.eval (.tmp 32) = .int .i64 0 := fact_at (p := eqv (.int .i64 0)) (by kernel_rfl) rfl (hF 1 (by decide))
  have e34 : c.eval (.tmp 34) = .int .i64 0 := fact_at (p := eqv (.int .i64 0)) (by kernel_rfl) rfl (hF 3 (by decide))
  have hw := wnW4 (c := c) ho rfl
  have ec : ∀ v, c.eval (.const v) = v := fun _ => rfl
  have ef : ∀ f, c.eval (.func f) = .func (.func f) #[] #[] := fun _ => rfl
  refine does_value ho hw (v := .int .i64 0) ?_ rfl (Below.refl _ _)
  generalize c.eval = ρ at *
  clear hF hb hW hw ho
  go_simp
  rfl
set_option maxRecDepth 10000 in
theorem oW4_5 : stepW4 q D mkc mlc mka mla Q 5 := by
  intro c w hb hW hF
  have ho : RW4[5]? = some ({ dst := some 36, op := Op.binOp BinOp.eql 3 (Operand.tmp 35) (Operand.const (Value.int IntKind.i64 0)) 3, type := 4, pos := "law.go:18", after := #[{ on := 4, ground := Ground.data }], guard := none } : Oper) := by kernel_rfl
  have e35 : c.eval (.tmp 35) = .int .i64 0 := fact_at (p := eqv (.int .i64 0)) (by kernel_rfl) rfl (hF 4 (by decide))
  have hw := wnW4 (c := c) ho rfl
  have ec : ∀ v, c.eval (.const v) = v := fun _ => rfl
  have ef : ∀ f, c.eval (.func f) = .func (.func f) #[] #[] := fun _ => rfl
  refine does_value ho hw (v := .bool true) ?_ rfl (Below.refl _ _)
  generalize c.eval = ρ at *
  clear hF hb hW hw ho
  go_simp
set_option maxRecDepth 10000 in
theorem oW4_6 : stepW4 q D mkc mlc mka mla Q 6 := by
  intro c w hb hW hF
  have ho : RW4[6]? = some ({ dst := some 37, op := Op.move (Operand.tmp 36), type := 4, pos := "law.go:18", after := #[{ on := 5, ground := Ground.data }, { on := 3, ground := Ground.chain }], guard := none } : Oper) := by kernel_rfl
  have e36 : c.eval (.tmp 36) = .bool true := fact_at (p := eqv (.bool true)) (by kernel_rfl) rfl (hF 5 (by decide))
  have hw := wnW4 (c := c) ho rfl
  have ec : ∀ v, c.eval (.const v) = v := fun _ => rfl
  have ef : ∀ f, c.eval (.func f) = .func (.func f) #[] #[] := fun _ => rfl
  refine does_value ho hw (v := .bool true) ?_ rfl (Below.refl _ _)
  generalize c.eval = ρ at *
  clear hF hb hW hw ho
  go_simp
set_option maxRecDepth 10000 in
theorem oW4_7 : stepW4 q D mkc mlc mka mla Q 7 := by
  intro c w hb hW hF
  have ho : RW4[7]? = some ({ dst := some 38, op := Op.move (Operand.tmp 3), type := 9, pos := "law.go:18", after := #[{ on := 6, ground := Ground.guard }], guard := some (6, true) } : Oper) := by kernel_rfl
  have e3 := hb.t3
  have hg : val RW4 c 6 = .bool true := hF 6 (by decide)
  have hw := weW4 ho rfl hg
  have ec : ∀ v, c.eval (.const v) = v := fun _ => rfl
  have ef : ∀ f, c.eval (.func f) = .func (.func f) #[] #[] := fun _ => rfl
  refine does_value ho hw (v := .string ⟨#[123, 96, 97, 32, 98, 96, 58, 32, 91, 110, 117, 108, 108, 44, 32, 116, 114, 117, 101, 93, 44, 32, 98, 58, 32, 50, 125]⟩) ?_ rfl (Below.refl _ _)
  generalize c.eval = ρ at *
  clear hF hb hW hw ho hg
  go_simp
set_option maxRecDepth 10000 in
theorem oW4_8 : stepW4 q D mkc mlc mka mla Q 8 := by
  intro c w hb hW hF
  have ho : RW4[8]? = some ({ dst := some 39, op := Op.binOp BinOp.eql 9 (Operand.tmp 38) (Operand.const (Value.string { data := #[123, 96, 97, 32, 98, 96, 58, 32, 91, 110, 117, 108, 108, 44, 32, 116, 114, 117, 101, 93, 44, 32, 98, 58, 32, 50, 125] })) 9, type := 4, pos := "law.go:18", after := #[{ on := 7, ground := Ground.data }, { on := 6, ground := Ground.guard }], guard := some (6, true) } : Oper) := by kernel_rfl
  have e38 : c.eval (.tmp 38) = .string ⟨#[123, 96, 97, 32, 98, 96, 58, 32, 91, 110, 117, 108, 108, 44, 32, 116, 114, 117, 101, 93, 44, 32, 98, 58, 32, 50, 125]⟩ := fact_at (p := eqv (.string ⟨#[123, 96, 97, 32, 98, 96, 58, 32, 91, 110, 117, 108, 108, 44, 32, 116, 114, 117, 101, 93, 44, 32, 98, 58, 32, 50, 125]⟩)) (by kernel_rfl) rfl (hF 7 (by decide))
  have hg : val RW4 c 6 = .bool true := hF 6 (by decide)
  have hw := weW4 ho rfl hg
  have ec : ∀ v, c.eval (.const v) = v := fun _ => rfl
  have ef : ∀ f, c.eval (.func f) = .func (.func f) #[] #[] := fun _ => rfl
  refine does_value ho hw (v := .bool true) ?_ rfl (Below.refl _ _)
  generalize c.eval = ρ at *
  clear hF hb hW hw ho hg
  go_simp
set_option maxRecDepth 10000 in
theorem oW4_9 : stepW4 q D mkc mlc mka mla Q 9 := by
  intro c w hb hW hF
  have ho : RW4[9]? = some ({ dst := some 40, op := Op.pick (Operand.tmp 37) (Operand.tmp 39) (Operand.const (Value.bool false)), type := 4, pos := "law.go:18", after := #[{ on := 6, ground := Ground.data }, { on := 8, ground := Ground.data }], guard := none } : Oper) := by kernel_rfl
  have e37 : c.eval (.tmp 37) = .bool true := fact_at (p := eqv (.bool true)) (by kernel_rfl) rfl (hF 6 (by decide))
  have e39 : c.eval (.tmp 39) = .bool true := fact_at (p := eqv (.bool true)) (by kernel_rfl) rfl (hF 8 (by decide))
  have hw := wnW4 (c := c) ho rfl
  have ec : ∀ v, c.eval (.const v) = v := fun _ => rfl
  have ef : ∀ f, c.eval (.func f) = .func (.func f) #[] #[] := fun _ => rfl
  refine does_value ho hw (v := .bool true) ?_ rfl (Below.refl _ _)
  generalize c.eval = ρ at *
  clear hF hb hW hw ho
  go_simp
set_option maxRecDepth 10000 in
theorem oW4_10 : stepW4 q D mkc mlc mka mla Q 10 := by
  intro c w hb hW hF
  have ho : RW4[10]? = some ({ dst := some 41, op := Op.move (Operand.tmp 40), type := 4, pos := "law.go:18", after := #[{ on := 9, ground := Ground.data }, { on := 6, ground := Ground.chain }], guard := none } : Oper) := by kernel_rfl
  have e40 : c.eval (.tmp 40) = .bool true := fact_at (p := eqv (.bool true)) (by kernel_rfl) rfl (hF 9 (by decide))
  have hw := wnW4 (c := c) ho rfl
  have ec : ∀ v, c.eval (.const v) = v := fun _ => rfl
  have ef : ∀ f, c.eval (.func f) = .func (.func f) #[] #[] := fun _ => rfl
  refine does_value ho hw (v := .bool true) ?_ rfl (Below.refl _ _)
  generalize c.eval = ρ at *
  clear hF hb hW hw ho
  go_simp
set_option maxRecDepth 10000 in
theorem oW4_11 : stepW4 q D mkc mlc mka mla Q 11 := by
  intro c w hb hW hF
  have ho : RW4[11]? = some ({ dst := some 42, op := Op.move (Operand.tmp 6), type := 35, pos := "law.go:18", after := #[{ on := 10, ground := Ground.guard }], guard := some (10, true) } : Oper) := by kernel_rfl
  have e6 := hb.t6
  have hg : val RW4 c 10 = .bool true := hF 10 (by decide)
  have hw := weW4 ho rfl hg
  have ec : ∀ v, c.eval (.const v) = v := fun _ => rfl
  have ef : ∀ f, c.eval (.func f) = .func (.func f) #[] #[] := fun _ => rfl
  refine does_value ho hw (v := .int .i64 2) ?_ rfl (Below.refl _ _)
  generalize c.eval = ρ at *
  clear hF hb hW hw ho hg
  go_simp
set_option maxRecDepth 10000 in
theorem oW4_12 : stepW4 q D mkc mlc mka mla Q 12 := by
  intro c w hb hW hF
  have ho : RW4[12]? = some ({ dst := some 43, op := Op.call { callee := Callee.value (Operand.func 22), args := #[Operand.tmp 42], argTypes := #[35] }, type := 3, pos := "law.go:18", after := #[{ on := 11, ground := Ground.data }, { on := 10, ground := Ground.chain }, { on := 10, ground := Ground.guard }], guard := some (10, true) } : Oper) := by kernel_rfl
  have e42 : c.eval (.tmp 42) = .int .i64 2 := fact_at (p := eqv (.int .i64 2)) (by kernel_rfl) rfl (hF 11 (by decide))
  have hg : val RW4 c 10 = .bool true := hF 10 (by decide)
  have hw := weW4 ho rfl hg
  have ec : ∀ v, c.eval (.const v) = v := fun _ => rfl
  have ef : ∀ f, c.eval (.func f) = .func (.func f) #[] #[] := fun _ => rfl
  refine does_call ho hw (f := 22) (args := #[.int .i64 2]) ?_ (Calls.mono (num_any 2 w) fun e w' ⟨h1, h2⟩ => ⟨_, h1, rfl, h2⟩)
  generalize c.eval = ρ at *
  clear hF hb hW hw ho hg
  go_simp
set_option maxRecDepth 10000 in
theorem oW4_13 : stepW4 q D mkc mlc mka mla Q 13 := by
  intro c w hb hW hF
  have ho : RW4[13]? = some ({ dst := some 44, op := Op.binOp BinOp.eql 3 (Operand.tmp 43) (Operand.const (Value.int IntKind.i64 2)) 3, type := 4, pos := "law.go:18", after := #[{ on := 12, ground := Ground.data }, { on := 10, ground := Ground.guard }], guard := some (10, true) } : Oper) := by kernel_rfl
  have e43 : c.eval (.tmp 43) = .int .i64 2 := fact_at (p := eqv (.int .i64 2)) (by kernel_rfl) rfl (hF 12 (by decide))
  have hg : val RW4 c 10 = .bool true := hF 10 (by decide)
  have hw := weW4 ho rfl hg
  have ec : ∀ v, c.eval (.const v) = v := fun _ => rfl
  have ef : ∀ f, c.eval (.func f) = .func (.func f) #[] #[] := fun _ => rfl
  refine does_value ho hw (v := .bool true) ?_ rfl (Below.refl _ _)
  generalize c.eval = ρ at *
  clear hF hb hW hw ho hg
  go_simp
set_option maxRecDepth 10000 in
theorem oW4_14 : stepW4 q D mkc mlc mka mla Q 14 := by
  intro c w hb hW hF
  have ho : RW4[14]? = some ({ dst := some 45, op := Op.pick (Operand.tmp 41) (Operand.tmp 44) (Operand.const (Value.bool false)), type := 4, pos := "law.go:18", after := #[{ on := 10, ground := Ground.data }, { on := 13, ground := Ground.data }], guard := none } : Oper) := by kernel_rfl
  have e41 : c.eval (.tmp 41) = .bool true := fact_at (p := eqv (.bool true)) (by kernel_rfl) rfl (hF 10 (by decide))
  have e44 : c.eval (.tmp 44) = .bool true := fact_at (p := eqv (.bool true)) (by kernel_rfl) rfl (hF 13 (by decide))
  have hw := wnW4 (c := c) ho rfl
  have ec : ∀ v, c.eval (.const v) = v := fun _ => rfl
  have ef : ∀ f, c.eval (.func f) = .func (.func f) #[] #[] := fun _ => rfl
  refine does_value ho hw (v := .bool true) ?_ rfl (Below.refl _ _)
  generalize c.eval = ρ at *
  clear hF hb hW hw ho
  go_simp
set_option maxRecDepth 10000 in
theorem oW4_15 : stepW4 q D mkc mlc mka mla Q 15 := by
  intro c w hb hW hF
  have ho : RW4[15]? = some ({ dst := some 46, op := Op.move (Operand.tmp 45), type := 4, pos := "law.go:18", after := #[{ on := 14, ground := Ground.data }, { on := 12, ground := Ground.chain }], guard := none } : Oper) := by kernel_rfl
  have e45 : c.eval (.tmp 45) = .bool true := fact_at (p := eqv (.bool true)) (by kernel_rfl) rfl (hF 14 (by decide))
  have hw := wnW4 (c := c) ho rfl
  have ec : ∀ v, c.eval (.const v) = v := fun _ => rfl
  have ef : ∀ f, c.eval (.func f) = .func (.func f) #[] #[] := fun _ => rfl
  refine does_value ho hw (v := .bool true) ?_ rfl (Below.refl _ _)
  generalize c.eval = ρ at *
  clear hF hb hW hw ho
  go_simp
set_option maxRecDepth 10000 in
theorem oW4_16 : stepW4 q D mkc mlc mka mla Q 16 := by
  intro c w hb hW hF
  have ho : RW4[16]? = some ({ dst := some 47, op := Op.load 26 (Operand.tmp 1), type := 26, pos := "law.go:18", after := #[{ on := 15, ground := Ground.guard }], guard := some (15, true) } : Oper) := by kernel_rfl
  have e1 := hb.t1
  have hg : val RW4 c 15 = .bool true := hF 15 (by decide)
  have hw := weW4 ho rfl hg
  have ec : ∀ v, c.eval (.const v) = v := fun _ => rfl
  have ef : ∀ f, c.eval (.func f) = .func (.func f) #[] #[] := fun _ => rfl
  have y0 := hW.y0
  have y1 := hW.y1
  have y2 := hW.y2
  have y3 := hW.y3
  have y4 := hW.y4
  have y5 := hW.y5
  refine does_value ho hw (v := .agg #[.int .i64 5, .bool false, .int .i64 0, .string ⟨#[]⟩, .slice mka 2 mkc, .slice mla 2 mlc]) ?_ rfl (Below.refl _ _)
  generalize c.eval = ρ at *
  clear hF hb hW hw ho hg
  go_simp
set_option maxRecDepth 10000 in
theorem oW4_17 : stepW4 q D mkc mlc mka mla Q 17 := by
  intro c w hb hW hF
  have ho : RW4[17]? = some ({ dst := some 48, op := Op.call { callee := Callee.value (Operand.func 56), args := #[Operand.const (Value.string { data := #[97] })], argTypes := #[9] }, type := 26, pos := "law.go:18", after := #[{ on := 15, ground := Ground.chain }, { on := 15, ground := Ground.guard }], guard := some (15, true) } : Oper) := by kernel_rfl
  have hg : val RW4 c 15 = .bool true := hF 15 (by decide)
  have hw := weW4 ho rfl hg
  have ec : ∀ v, c.eval (.const v) = v := fun _ => rfl
  have ef : ∀ f, c.eval (.func f) = .func (.func f) #[] #[] := fun _ => rfl
  refine does_call ho hw (f := 56) (args := #[.string ⟨#[97]⟩]) ?_ (Calls.mono (string_any ⟨#[97]⟩ w) fun e w' ⟨h1, h2⟩ => ⟨_, h1, rfl, h2⟩)
  generalize c.eval = ρ at *
  clear hF hb hW hw ho hg
  go_simp
set_option maxRecDepth 10000 in
theorem oW4_18 : stepW4 q D mkc mlc mka mla Q 18 := by
  intro c w hb hW hF
  have ho : RW4[18]? = some ({ dst := some 49, op := Op.call { callee := Callee.value (Operand.func 31), args := #[Operand.tmp 47, Operand.tmp 48], argTypes := #[26, 26] }, type := 3, pos := "law.go:18", after := #[{ on := 16, ground := Ground.data }, { on := 17, ground := Ground.data }, { on := 17, ground := Ground.chain }, { on := 15, ground := Ground.guard }], guard := some (15, true) } : Oper) := by kernel_rfl
  have e47 : c.eval (.tmp 47) = .agg #[.int .i64 5, .bool false, .int .i64 0, .string ⟨#[]⟩, .slice mka 2 mkc, .slice mla 2 mlc] := fact_at (p := eqv (.agg #[.int .i64 5, .bool false, .int .i64 0, .string ⟨#[]⟩, .slice mka 2 mkc, .slice mla 2 mlc])) (by kernel_rfl) rfl (hF 16 (by decide))
  have e48 : c.eval (.tmp 48) = leaf 3 false 0 ⟨#[97]⟩ := fact_at (p := eqv (leaf 3 false 0 ⟨#[97]⟩)) (by kernel_rfl) rfl (hF 17 (by decide))
  have hg : val RW4 c 15 = .bool true := hF 15 (by decide)
  have hw := weW4 ho rfl hg
  have ec : ∀ v, c.eval (.const v) = v := fun _ => rfl
  have ef : ∀ f, c.eval (.func f) = .func (.func f) #[] #[] := fun _ => rfl
  refine does_call ho hw (f := 31) (args := #[.agg #[.int .i64 5, .bool false, .int .i64 0, .string ⟨#[]⟩, .slice mka 2 mkc, .slice mla 2 mlc], leaf 3 false 0 ⟨#[97]⟩]) ?_ (Calls.mono (comp_map ▸ Compare_any mapT (.mk 3 false 0 ⟨#[97]⟩ [] []) D _ _ w hW.low hW.lies (textA_lies _ _) hW.tabs modest_map modest_a) fun e w' ⟨h1, h2⟩ => ⟨_, h1, rfl, h2⟩)
  generalize c.eval = ρ at *
  clear hF hb hW hw ho hg
  go_simp
set_option maxRecDepth 10000 in
theorem oW4_19 : stepW4 q D mkc mlc mka mla Q 19 := by
  intro c w hb hW hF
  have ho : RW4[19]? = some ({ dst := some 50, op := Op.binOp BinOp.eql 3 (Operand.tmp 49) (Operand.const (Value.int IntKind.i64 (-1))) 3, type := 4, pos := "law.go:18", after := #[{ on := 18, ground := Ground.data }, { on := 15, ground := Ground.guard }], guard := some (15, true) } : Oper) := by kernel_rfl
  have e49 : c.eval (.tmp 49) = .int .i64 (-1) := fact_at (p := eqv (.int .i64 (-1))) (by kernel_rfl) rfl (hF 18 (by decide))
  have hg : val RW4 c 15 = .bool true := hF 15 (by decide)
  have hw := weW4 ho rfl hg
  have ec : ∀ v, c.eval (.const v) = v := fun _ => rfl
  have ef : ∀ f, c.eval (.func f) = .func (.func f) #[] #[] := fun _ => rfl
  refine does_value ho hw (v := .bool true) ?_ rfl (Below.refl _ _)
  generalize c.eval = ρ at *
  clear hF hb hW hw ho hg
  go_simp
set_option maxRecDepth 10000 in
theorem oW4_20 : stepW4 q D mkc mlc mka mla Q 20 := by
  intro c w hb hW hF
  have ho : RW4[20]? = some ({ dst := some 51, op := Op.pick (Operand.tmp 46) (Operand.tmp 50) (Operand.const (Value.bool false)), type := 4, pos := "law.go:18", after := #[{ on := 15, ground := Ground.data }, { on := 19, ground := Ground.data }], guard := none } : Oper) := by kernel_rfl
  have e46 : c.eval (.tmp 46) = .bool true := fact_at (p := eqv (.bool true)) (by kernel_rfl) rfl (hF 15 (by decide))
  have e50 : c.eval (.tmp 50) = .bool true := fact_at (p := eqv (.bool true)) (by kernel_rfl) rfl (hF 19 (by decide))
  have hw := wnW4 (c := c) ho rfl
  have ec : ∀ v, c.eval (.const v) = v := fun _ => rfl
  have ef : ∀ f, c.eval (.func f) = .func (.func f) #[] #[] := fun _ => rfl
  refine does_value ho hw (v := .bool true) ?_ rfl (Below.refl _ _)
  generalize c.eval = ρ at *
  clear hF hb hW hw ho
  go_simp
set_option maxRecDepth 10000 in
theorem oW4_21 : stepW4 q D mkc mlc mka mla Q 21 := by
  intro c w hb hW hF
  have ho : RW4[21]? = some ({ dst := some 52, op := Op.move (Operand.tmp 51), type := 4, pos := "law.go:18", after := #[{ on := 20, ground := Ground.data }, { on := 18, ground := Ground.chain }], guard := none } : Oper) := by kernel_rfl
  have e51 : c.eval (.tmp 51) = .bool true := fact_at (p := eqv (.bool true)) (by kernel_rfl) rfl (hF 20 (by decide))
  have hw := wnW4 (c := c) ho rfl
  have ec : ∀ v, c.eval (.const v) = v := fun _ => rfl
  have ef : ∀ f, c.eval (.func f) = .func (.func f) #[] #[] := fun _ => rfl
  refine does_value ho hw (v := .bool true) ?_ rfl (Below.refl _ _)
  generalize c.eval = ρ at *
  clear hF hb hW hw ho
  go_simp
set_option maxRecDepth 10000 in
theorem oW4_22 : stepW4 q D mkc mlc mka mla Q 22 := by
  intro c w hb hW hF
  have ho : RW4[22]? = some ({ dst := some 53, op := Op.load 26 (Operand.tmp 1), type := 26, pos := "law.go:18", after := #[{ on := 21, ground := Ground.guard }], guard := some (21, true) } : Oper) := by kernel_rfl
  have e1 := hb.t1
  have hg : val RW4 c 21 = .bool true := hF 21 (by decide)
  have hw := weW4 ho rfl hg
  have ec : ∀ v, c.eval (.const v) = v := fun _ => rfl
  have ef : ∀ f, c.eval (.func f) = .func (.func f) #[] #[] := fun _ => rfl
  have y0 := hW.y0
  have y1 := hW.y1
  have y2 := hW.y2
  have y3 := hW.y3
  have y4 := hW.y4
  have y5 := hW.y5
  refine does_value ho hw (v := .agg #[.int .i64 5, .bool false, .int .i64 0, .string ⟨#[]⟩, .slice mka 2 mkc, .slice mla 2 mlc]) ?_ rfl (Below.refl _ _)
  generalize c.eval = ρ at *
  clear hF hb hW hw ho hg
  go_simp
set_option maxRecDepth 10000 in
theorem oW4_23 : stepW4 q D mkc mlc mka mla Q 23 := by
  intro c w hb hW hF
  have ho : RW4[23]? = some ({ dst := some 54, op := Op.load 26 (Operand.tmp 1), type := 26, pos := "law.go:18", after := #[{ on := 21, ground := Ground.guard }], guard := some (21, true) } : Oper) := by kernel_rfl
  have e1 := hb.t1
  have hg : val RW4 c 21 = .bool true := hF 21 (by decide)
  have hw := weW4 ho rfl hg
  have ec : ∀ v, c.eval (.const v) = v := fun _ => rfl
  have ef : ∀ f, c.eval (.func f) = .func (.func f) #[] #[] := fun _ => rfl
  have y0 := hW.y0
  have y1 := hW.y1
  have y2 := hW.y2
  have y3 := hW.y3
  have y4 := hW.y4
  have y5 := hW.y5
  refine does_value ho hw (v := .agg #[.int .i64 5, .bool false, .int .i64 0, .string ⟨#[]⟩, .slice mka 2 mkc, .slice mla 2 mlc]) ?_ rfl (Below.refl _ _)
  generalize c.eval = ρ at *
  clear hF hb hW hw ho hg
  go_simp
set_option maxRecDepth 10000 in
theorem oW4_24 : stepW4 q D mkc mlc mka mla Q 24 := by
  intro c w hb hW hF
  have ho : RW4[24]? = some ({ dst := some 55, op := Op.call { callee := Callee.value (Operand.func 37), args := #[Operand.tmp 53, Operand.tmp 54], argTypes := #[26, 26] }, type := 44, pos := "law.go:18", after := #[{ on := 22, ground := Ground.data }, { on := 23, ground := Ground.data }, { on := 21, ground := Ground.chain }, { on := 21, ground := Ground.guard }], guard := some (21, true) } : Oper) := by kernel_rfl
  have e53 : c.eval (.tmp 53) = .agg #[.int .i64 5, .bool false, .int .i64 0, .string ⟨#[]⟩, .slice mka 2 mkc, .slice mla 2 mlc] := fact_at (p := eqv (.agg #[.int .i64 5, .bool false, .int .i64 0, .string ⟨#[]⟩, .slice mka 2 mkc, .slice mla 2 mlc])) (by kernel_rfl) rfl (hF 22 (by decide))
  have e54 : c.eval (.tmp 54) = .agg #[.int .i64 5, .bool false, .int .i64 0, .string ⟨#[]⟩, .slice mka 2 mkc, .slice mla 2 mlc] := fact_at (p := eqv (.agg #[.int .i64 5, .bool false, .int .i64 0, .string ⟨#[]⟩, .slice mka 2 mkc, .slice mla 2 mlc])) (by kernel_rfl) rfl (hF 23 (by decide))
  have hg : val RW4 c 21 = .bool true := hF 21 (by decide)
  have hw := weW4 ho rfl hg
  have ec : ∀ v, c.eval (.const v) = v := fun _ => rfl
  have ef : ∀ f, c.eval (.func f) = .func (.func f) #[] #[] := fun _ => rfl
  refine does_call ho hw (f := 37) (args := #[.agg #[.int .i64 5, .bool false, .int .i64 0, .string ⟨#[]⟩, .slice mka 2 mkc, .slice mla 2 mlc], .agg #[.int .i64 5, .bool false, .int .i64 0, .string ⟨#[]⟩, .slice mka 2 mkc, .slice mla 2 mlc]]) ?_ (Calls.mono (equal_map ▸ Equal_any mapT mapT D _ _ w hW.low hW.lies hW.lies hW.tabs modest_map modest_map) fun e w' ⟨h1, h2⟩ => ⟨_, h1, rfl, h2⟩)
  generalize c.eval = ρ at *
  clear hF hb hW hw ho hg
  go_simp
set_option maxRecDepth 10000 in
theorem oW4_25 : stepW4 q D mkc mlc mka mla Q 25 := by
  intro c w hb hW hF
  have ho : RW4[25]? = some ({ dst := some 56, op := Op.binOp BinOp.eql 44 (Operand.tmp 55) (Operand.const (Value.int IntKind.i64 1)) 44, type := 4, pos := "law.go:18", after := #[{ on := 24, ground := Ground.data }, { on := 21, ground := Ground.guard }], guard := some (21, true) } : Oper) := by kernel_rfl
  have e55 : c.eval (.tmp 55) = .int .i64 1 := fact_at (p := eqv (.int .i64 1)) (by kernel_rfl) rfl (hF 24 (by decide))
  have hg : val RW4 c 21 = .bool true := hF 21 (by decide)
  have hw := weW4 ho rfl hg
  have ec : ∀ v, c.eval (.const v) = v := fun _ => rfl
  have ef : ∀ f, c.eval (.func f) = .func (.func f) #[] #[] := fun _ => rfl
  refine does_value ho hw (v := .bool true) ?_ rfl (Below.refl _ _)
  generalize c.eval = ρ at *
  clear hF hb hW hw ho hg
  go_simp
set_option maxRecDepth 10000 in
theorem oW4_26 : stepW4 q D mkc mlc mka mla Q 26 := by
  intro c w hb hW hF
  have ho : RW4[26]? = some ({ dst := some 57, op := Op.pick (Operand.tmp 52) (Operand.tmp 56) (Operand.const (Value.bool false)), type := 4, pos := "law.go:18", after := #[{ on := 21, ground := Ground.data }, { on := 25, ground := Ground.data }], guard := none } : Oper) := by kernel_rfl
  have e52 : c.eval (.tmp 52) = .bool true := fact_at (p := eqv (.bool true)) (by kernel_rfl) rfl (hF 21 (by decide))
  have e56 : c.eval (.tmp 56) = .bool true := fact_at (p := eqv (.bool true)) (by kernel_rfl) rfl (hF 25 (by decide))
  have hw := wnW4 (c := c) ho rfl
  have ec : ∀ v, c.eval (.const v) = v := fun _ => rfl
  have ef : ∀ f, c.eval (.func f) = .func (.func f) #[] #[] := fun _ => rfl
  refine does_value ho hw (v := .bool true) ?_ rfl (Below.refl _ _)
  generalize c.eval = ρ at *
  clear hF hb hW hw ho
  go_simp
set_option maxRecDepth 10000 in
theorem oW4_27 : stepW4 q D mkc mlc mka mla Q 27 := by
  intro c w hb hW hF
  have ho : RW4[27]? = some ({ dst := some 58, op := Op.move (Operand.tmp 57), type := 4, pos := "law.go:18", after := #[{ on := 26, ground := Ground.data }, { on := 24, ground := Ground.chain }], guard := none } : Oper) := by kernel_rfl
  have e57 : c.eval (.tmp 57) = .bool true := fact_at (p := eqv (.bool true)) (by kernel_rfl) rfl (hF 26 (by decide))
  have hw := wnW4 (c := c) ho rfl
  have ec : ∀ v, c.eval (.const v) = v := fun _ => rfl
  have ef : ∀ f, c.eval (.func f) = .func (.func f) #[] #[] := fun _ => rfl
  refine does_value ho hw (v := .bool true) ?_ rfl (Below.refl _ _)
  generalize c.eval = ρ at *
  clear hF hb hW hw ho
  go_simp
set_option maxRecDepth 10000 in
theorem oW4_28 : stepW4 q D mkc mlc mka mla Q 28 := by
  intro c w hb hW hF
  have ho : RW4[28]? = some ({ dst := some 59, op := Op.call { callee := Callee.value (Operand.func 55), args := #[Operand.const (Value.int IntKind.i64 1)], argTypes := #[2] }, type := 26, pos := "law.go:18", after := #[{ on := 27, ground := Ground.chain }, { on := 27, ground := Ground.guard }], guard := some (27, true) } : Oper) := by kernel_rfl
  have hg : val RW4 c 27 = .bool true := hF 27 (by decide)
  have hw := weW4 ho rfl hg
  have ec : ∀ v, c.eval (.const v) = v := fun _ => rfl
  have ef : ∀ f, c.eval (.func f) = .func (.func f) #[] #[] := fun _ => rfl
  refine does_call ho hw (f := 55) (args := #[.int .i64 1]) ?_ (Calls.mono (int_any 1 w) fun e w' ⟨h1, h2⟩ => ⟨_, h1, rfl, h2⟩)
  generalize c.eval = ρ at *
  clear hF hb hW hw ho hg
  go_simp
set_option maxRecDepth 10000 in
theorem oW4_29 : stepW4 q D mkc mlc mka mla Q 29 := by
  intro c w hb hW hF
  have ho : RW4[29]? = some ({ dst := some 60, op := Op.call { callee := Callee.value (Operand.func 55), args := #[Operand.const (Value.int IntKind.i64 2)], argTypes := #[2] }, type := 26, pos := "law.go:18", after := #[{ on := 28, ground := Ground.chain }, { on := 27, ground := Ground.guard }], guard := some (27, true) } : Oper) := by kernel_rfl
  have hg : val RW4 c 27 = .bool true := hF 27 (by decide)
  have hw := weW4 ho rfl hg
  have ec : ∀ v, c.eval (.const v) = v := fun _ => rfl
  have ef : ∀ f, c.eval (.func f) = .func (.func f) #[] #[] := fun _ => rfl
  refine does_call ho hw (f := 55) (args := #[.int .i64 2]) ?_ (Calls.mono (int_any 2 w) fun e w' ⟨h1, h2⟩ => ⟨_, h1, rfl, h2⟩)
  generalize c.eval = ρ at *
  clear hF hb hW hw ho hg
  go_simp
set_option maxRecDepth 10000 in
theorem oW4_30 : stepW4 q D mkc mlc mka mla Q 30 := by
  intro c w hb hW hF
  have ho : RW4[30]? = some ({ dst := some 61, op := Op.call { callee := Callee.value (Operand.func 38), args := #[Operand.tmp 59, Operand.tmp 60], argTypes := #[26, 26] }, type := 44, pos := "law.go:18", after := #[{ on := 28, ground := Ground.data }, { on := 29, ground := Ground.data }, { on := 29, ground := Ground.chain }, { on := 27, ground := Ground.guard }], guard := some (27, true) } : Oper) := by kernel_rfl
  have e59 : c.eval (.tmp 59) = leaf 2 false 1 ⟨#[]⟩ := fact_at (p := eqv (leaf 2 false 1 ⟨#[]⟩)) (by kernel_rfl) rfl (hF 28 (by decide))
  have e60 : c.eval (.tmp 60) = leaf 2 false 2 ⟨#[]⟩ := fact_at (p := eqv (leaf 2 false 2 ⟨#[]⟩)) (by kernel_rfl) rfl (hF 29 (by decide))
  have hg : val RW4 c 27 = .bool true := hF 27 (by decide)
  have hw := weW4 ho rfl hg
  have ec : ∀ v, c.eval (.const v) = v := fun _ => rfl
  have ef : ∀ f, c.eval (.func f) = .func (.func f) #[] #[] := fun _ => rfl
  refine does_call ho hw (f := 38) (args := #[leaf 2 false 1 ⟨#[]⟩, leaf 2 false 2 ⟨#[]⟩]) ?_ (Calls.mono (less_one ▸ Less_any (leafT 2 false 1) (leafT 2 false 2) D _ _ w hW.low (leaf_lies 2 false 1 _ _) (leaf_lies 2 false 2 _ _) hW.tabs modest_leaf1 modest_leaf2) fun e w' ⟨h1, h2⟩ => ⟨_, h1, rfl, h2⟩)
  generalize c.eval = ρ at *
  clear hF hb hW hw ho hg
  go_simp
set_option maxRecDepth 10000 in
theorem oW4_31 : stepW4 q D mkc mlc mka mla Q 31 := by
  intro c w hb hW hF
  have ho : RW4[31]? = some ({ dst := some 62, op := Op.binOp BinOp.eql 44 (Operand.tmp 61) (Operand.const (Value.int IntKind.i64 2)) 44, type := 4, pos := "law.go:18", after := #[{ on := 30, ground := Ground.data }, { on := 27, ground := Ground.guard }], guard := some (27, true) } : Oper) := by kernel_rfl
  have e61 : c.eval (.tmp 61) = .int .i64 2 := fact_at (p := eqv (.int .i64 2)) (by kernel_rfl) rfl (hF 30 (by decide))
  have hg : val RW4 c 27 = .bool true := hF 27 (by decide)
  have hw := weW4 ho rfl hg
  have ec : ∀ v, c.eval (.const v) = v := fun _ => rfl
  have ef : ∀ f, c.eval (.func f) = .func (.func f) #[] #[] := fun _ => rfl
  refine does_value ho hw (v := .bool true) ?_ rfl (Below.refl _ _)
  generalize c.eval = ρ at *
  clear hF hb hW hw ho hg
  go_simp
set_option maxRecDepth 10000 in
theorem oW4_32 : stepW4 q D mkc mlc mka mla Q 32 := by
  intro c w hb hW hF
  have ho : RW4[32]? = some ({ dst := some 63, op := Op.pick (Operand.tmp 58) (Operand.tmp 62) (Operand.const (Value.bool false)), type := 4, pos := "law.go:18", after := #[{ on := 27, ground := Ground.data }, { on := 31, ground := Ground.data }], guard := none } : Oper) := by kernel_rfl
  have e58 : c.eval (.tmp 58) = .bool true := fact_at (p := eqv (.bool true)) (by kernel_rfl) rfl (hF 27 (by decide))
  have e62 : c.eval (.tmp 62) = .bool true := fact_at (p := eqv (.bool true)) (by kernel_rfl) rfl (hF 31 (by decide))
  have hw := wnW4 (c := c) ho rfl
  have ec : ∀ v, c.eval (.const v) = v := fun _ => rfl
  have ef : ∀ f, c.eval (.func f) = .func (.func f) #[] #[] := fun _ => rfl
  refine does_value ho hw (v := .bool true) ?_ rfl (Below.refl _ _)
  generalize c.eval = ρ at *
  clear hF hb hW hw ho
  go_simp
set_option maxRecDepth 10000 in
theorem oW4_33 : stepW4 q D mkc mlc mka mla Q 33 := by
  intro c w hb hW hF
  have ho : RW4[33]? = some ({ dst := some 64, op := Op.move (Operand.tmp 63), type := 4, pos := "law.go:18", after := #[{ on := 32, ground := Ground.data }, { on := 30, ground := Ground.chain }], guard := none } : Oper) := by kernel_rfl
  have e63 : c.eval (.tmp 63) = .bool true := fact_at (p := eqv (.bool true)) (by kernel_rfl) rfl (hF 32 (by decide))
  have hw := wnW4 (c := c) ho rfl
  have ec : ∀ v, c.eval (.const v) = v := fun _ => rfl
  have ef : ∀ f, c.eval (.func f) = .func (.func f) #[] #[] := fun _ => rfl
  refine does_value ho hw (v := .bool true) ?_ rfl (Below.refl _ _)
  generalize c.eval = ρ at *
  clear hF hb hW hw ho
  go_simp
set_option maxRecDepth 10000 in
theorem oW4_34 : stepW4 q D mkc mlc mka mla Q 34 := by
  intro c w hb hW hF
  have ho : RW4[34]? = some ({ dst := some 65, op := Op.load 26 (Operand.tmp 1), type := 26, pos := "law.go:18", after := #[{ on := 33, ground := Ground.guard }], guard := some (33, true) } : Oper) := by kernel_rfl
  have e1 := hb.t1
  have hg : val RW4 c 33 = .bool true := hF 33 (by decide)
  have hw := weW4 ho rfl hg
  have ec : ∀ v, c.eval (.const v) = v := fun _ => rfl
  have ef : ∀ f, c.eval (.func f) = .func (.func f) #[] #[] := fun _ => rfl
  have y0 := hW.y0
  have y1 := hW.y1
  have y2 := hW.y2
  have y3 := hW.y3
  have y4 := hW.y4
  have y5 := hW.y5
  refine does_value ho hw (v := .agg #[.int .i64 5, .bool false, .int .i64 0, .string ⟨#[]⟩, .slice mka 2 mkc, .slice mla 2 mlc]) ?_ rfl (Below.refl _ _)
  generalize c.eval = ρ at *
  clear hF hb hW hw ho hg
  go_simp
set_option maxRecDepth 10000 in
theorem oW4_35 : stepW4 q D mkc mlc mka mla Q 35 := by
  intro c w hb hW hF
  have ho : RW4[35]? = some ({ dst := some 66, op := Op.load 26 (Operand.tmp 1), type := 26, pos := "law.go:18", after := #[{ on := 33, ground := Ground.guard }], guard := some (33, true) } : Oper) := by kernel_rfl
  have e1 := hb.t1
  have hg : val RW4 c 33 = .bool true := hF 33 (by decide)
  have hw := weW4 ho rfl hg
  have ec : ∀ v, c.eval (.const v) = v := fun _ => rfl
  have ef : ∀ f, c.eval (.func f) = .func (.func f) #[] #[] := fun _ => rfl
  have y0 := hW.y0
  have y1 := hW.y1
  have y2 := hW.y2
  have y3 := hW.y3
  have y4 := hW.y4
  have y5 := hW.y5
  refine does_value ho hw (v := .agg #[.int .i64 5, .bool false, .int .i64 0, .string ⟨#[]⟩, .slice mka 2 mkc, .slice mla 2 mlc]) ?_ rfl (Below.refl _ _)
  generalize c.eval = ρ at *
  clear hF hb hW hw ho hg
  go_simp
set_option maxRecDepth 10000 in
theorem oW4_36 : stepW4 q D mkc mlc mka mla Q 36 := by
  intro c w hb hW hF
  have ho : RW4[36]? = some ({ dst := some 67, op := Op.call { callee := Callee.value (Operand.func 19), args := #[Operand.tmp 66], argTypes := #[26] }, type := 26, pos := "law.go:18", after := #[{ on := 35, ground := Ground.data }, { on := 33, ground := Ground.chain }, { on := 33, ground := Ground.guard }], guard := some (33, true) } : Oper) := by kernel_rfl
  have e66 : c.eval (.tmp 66) = .agg #[.int .i64 5, .bool false, .int .i64 0, .string ⟨#[]⟩, .slice mka 2 mkc, .slice mla 2 mlc] := fact_at (p := eqv (.agg #[.int .i64 5, .bool false, .int .i64 0, .string ⟨#[]⟩, .slice mka 2 mkc, .slice mla 2 mlc])) (by kernel_rfl) rfl (hF 35 (by decide))
  have hg : val RW4 c 33 = .bool true := hF 33 (by decide)
  have hw := weW4 ho rfl hg
  have ec : ∀ v, c.eval (.const v) = v := fun _ => rfl
  have ef : ∀ f, c.eval (.func f) = .func (.func f) #[] #[] := fun _ => rfl
  refine does_call ho hw (f := 19) (args := #[.agg #[.int .i64 5, .bool false, .int .i64 0, .string ⟨#[]⟩, .slice mka 2 mkc, .slice mla 2 mlc]]) ?_ ((copy_any mapT D _ w hW.low hW.lies (by decide)).mono fun e w' ⟨v', h1, h2, h3⟩ => ⟨v', h1, h2.lie, h3⟩)
  generalize c.eval = ρ at *
  clear hF hb hW hw ho hg
  go_simp
set_option maxRecDepth 10000 in
theorem oW4_37 : stepW4 q D mkc mlc mka mla Q 37 := by
  intro c w hb hW hF
  have ho : RW4[37]? = some ({ dst := some 68, op := Op.call { callee := Callee.value (Operand.func 32), args := #[Operand.tmp 65, Operand.tmp 67], argTypes := #[26, 26] }, type := 4, pos := "law.go:18", after := #[{ on := 34, ground := Ground.data }, { on := 36, ground := Ground.data }, { on := 36, ground := Ground.chain }, { on := 33, ground := Ground.guard }], guard := some (33, true) } : Oper) := by kernel_rfl
  have e65 : c.eval (.tmp 65) = .agg #[.int .i64 5, .bool false, .int .i64 0, .string ⟨#[]⟩, .slice mka 2 mkc, .slice mla 2 mlc] := fact_at (p := eqv (.agg #[.int .i64 5, .bool false, .int .i64 0, .string ⟨#[]⟩, .slice mka 2 mkc, .slice mla 2 mlc])) (by kernel_rfl) rfl (hF 34 (by decide))
  have e67 : Lies w.heap.size w (c.eval (.tmp 67)) mapT := fact_at (p := liesM) (by kernel_rfl) rfl (hF 36 (by decide))
  have hg : val RW4 c 33 = .bool true := hF 33 (by decide)
  have hw := weW4 ho rfl hg
  have ec : ∀ v, c.eval (.const v) = v := fun _ => rfl
  have ef : ∀ f, c.eval (.func f) = .func (.func f) #[] #[] := fun _ => rfl
  refine does_call ho hw (f := 32) (args := #[.agg #[.int .i64 5, .bool false, .int .i64 0, .string ⟨#[]⟩, .slice mka 2 mkc, .slice mla 2 mlc], c.eval (.tmp 67)]) ?_ (Calls.mono (same_map ▸ Same_any mapT mapT w.heap.size _ _ w (Nat.le_refl _) (hW.lies.mono hW.low) e67 hW.tabs modest_map modest_map) fun e w' ⟨h1, h2⟩ => ⟨_, h1, rfl, h2⟩)
  clear e67
  generalize c.eval = ρ at *
  clear hF hb hW hw ho hg
  go_simp
set_option maxRecDepth 10000 in
theorem oW4_38 : stepW4 q D mkc mlc mka mla Q 38 := by
  intro c w hb hW hF
  have ho : RW4[38]? = some ({ dst := some 69, op := Op.pick (Operand.tmp 64) (Operand.tmp 68) (Operand.const (Value.bool false)), type := 4, pos := "law.go:18", after := #[{ on := 33, ground := Ground.data }, { on := 37, ground := Ground.data }], guard := none } : Oper) := by kernel_rfl
  have e64 : c.eval (.tmp 64) = .bool true := fact_at (p := eqv (.bool true)) (by kernel_rfl) rfl (hF 33 (by decide))
  have e68 : c.eval (.tmp 68) = .bool true := fact_at (p := eqv (.bool true)) (by kernel_rfl) rfl (hF 37 (by decide))
  have hw := wnW4 (c := c) ho rfl
  have ec : ∀ v, c.eval (.const v) = v := fun _ => rfl
  have ef : ∀ f, c.eval (.func f) = .func (.func f) #[] #[] := fun _ => rfl
  refine does_value ho hw (v := .bool true) ?_ rfl (Below.refl _ _)
  generalize c.eval = ρ at *
  clear hF hb hW hw ho
  go_simp
set_option maxRecDepth 10000 in
theorem oW4_39 : stepW4 q D mkc mlc mka mla Q 39 := by
  intro c w hb hW hF
  have ho : RW4[39]? = some ({ dst := some 0, op := Op.assign (Operand.tmp 69), type := 4, pos := "law.go:18", after := #[{ on := 38, ground := Ground.data }, { on := 37, ground := Ground.chain }, { on := 0, ground := Ground.phase }, { on := 1, ground := Ground.phase }, { on := 2, ground := Ground.phase }, { on := 3, ground := Ground.phase }, { on := 4, ground := Ground.phase }, { on := 5, ground := Ground.phase }, { on := 6, ground := Ground.phase }, { on := 7, ground := Ground.phase }, { on := 8, ground := Ground.phase }, { on := 9, ground := Ground.phase }, { on := 10, ground := Ground.phase }, { on := 11, ground := Ground.phase }, { on := 12, ground := Ground.phase }, { on := 13, ground := Ground.phase }, { on := 14, ground := Ground.phase }, { on := 15, ground := Ground.phase }, { on := 16, ground := Ground.phase }, { on := 17, ground := Ground.phase }, { on := 18, ground := Ground.phase }, { on := 19, ground := Ground.phase }, { on := 20, ground := Ground.phase }, { on := 21, ground := Ground.phase }, { on := 22, ground := Ground.phase }, { on := 23, ground := Ground.phase }, { on := 24, ground := Ground.phase }, { on := 25, ground := Ground.phase }, { on := 26, ground := Ground.phase }, { on := 27, ground := Ground.phase }, { on := 28, ground := Ground.phase }, { on := 29, ground := Ground.phase }, { on := 30, ground := Ground.phase }, { on := 31, ground := Ground.phase }, { on := 32, ground := Ground.phase }, { on := 33, ground := Ground.phase }, { on := 34, ground := Ground.phase }, { on := 35, ground := Ground.phase }, { on := 36, ground := Ground.phase }, { on := 37, ground := Ground.phase }, { on := 38, ground := Ground.phase }], guard := none } : Oper) := by kernel_rfl
  have e69 : c.eval (.tmp 69) = .bool true := fact_at (p := eqv (.bool true)) (by kernel_rfl) rfl (hF 38 (by decide))
  have hw := wnW4 (c := c) ho rfl
  have ec : ∀ v, c.eval (.const v) = v := fun _ => rfl
  have ef : ∀ f, c.eval (.func f) = .func (.func f) #[] #[] := fun _ => rfl
  refine does_value ho hw (v := .bool true) ?_ rfl (Below.refl _ _)
  generalize c.eval = ρ at *
  clear hF hb hW hw ho
  go_simp
end
theorem stableW4 (q D mkc mlc : Nat) (mka mla : Option Addr) : ∀ pr ∈ factsW4 q D mkc mlc mka mla, Stable pr := by
  unfold factsW4
  repeat' (first | exact List.forall_mem_nil _ | refine List.forall_mem_cons.2 ⟨by first | exact eqv_stable _ | exact liesM_stable, ?_⟩)
set_option maxRecDepth 100000 in
theorem allW4 (q D mkc mlc : Nat) (mka mla : Option Addr) (Q : Exit → Act → World → Prop) : ∀ i, i < 40 → (fun i => ∀ c w, BaseW4 q D mkc mlc mka mla c → WorldW4 q D mkc mlc mka mla w → (∀ q0 ∈ ancW4 i, factsAt (factsW4 q D mkc mlc mka mla) q0 (val RW4 c q0) w) → Does Tryz.prog RW4 Q (factsAt (factsW4 q D mkc mlc mka mla)) i c w) i := by
  refine below_succ ?_ (fun c w => oW4_39 q D mkc mlc mka mla Q c w)
  refine below_succ ?_ (fun c w => oW4_38 q D mkc mlc mka mla Q c w)
  refine below_succ ?_ (fun c w => oW4_37 q D mkc mlc mka mla Q c w)
  refine below_succ ?_ (fun c w => oW4_36 q D mkc mlc mka mla Q c w)
  refine below_succ ?_ (fun c w => oW4_35 q D mkc mlc mka mla Q c w)
  refine below_succ ?_ (fun c w => oW4_34 q D mkc mlc mka mla Q c w)
  refine below_succ ?_ (fun c w => oW4_33 q D mkc mlc mka mla Q c w)
  refine below_succ ?_ (fun c w => oW4_32 q D mkc mlc mka mla Q c w)
  refine below_succ ?_ (fun c w => oW4_31 q D mkc mlc mka mla Q c w)
  refine below_succ ?_ (fun c w => oW4_30 q D mkc mlc mka mla Q c w)
  refine below_succ ?_ (fun c w => oW4_29 q D mkc mlc mka mla Q c w)
  refine below_succ ?_ (fun c w => oW4_28 q D mkc mlc mka mla Q c w)
  refine below_succ ?_ (fun c w => oW4_27 q D mkc mlc mka mla Q c w)
  refine below_succ ?_ (fun c w => oW4_26 q D mkc mlc mka mla Q c w)
  refine below_succ ?_ (fun c w => oW4_25 q D mkc mlc mka mla Q c w)
  refine below_succ ?_ (fun c w => oW4_24 q D mkc mlc mka mla Q c w)
  refine below_succ ?_ (fun c w => oW4_23 q D mkc mlc mka mla Q c w)
  refine below_succ ?_ (fun c w => oW4_22 q D mkc mlc mka mla Q c w)
  refine below_succ ?_ (fun c w => oW4_21 q D mkc mlc mka mla Q c w)
  refine below_succ ?_ (fun c w => oW4_20 q D mkc mlc mka mla Q c w)
  refine below_succ ?_ (fun c w => oW4_19 q D mkc mlc mka mla Q c w)
  refine below_succ ?_ (fun c w => oW4_18 q D mkc mlc mka mla Q c w)
  refine below_succ ?_ (fun c w => oW4_17 q D mkc mlc mka mla Q c w)
  refine below_succ ?_ (fun c w => oW4_16 q D mkc mlc mka mla Q c w)
  refine below_succ ?_ (fun c w => oW4_15 q D mkc mlc mka mla Q c w)
  refine below_succ ?_ (fun c w => oW4_14 q D mkc mlc mka mla Q c w)
  refine below_succ ?_ (fun c w => oW4_13 q D mkc mlc mka mla Q c w)
  refine below_succ ?_ (fun c w => oW4_12 q D mkc mlc mka mla Q c w)
  refine below_succ ?_ (fun c w => oW4_11 q D mkc mlc mka mla Q c w)
  refine below_succ ?_ (fun c w => oW4_10 q D mkc mlc mka mla Q c w)
  refine below_succ ?_ (fun c w => oW4_9 q D mkc mlc mka mla Q c w)
  refine below_succ ?_ (fun c w => oW4_8 q D mkc mlc mka mla Q c w)
  refine below_succ ?_ (fun c w => oW4_7 q D mkc mlc mka mla Q c w)
  refine below_succ ?_ (fun c w => oW4_6 q D mkc mlc mka mla Q c w)
  refine below_succ ?_ (fun c w => oW4_5 q D mkc mlc mka mla Q c w)
  refine below_succ ?_ (fun c w => oW4_4 q D mkc mlc mka mla Q c w)
  refine below_succ ?_ (fun c w => oW4_3 q D mkc mlc mka mla Q c w)
  refine below_succ ?_ (fun c w => oW4_2 q D mkc mlc mka mla Q c w)
  refine below_succ ?_ (fun c w => oW4_1 q D mkc mlc mka mla Q c w)
  refine below_succ ?_ (fun c w => oW4_0 q D mkc mlc mka mla Q c w)
  exact below_zero
theorem regionW4 (q D mkc mlc : Nat) (mka mla : Option Addr) (Q : Exit → Act → World → Prop) (base : Act) (w0 : World) (hsz : base.tmps.size = 70) (hb : BaseW4 q D mkc mlc mka mla base)
    (hW : ∀ w, Below w0.heap.size w0 w → WorldW4 q D mkc mlc mka mla w) (hQ : ∀ c w, Same RW4 base c → Below w0.heap.size w0 w → c.eval (.tmp 0) = .bool true → Q .normal c w) : (Code.region 4 RW4 true).wp Tryz.prog Q base w0 := by
  refine facts_rule (A := ancW4) (F := factsAt (factsW4 q D mkc mlc mka mla)) (by kernel_rfl) (by rw [hsz]; kernel_rfl) (fun i v w w' => factsAt_stable (stableW4 q D mkc mlc mka mla) i v w w') ?_ ?_
  · intro i hi c w hS hB hF
    exact allW4 q D mkc mlc mka mla Q i (by rwa [show RW4.size = 40 by kernel_rfl] at hi) c w ⟨(same_eval hS (by kernel_rfl)).trans hb.t1, (same_eval hS (by kernel_rfl)).trans hb.t2, (same_eval hS (by kernel_rfl)).trans hb.t3, (same_eval hS (by kernel_rfl)).trans hb.t4, (same_eval hS (by kernel_rfl)).trans hb.t6⟩ (hW w hB) hF
  · intro c w hS hB hF
    exact hQ c w hS hB (fact_at (p := eqv (.bool true)) (by kernel_rfl) rfl (hF 39 (by rw [show RW4.size = 40 by kernel_rfl]; omega)))
end Go.Proofs.YtbpmhgcjefpigaaGreatDoor
