/- A statement that reads, calls and lays rows of its own: operation by operation, in whatever order. Whatever order a region draws, where its last operation writes over what the region has read: facts about values, and the old value until then. A statement that reads, calls and lays rows of its own: operation by operation, in whatever order. -/
import Derived.Test.YtbpmhgcjefpigaaGreatDoorJoin21
import Derived.Test.YtbpmhgcjefpigaaGreatDoorJoin13
namespace Go.Proofs.YtbpmhgcjefpigaaGreatDoor
open Go.RowKit Go.WideShapes Go.Shelf
set_option linter.unusedVariables false
set_option linter.unusedSimpArgs false
noncomputable def RZ6f : Array Oper := regionAt Tryz.f48 6
def ancZ6f (i : Nat) : List Nat := ([[], [], [1], [0, 2], [3], [4], [4], [4, 5, 6], [4, 7], [4], [4], [4, 9, 10], [4, 11], [4, 8, 12], [4, 13], [4, 14]] : List (List Nat)).getD i []
def factsZ6f (ad : Option Addr) (n cap j bl off m lc ii : Nat) : List (Value → World → Prop) :=
 [eqv (.int .i64 (j : Int)), eqv (.slice ad n cap), eqv (.int .i64 (n : Int)), eqv (.bool false), eqv (.bool false), eqv undef, eqv undef, eqv undef, eqv undef, eqv undef, eqv undef, eqv undef, eqv undef, eqv undef, eqv undef, eqv (.bool false)]
structure BaseZ6f (ad : Option Addr) (n cap j bl off m lc ii : Nat) (c : Act) : Prop where
 t0 : c.eval (.tmp 0) = .slice (some ⟨bl, off, none⟩) m lc
 t3 : c.eval (.tmp 3) = .slice ad n cap
 t4 : c.eval (.tmp 4) = .int .i64 (ii : Int)
 t5 : c.eval (.tmp 5) = .int .i64 (j : Int)
structure WorldZ6f (ad : Option Addr) (n cap j bl off m lc ii : Nat) (w : World) : Prop where
 hj : ¬ j < n
def stepZ6f (ad : Option Addr) (n cap j bl off m lc ii : Nat) (Q : Exit → Act → World → Prop) (i : Nat) : Prop := ∀ (c : Act) (w : World), BaseZ6f ad n cap j bl off m lc ii c → WorldZ6f ad n cap j bl off m lc ii w → (∀ q0 ∈ ancZ6f i, factsAt (factsZ6f ad n cap j bl off m lc ii) q0 (val RZ6f c q0) w) → Does Tryz.prog RZ6f Q (factsAt (factsZ6f ad n cap j bl off m lc ii)) i c w
theorem wnZ6f {i : Nat} {o : Oper} {c : Act} (ho : RZ6f[i]? = some o) (h : o.guard = none) : Region.wanted o (yielded RZ6f c.tmps) = true := want_none h
section
variable (ad : Option Addr) (n cap j bl off m lc ii : Nat) (Q : Exit → Act → World → Prop)
set_option maxRecDepth 10000 in
theorem oZ6f_0 : stepZ6f ad n cap j bl off m lc ii Q 0 := by
 intro c w hb hW hF
 have ho : RZ6f[0]? = some (⟨some 13, .move (.tmp 5), 3, "ref.go:364", #[], none⟩ : Oper) := by kernel_rfl
 have e5 := hb.t5
 have hw := wnZ6f (c := c) ho rfl
 have ec : ∀ v, c.eval (.const v) = v := fun _ => rfl
 have ef : ∀ f, c.eval (.func f) = .func (.func f) #[] #[] := fun _ => rfl
 refine does_value ho hw (v := .int .i64 (j : Int)) ?_ rfl (Below.refl _ _)
 generalize c.eval = ρ at *
 clear hF hb hW hw ho
 go_simp
set_option maxRecDepth 10000 in
theorem oZ6f_1 : stepZ6f ad n cap j bl off m lc ii Q 1 := by
 intro c w hb hW hF
 have ho : RZ6f[1]? = some (⟨some 14, .move (.tmp 3), 24, "ref.go:364", #[], none⟩ : Oper) := by kernel_rfl
 have e3 := hb.t3
 have hw := wnZ6f (c := c) ho rfl
 have ec : ∀ v, c.eval (.const v) = v := fun _ => rfl
 have ef : ∀ f, c.eval (.func f) = .func (.func f) #[] #[] := fun _ => rfl
 refine does_value ho hw (v := .slice ad n cap) ?_ rfl (Below.refl _ _)
 generalize c.eval = ρ at *
 clear hF hb hW hw ho
 go_simp
set_option maxRecDepth 10000 in
theorem oZ6f_2 : stepZ6f ad n cap j bl off m lc ii Q 2 := by
 intro c w hb hW hF
 have ho : RZ6f[2]? = some (⟨some 15, .call { callee := .builtin .len, args := #[.tmp 14], argTypes := #[24] }, 3, "ref.go:364", #[⟨1, .data⟩], none⟩ : Oper) := by kernel_rfl
 have e14 : c.eval (.tmp 14) = .slice ad n cap := fact_at (p := eqv (.slice ad n cap)) (by kernel_rfl) rfl (hF 1 (by decide))
 have hw := wnZ6f (c := c) ho rfl
 have ec : ∀ v, c.eval (.const v) = v := fun _ => rfl
 have ef : ∀ f, c.eval (.func f) = .func (.func f) #[] #[] := fun _ => rfl
 refine does_value ho hw (v := .int .i64 (n : Int)) ?_ rfl (Below.refl _ _)
 generalize c.eval = ρ at *
 clear hF hb hW hw ho
 go_simp
set_option maxRecDepth 10000 in
theorem oZ6f_3 : stepZ6f ad n cap j bl off m lc ii Q 3 := by
 intro c w hb hW hF
 have ho : RZ6f[3]? = some (⟨some 16, .binOp .lss 3 (.tmp 13) (.tmp 15) 3, 4, "ref.go:364", #[⟨0, .data⟩, ⟨2, .data⟩], none⟩ : Oper) := by kernel_rfl
 have e13 : c.eval (.tmp 13) = .int .i64 (j : Int) := fact_at (p := eqv (.int .i64 (j : Int))) (by kernel_rfl) rfl (hF 0 (by decide))
 have e15 : c.eval (.tmp 15) = .int .i64 (n : Int) := fact_at (p := eqv (.int .i64 (n : Int))) (by kernel_rfl) rfl (hF 2 (by decide))
 have hw := wnZ6f (c := c) ho rfl
 have ec : ∀ v, c.eval (.const v) = v := fun _ => rfl
 have ef : ∀ f, c.eval (.func f) = .func (.func f) #[] #[] := fun _ => rfl
 have hj := hW.hj
 refine does_value ho hw (v := .bool false) ?_ rfl (Below.refl _ _)
 generalize c.eval = ρ at *
 clear hF hb hW hw ho
 go_simp
set_option maxRecDepth 10000 in
theorem oZ6f_4 : stepZ6f ad n cap j bl off m lc ii Q 4 := by
 intro c w hb hW hF
 have ho : RZ6f[4]? = some (⟨some 17, .move (.tmp 16), 4, "ref.go:364", #[⟨3, .data⟩], none⟩ : Oper) := by kernel_rfl
 have e16 : c.eval (.tmp 16) = .bool false := fact_at (p := eqv (.bool false)) (by kernel_rfl) rfl (hF 3 (by decide))
 have hw := wnZ6f (c := c) ho rfl
 have ec : ∀ v, c.eval (.const v) = v := fun _ => rfl
 have ef : ∀ f, c.eval (.func f) = .func (.func f) #[] #[] := fun _ => rfl
 refine does_value ho hw (v := .bool false) ?_ rfl (Below.refl _ _)
 generalize c.eval = ρ at *
 clear hF hb hW hw ho
 go_simp
set_option maxRecDepth 10000 in
theorem oZ6f_5 : stepZ6f ad n cap j bl off m lc ii Q 5 := by
 intro c w hb hW hF
 have ho : RZ6f[5]? = some (⟨some 18, .move (.tmp 3), 24, "ref.go:364", #[⟨4, .guard⟩], some (4, true)⟩ : Oper) := by kernel_rfl
 have hg : val RZ6f c 4 = .bool false := hF 4 (by decide)
 refine does_not ho ((want_val rfl hg).trans rfl) rfl
set_option maxRecDepth 10000 in
theorem oZ6f_6 : stepZ6f ad n cap j bl off m lc ii Q 6 := by
 intro c w hb hW hF
 have ho : RZ6f[6]? = some (⟨some 19, .move (.tmp 5), 3, "ref.go:364", #[⟨4, .guard⟩], some (4, true)⟩ : Oper) := by kernel_rfl
 have hg : val RZ6f c 4 = .bool false := hF 4 (by decide)
 refine does_not ho ((want_val rfl hg).trans rfl) rfl
set_option maxRecDepth 10000 in
theorem oZ6f_7 : stepZ6f ad n cap j bl off m lc ii Q 7 := by
 intro c w hb hW hF
 have ho : RZ6f[7]? = some (⟨some 20, .indexAddr 24 (.tmp 18) (.tmp 19), 0, "ref.go:364", #[⟨5, .data⟩, ⟨6, .data⟩, ⟨4, .guard⟩], some (4, true)⟩ : Oper) := by kernel_rfl
 have hg : val RZ6f c 4 = .bool false := hF 4 (by decide)
 refine does_not ho ((want_val rfl hg).trans rfl) rfl
set_option maxRecDepth 10000 in
theorem oZ6f_8 : stepZ6f ad n cap j bl off m lc ii Q 8 := by
 intro c w hb hW hF
 have ho : RZ6f[8]? = some (⟨some 21, .load 26 (.tmp 20), 26, "ref.go:364", #[⟨7, .data⟩, ⟨4, .guard⟩], some (4, true)⟩ : Oper) := by kernel_rfl
 have hg : val RZ6f c 4 = .bool false := hF 4 (by decide)
 refine does_not ho ((want_val rfl hg).trans rfl) rfl
set_option maxRecDepth 10000 in
theorem oZ6f_9 : stepZ6f ad n cap j bl off m lc ii Q 9 := by
 intro c w hb hW hF
 have ho : RZ6f[9]? = some (⟨some 22, .move (.tmp 0), 24, "ref.go:364", #[⟨4, .guard⟩], some (4, true)⟩ : Oper) := by kernel_rfl
 have hg : val RZ6f c 4 = .bool false := hF 4 (by decide)
 refine does_not ho ((want_val rfl hg).trans rfl) rfl
set_option maxRecDepth 10000 in
theorem oZ6f_10 : stepZ6f ad n cap j bl off m lc ii Q 10 := by
 intro c w hb hW hF
 have ho : RZ6f[10]? = some (⟨some 23, .move (.tmp 4), 3, "ref.go:364", #[⟨4, .guard⟩], some (4, true)⟩ : Oper) := by kernel_rfl
 have hg : val RZ6f c 4 = .bool false := hF 4 (by decide)
 refine does_not ho ((want_val rfl hg).trans rfl) rfl
set_option maxRecDepth 10000 in
theorem oZ6f_11 : stepZ6f ad n cap j bl off m lc ii Q 11 := by
 intro c w hb hW hF
 have ho : RZ6f[11]? = some (⟨some 24, .indexAddr 24 (.tmp 22) (.tmp 23), 0, "ref.go:364", #[⟨9, .data⟩, ⟨10, .data⟩, ⟨4, .guard⟩], some (4, true)⟩ : Oper) := by kernel_rfl
 have hg : val RZ6f c 4 = .bool false := hF 4 (by decide)
 refine does_not ho ((want_val rfl hg).trans rfl) rfl
set_option maxRecDepth 10000 in
theorem oZ6f_12 : stepZ6f ad n cap j bl off m lc ii Q 12 := by
 intro c w hb hW hF
 have ho : RZ6f[12]? = some (⟨some 25, .load 26 (.tmp 24), 26, "ref.go:364", #[⟨11, .data⟩, ⟨4, .guard⟩], some (4, true)⟩ : Oper) := by kernel_rfl
 have hg : val RZ6f c 4 = .bool false := hF 4 (by decide)
 refine does_not ho ((want_val rfl hg).trans rfl) rfl
set_option maxRecDepth 10000 in
theorem oZ6f_13 : stepZ6f ad n cap j bl off m lc ii Q 13 := by
 intro c w hb hW hF
 have ho : RZ6f[13]? = some (⟨some 26, .call { callee := .value (.func 30), args := #[.tmp 21, .tmp 25], argTypes := #[26, 26] }, 3, "ref.go:364", #[⟨8, .data⟩, ⟨12, .data⟩, ⟨4, .chain⟩, ⟨4, .guard⟩], some (4, true)⟩ : Oper) := by kernel_rfl
 have hg : val RZ6f c 4 = .bool false := hF 4 (by decide)
 refine does_not ho ((want_val rfl hg).trans rfl) rfl
set_option maxRecDepth 10000 in
theorem oZ6f_14 : stepZ6f ad n cap j bl off m lc ii Q 14 := by
 intro c w hb hW hF
 have ho : RZ6f[14]? = some (⟨some 27, .binOp .leq 3 (.tmp 26) (.const (Value.int .i64 0)) 3, 4, "ref.go:364", #[⟨13, .data⟩, ⟨4, .guard⟩], some (4, true)⟩ : Oper) := by kernel_rfl
 have hg : val RZ6f c 4 = .bool false := hF 4 (by decide)
 refine does_not ho ((want_val rfl hg).trans rfl) rfl
set_option maxRecDepth 10000 in
theorem oZ6f_15 : stepZ6f ad n cap j bl off m lc ii Q 15 := by
 intro c w hb hW hF
 have ho : RZ6f[15]? = some (⟨some 28, .pick (.tmp 17) (.tmp 27) (.const (Value.bool false)), 4, "ref.go:364", #[⟨4, .data⟩, ⟨14, .data⟩], none⟩ : Oper) := by kernel_rfl
 have e17 : c.eval (.tmp 17) = .bool false := fact_at (p := eqv (.bool false)) (by kernel_rfl) rfl (hF 4 (by decide))
 have e27 : c.eval (.tmp 27) = undef := fact_at (p := eqv undef) (by kernel_rfl) rfl (hF 14 (by decide))
 have hw := wnZ6f (c := c) ho rfl
 have ec : ∀ v, c.eval (.const v) = v := fun _ => rfl
 have ef : ∀ f, c.eval (.func f) = .func (.func f) #[] #[] := fun _ => rfl
 refine does_value ho hw (v := .bool false) ?_ rfl (Below.refl _ _)
 generalize c.eval = ρ at *
 clear hF hb hW hw ho
 go_simp
end
theorem stableZ6f (ad : Option Addr) (n cap j bl off m lc ii : Nat) : ∀ pr ∈ factsZ6f ad n cap j bl off m lc ii, Stable pr := by
 unfold factsZ6f
 refine List.forall_mem_cons.2 ⟨eqv_stable _, ?_⟩
 refine List.forall_mem_cons.2 ⟨eqv_stable _, ?_⟩
 refine List.forall_mem_cons.2 ⟨eqv_stable _, ?_⟩
 refine List.forall_mem_cons.2 ⟨eqv_stable _, ?_⟩
 refine List.forall_mem_cons.2 ⟨eqv_stable _, ?_⟩
 refine List.forall_mem_cons.2 ⟨eqv_stable _, ?_⟩
 refine List.forall_mem_cons.2 ⟨eqv_stable _, ?_⟩
 refine List.forall_mem_cons.2 ⟨eqv_stable _, ?_⟩
 refine List.forall_mem_cons.2 ⟨eqv_stable _, ?_⟩
 refine List.forall_mem_cons.2 ⟨eqv_stable _, ?_⟩
 refine List.forall_mem_cons.2 ⟨eqv_stable _, ?_⟩
 refine List.forall_mem_cons.2 ⟨eqv_stable _, ?_⟩
 refine List.forall_mem_cons.2 ⟨eqv_stable _, ?_⟩
 refine List.forall_mem_cons.2 ⟨eqv_stable _, ?_⟩
 refine List.forall_mem_cons.2 ⟨eqv_stable _, ?_⟩
 refine List.forall_mem_cons.2 ⟨eqv_stable _, ?_⟩
 exact List.forall_mem_nil _
set_option maxRecDepth 100000 in
theorem allZ6f (ad : Option Addr) (n cap j bl off m lc ii : Nat) (Q : Exit → Act → World → Prop) : ∀ i, i < 16 → (fun i => ∀ c w, BaseZ6f ad n cap j bl off m lc ii c → WorldZ6f ad n cap j bl off m lc ii w → (∀ q0 ∈ ancZ6f i, factsAt (factsZ6f ad n cap j bl off m lc ii) q0 (val RZ6f c q0) w) → Does Tryz.prog RZ6f Q (factsAt (factsZ6f ad n cap j bl off m lc ii)) i c w) i := by
 refine below_succ ?_ (fun c w => oZ6f_15 ad n cap j bl off m lc ii Q c w)
 refine below_succ ?_ (fun c w => oZ6f_14 ad n cap j bl off m lc ii Q c w)
 refine below_succ ?_ (fun c w => oZ6f_13 ad n cap j bl off m lc ii Q c w)
 refine below_succ ?_ (fun c w => oZ6f_12 ad n cap j bl off m lc ii Q c w)
 refine below_succ ?_ (fun c w => oZ6f_11 ad n cap j bl off m lc ii Q c w)
 refine below_succ ?_ (fun c w => oZ6f_10 ad n cap j bl off m lc ii Q c w)
 refine below_succ ?_ (fun c w => oZ6f_9 ad n cap j bl off m lc ii Q c w)
 refine below_succ ?_ (fun c w => oZ6f_8 ad n cap j bl off m lc ii Q c w)
 refine below_succ ?_ (fun c w => oZ6f_7 ad n cap j bl off m lc ii Q c w)
 refine below_succ ?_ (fun c w => oZ6f_6 ad n cap j bl off m lc ii Q c w)
 refine below_succ ?_ (fun c w => oZ6f_5 ad n cap j bl off m lc ii Q c w)
 refine below_succ ?_ (fun c w => oZ6f_4 ad n cap j bl off m lc ii Q c w)
 refine below_succ ?_ (fun c w => oZ6f_3 ad n cap j bl off m lc ii Q c w)
 refine below_succ ?_ (fun c w => oZ6f_2 ad n cap j bl off m lc ii Q c w)
 refine below_succ ?_ (fun c w => oZ6f_1 ad n cap j bl off m lc ii Q c w)
 refine below_succ ?_ (fun c w => oZ6f_0 ad n cap j bl off m lc ii Q c w)
 exact below_zero
theorem regionZ6f (ad : Option Addr) (n cap j bl off m lc ii : Nat) (Q : Exit → Act → World → Prop) (base : Act) (w0 : World) (hsz : base.tmps.size = 48) (hb : BaseZ6f ad n cap j bl off m lc ii base)
  (hW : ∀ w, Below w0.heap.size w0 w → WorldZ6f ad n cap j bl off m lc ii w) (hQ : ∀ c w, Same RZ6f base c → Below w0.heap.size w0 w → c.eval (.tmp 28) = .bool false → Q .normal c w) : (Code.region 6 RZ6f true).wp Tryz.prog Q base w0 := by
 refine facts_rule (A := ancZ6f) (F := factsAt (factsZ6f ad n cap j bl off m lc ii)) (by kernel_rfl) (by rw [hsz]; kernel_rfl) (fun i v w w' => factsAt_stable (stableZ6f ad n cap j bl off m lc ii) i v w w') ?_ ?_
 ·intro i hi c w hS hB hF
  exact allZ6f ad n cap j bl off m lc ii Q i (by rwa [show RZ6f.size = 16 by kernel_rfl] at hi) c w ⟨(same_eval hS (by kernel_rfl)).trans hb.t0, (same_eval hS (by kernel_rfl)).trans hb.t3, (same_eval hS (by kernel_rfl)).trans hb.t4, (same_eval hS (by kernel_rfl)).trans hb.t5⟩ (hW w hB) hF
 ·intro c w hS hB hF
  exact hQ c w hS hB (fact_at (p := eqv (.bool false)) (by kernel_rfl) rfl (hF 15 (by rw [show RZ6f.size = 16 by kernel_rfl]; omega)))
end Go.Proofs.YtbpmhgcjefpigaaGreatDoor

namespace Go.Proofs.YtbpmhgcjefpigaaGreatDoor
open Go.RowKit
set_option linter.unusedVariables false
variable {P : Program} {ops : Array Oper} {Q : Exit → Act → World → Prop}
theorem facts_ruleK {A : Nat → List Nat} {F : Nat → Value → World → Prop} {base : Act} {w0 : World} {id : Nat} (k : Nat) (old : Value) (hold : val ops base k = old)
  (hm : P.follows .mixedOrders = true) (hok : writesOk ops base.tmps.size A = true) (hdst : ∀ i, i < ops.size → ∃ d, slotOf ops i = some d)
  (hmono : ∀ i v w w', F i v w → Below w.heap.size w w' → F i v w')
  (hop : ∀ i, i < ops.size → ∀ a w, Same ops base a → Below w0.heap.size w0 w → (i ∈ A k ∨ i = k → val ops a k = old) → (∀ j ∈ A i, F j (val ops a j) w) → Does P ops Q F i a w)
  (hend : ∀ a w, Same ops base a → Below w0.heap.size w0 w → (∀ i, i < ops.size → F i (val ops a i) w) → Q .normal a w) :
  (Code.region id ops true).wp P Q base w0 := by
 refine writes_rule (A := A) (G := fun _ _ => True) (S := fun l vs w => Below w0.heap.size w0 w ∧ (∀ i, l i = true → i < ops.size → F i (vs i) w) ∧ (l k = false → vs k = old)) hm hok ⟨(Below.refl _ _).drew, fun i h => (by cases h), fun _ => hold⟩ ?_ ?_
 ·rintro i hi l a w hS hli hcl hA ⟨hB, hF, hK⟩
  have hlt : ∀ j ∈ A i, j < ops.size := by
   obtain ⟨o, ho, hs, hdn, hlt, _, hAA⟩ := laid_of hok i hi
   have key : ∀ n i, i < n → i < ops.size → ∀ j ∈ A i, j < ops.size := by
    intro n
    induction n with
    | zero => intro i h; omega
    | succ n ih =>
     intro i h hi j hj
     obtain ⟨o, _, _, _, hlt, _, hAA⟩ := laid_of hok i hi
     obtain ⟨e, he, hb, hor⟩ := hAA j hj
     have h1 := hlt e he hb
     rcases hor with rfl | h2
     ·omega
     ·exact ih e.on (by omega) (by omega) j h2
   exact key (i + 1) i (by omega) hi
  have hold' : i ∈ A k ∨ i = k → val ops a k = old := fun hik => hK (by
   cases h : l k with
   | false => rfl
   | true =>
    rcases hik with hik | hik
    ·have := hcl k h i hik; rw [hli] at this; cases this
    ·rw [hik, h] at hli; cases hli)
  refine wpOp_mono ?_ (hop i hi a w hS hB hold' (fun j hj => hF j (hA j hj).1 (hlt j hj)))
  rintro a' w' ⟨v, rfl, hFi, hb⟩
  obtain ⟨d, hd⟩ := hdst i hi
  obtain ⟨o, ho, hs, hdn, _, _, _⟩ := laid_of hok i hi
  have hsz : d < a.tmps.size := by rw [hS.2.1]; exact hdn d (hs ▸ hd)
  have hv := val_put ho (hs ▸ hd : o.dst = some d) hsz v
  refine ⟨v, rfl, trivial, hB.trans (hb.mono hB.size), fun j hj hjs => ?_, fun hk => ?_⟩
  ·by_cases e : j = i
   ·subst e; rw [upd_same, hv]; exact hFi
   ·rw [upd_other _ _ e] at hj ⊢
    exact hmono _ _ _ _ (hF j hj hjs) hb
  ·by_cases e : k = i
   ·subst e; rw [upd_same] at hk; cases hk
   ·rw [upd_other _ _ e] at hk ⊢
    exact hK hk
 ·rintro l a w hS hall ⟨hB, hF, hK⟩
  exact hend a w hS hB fun i hi => hF i (hall i hi).1 hi
end Go.Proofs.YtbpmhgcjefpigaaGreatDoor

namespace Go.Proofs.YtbpmhgcjefpigaaGreatDoor
open Go.RowKit Go.WideShapes Go.Shelf
set_option linter.unusedVariables false
set_option linter.unusedSimpArgs false
noncomputable def RU9t : Array Oper := regionAt Tryz.f49 9
def ancU9t (i : Nat) : List Nat := ([[], [0], [1], [1], [1, 2, 3], [1, 4], [1], [1], [1, 6, 7], [1, 8], [1, 5, 9], [1, 10], [1, 11], [0, 1, 2, 3, 4, 5, 6, 7, 8, 9, 10, 11, 12]] : List (List Nat)).getD i []
def factsU9t (g n cap j bl off m lc ii : Nat) (cm : Int) (n0 n1 n2 n3 n4 n5 a0 a1 a2 a3 a4 a5 : Value) : List (Value → World → Prop) :=
 [eqv (.bool true), eqv (.bool true), eqv undef, eqv undef, eqv undef, eqv undef, eqv undef, eqv undef, eqv undef, eqv undef, eqv undef, eqv undef, eqv (.bool true), eqv (.bool true)]
structure BaseU9t (g n cap j bl off m lc ii : Nat) (cm : Int) (n0 n1 n2 n3 n4 n5 a0 a1 a2 a3 a4 a5 : Value) (c : Act) : Prop where
 t0 : c.eval (.tmp 0) = .slice (some ⟨bl, off, none⟩) m lc
 t3 : c.eval (.tmp 3) = .slice (some ⟨g, 0, none⟩) n cap
 t4 : c.eval (.tmp 4) = .int .i64 (ii : Int)
 t6 : c.eval (.tmp 6) = .int .i64 (j : Int)
 t5 : c.eval (.tmp 5) = .bool true
structure WorldU9t (g n cap j bl off m lc ii : Nat) (cm : Int) (n0 n1 n2 n3 n4 n5 a0 a1 a2 a3 a4 a5 : Value) (w : World) : Prop where
 ok : True
def stepU9t (g n cap j bl off m lc ii : Nat) (cm : Int) (n0 n1 n2 n3 n4 n5 a0 a1 a2 a3 a4 a5 : Value) (Q : Exit → Act → World → Prop) (i : Nat) : Prop := ∀ (c : Act) (w : World), BaseU9t g n cap j bl off m lc ii cm n0 n1 n2 n3 n4 n5 a0 a1 a2 a3 a4 a5 c → WorldU9t g n cap j bl off m lc ii cm n0 n1 n2 n3 n4 n5 a0 a1 a2 a3 a4 a5 w → (∀ q0 ∈ ancU9t i, factsAt (factsU9t g n cap j bl off m lc ii cm n0 n1 n2 n3 n4 n5 a0 a1 a2 a3 a4 a5) q0 (val RU9t c q0) w) → Does Tryz.prog RU9t Q (factsAt (factsU9t g n cap j bl off m lc ii cm n0 n1 n2 n3 n4 n5 a0 a1 a2 a3 a4 a5)) i c w
theorem wnU9t {i : Nat} {o : Oper} {c : Act} (ho : RU9t[i]? = some o) (h : o.guard = none) : Region.wanted o (yielded RU9t c.tmps) = true := want_none h
section
variable (g n cap j bl off m lc ii : Nat) (cm : Int) (n0 n1 n2 n3 n4 n5 a0 a1 a2 a3 a4 a5 : Value) (Q : Exit → Act → World → Prop)
set_option maxRecDepth 10000 in
theorem oU9t_0 : stepU9t g n cap j bl off m lc ii cm n0 n1 n2 n3 n4 n5 a0 a1 a2 a3 a4 a5 Q 0 := by
 intro c w hb hW hF
 have ho : RU9t[0]? = some (⟨some 19, .move (.tmp 5), 4, "ref.go:380", #[], none⟩ : Oper) := by kernel_rfl
 have e5 := hb.t5
 have hw := wnU9t (c := c) ho rfl
 have ec : ∀ v, c.eval (.const v) = v := fun _ => rfl
 have ef : ∀ f, c.eval (.func f) = .func (.func f) #[] #[] := fun _ => rfl
 refine does_value ho hw (v := .bool true) ?_ rfl (Below.refl _ _)
 generalize c.eval = ρ at *
 clear hF hb hW hw ho
 go_simp
set_option maxRecDepth 10000 in
theorem oU9t_1 : stepU9t g n cap j bl off m lc ii cm n0 n1 n2 n3 n4 n5 a0 a1 a2 a3 a4 a5 Q 1 := by
 intro c w hb hW hF
 have ho : RU9t[1]? = some (⟨some 20, .move (.tmp 19), 4, "ref.go:380", #[⟨0, .data⟩], none⟩ : Oper) := by kernel_rfl
 have e19 : c.eval (.tmp 19) = .bool true := fact_at (p := eqv (.bool true)) (by kernel_rfl) rfl (hF 0 (by decide))
 have hw := wnU9t (c := c) ho rfl
 have ec : ∀ v, c.eval (.const v) = v := fun _ => rfl
 have ef : ∀ f, c.eval (.func f) = .func (.func f) #[] #[] := fun _ => rfl
 refine does_value ho hw (v := .bool true) ?_ rfl (Below.refl _ _)
 generalize c.eval = ρ at *
 clear hF hb hW hw ho
 go_simp
set_option maxRecDepth 10000 in
theorem oU9t_2 : stepU9t g n cap j bl off m lc ii cm n0 n1 n2 n3 n4 n5 a0 a1 a2 a3 a4 a5 Q 2 := by
 intro c w hb hW hF
 have ho : RU9t[2]? = some (⟨some 21, .move (.tmp 3), 24, "ref.go:380", #[⟨1, .guard⟩], some (1, false)⟩ : Oper) := by kernel_rfl
 have hg : val RU9t c 1 = .bool true := hF 1 (by decide)
 refine does_not ho ((want_val rfl hg).trans rfl) rfl
set_option maxRecDepth 10000 in
theorem oU9t_3 : stepU9t g n cap j bl off m lc ii cm n0 n1 n2 n3 n4 n5 a0 a1 a2 a3 a4 a5 Q 3 := by
 intro c w hb hW hF
 have ho : RU9t[3]? = some (⟨some 22, .move (.tmp 6), 3, "ref.go:380", #[⟨1, .guard⟩], some (1, false)⟩ : Oper) := by kernel_rfl
 have hg : val RU9t c 1 = .bool true := hF 1 (by decide)
 refine does_not ho ((want_val rfl hg).trans rfl) rfl
set_option maxRecDepth 10000 in
theorem oU9t_4 : stepU9t g n cap j bl off m lc ii cm n0 n1 n2 n3 n4 n5 a0 a1 a2 a3 a4 a5 Q 4 := by
 intro c w hb hW hF
 have ho : RU9t[4]? = some (⟨some 23, .indexAddr 24 (.tmp 21) (.tmp 22), 0, "ref.go:380", #[⟨2, .data⟩, ⟨3, .data⟩, ⟨1, .guard⟩], some (1, false)⟩ : Oper) := by kernel_rfl
 have hg : val RU9t c 1 = .bool true := hF 1 (by decide)
 refine does_not ho ((want_val rfl hg).trans rfl) rfl
set_option maxRecDepth 10000 in
theorem oU9t_5 : stepU9t g n cap j bl off m lc ii cm n0 n1 n2 n3 n4 n5 a0 a1 a2 a3 a4 a5 Q 5 := by
 intro c w hb hW hF
 have ho : RU9t[5]? = some (⟨some 24, .load 26 (.tmp 23), 26, "ref.go:380", #[⟨4, .data⟩, ⟨1, .guard⟩], some (1, false)⟩ : Oper) := by kernel_rfl
 have hg : val RU9t c 1 = .bool true := hF 1 (by decide)
 refine does_not ho ((want_val rfl hg).trans rfl) rfl
set_option maxRecDepth 10000 in
theorem oU9t_6 : stepU9t g n cap j bl off m lc ii cm n0 n1 n2 n3 n4 n5 a0 a1 a2 a3 a4 a5 Q 6 := by
 intro c w hb hW hF
 have ho : RU9t[6]? = some (⟨some 25, .move (.tmp 0), 24, "ref.go:380", #[⟨1, .guard⟩], some (1, false)⟩ : Oper) := by kernel_rfl
 have hg : val RU9t c 1 = .bool true := hF 1 (by decide)
 refine does_not ho ((want_val rfl hg).trans rfl) rfl
set_option maxRecDepth 10000 in
theorem oU9t_7 : stepU9t g n cap j bl off m lc ii cm n0 n1 n2 n3 n4 n5 a0 a1 a2 a3 a4 a5 Q 7 := by
 intro c w hb hW hF
 have ho : RU9t[7]? = some (⟨some 26, .move (.tmp 4), 3, "ref.go:380", #[⟨1, .guard⟩], some (1, false)⟩ : Oper) := by kernel_rfl
 have hg : val RU9t c 1 = .bool true := hF 1 (by decide)
 refine does_not ho ((want_val rfl hg).trans rfl) rfl
set_option maxRecDepth 10000 in
theorem oU9t_8 : stepU9t g n cap j bl off m lc ii cm n0 n1 n2 n3 n4 n5 a0 a1 a2 a3 a4 a5 Q 8 := by
 intro c w hb hW hF
 have ho : RU9t[8]? = some (⟨some 27, .indexAddr 24 (.tmp 25) (.tmp 26), 0, "ref.go:380", #[⟨6, .data⟩, ⟨7, .data⟩, ⟨1, .guard⟩], some (1, false)⟩ : Oper) := by kernel_rfl
 have hg : val RU9t c 1 = .bool true := hF 1 (by decide)
 refine does_not ho ((want_val rfl hg).trans rfl) rfl
set_option maxRecDepth 10000 in
theorem oU9t_9 : stepU9t g n cap j bl off m lc ii cm n0 n1 n2 n3 n4 n5 a0 a1 a2 a3 a4 a5 Q 9 := by
 intro c w hb hW hF
 have ho : RU9t[9]? = some (⟨some 28, .load 26 (.tmp 27), 26, "ref.go:380", #[⟨8, .data⟩, ⟨1, .guard⟩], some (1, false)⟩ : Oper) := by kernel_rfl
 have hg : val RU9t c 1 = .bool true := hF 1 (by decide)
 refine does_not ho ((want_val rfl hg).trans rfl) rfl
set_option maxRecDepth 10000 in
theorem oU9t_10 : stepU9t g n cap j bl off m lc ii cm n0 n1 n2 n3 n4 n5 a0 a1 a2 a3 a4 a5 Q 10 := by
 intro c w hb hW hF
 have ho : RU9t[10]? = some (⟨some 29, .call { callee := .value (.func 30), args := #[.tmp 24, .tmp 28], argTypes := #[26, 26] }, 3, "ref.go:380", #[⟨5, .data⟩, ⟨9, .data⟩, ⟨1, .chain⟩, ⟨1, .guard⟩], some (1, false)⟩ : Oper) := by kernel_rfl
 have hg : val RU9t c 1 = .bool true := hF 1 (by decide)
 refine does_not ho ((want_val rfl hg).trans rfl) rfl
set_option maxRecDepth 10000 in
theorem oU9t_11 : stepU9t g n cap j bl off m lc ii cm n0 n1 n2 n3 n4 n5 a0 a1 a2 a3 a4 a5 Q 11 := by
 intro c w hb hW hF
 have ho : RU9t[11]? = some (⟨some 30, .binOp .eql 3 (.tmp 29) (.const (Value.int .i64 0)) 3, 4, "ref.go:380", #[⟨10, .data⟩, ⟨1, .guard⟩], some (1, false)⟩ : Oper) := by kernel_rfl
 have hg : val RU9t c 1 = .bool true := hF 1 (by decide)
 refine does_not ho ((want_val rfl hg).trans rfl) rfl
set_option maxRecDepth 10000 in
theorem oU9t_12 : stepU9t g n cap j bl off m lc ii cm n0 n1 n2 n3 n4 n5 a0 a1 a2 a3 a4 a5 Q 12 := by
 intro c w hb hW hF
 have ho : RU9t[12]? = some (⟨some 31, .pick (.tmp 20) (.const (Value.bool true)) (.tmp 30), 4, "ref.go:380", #[⟨1, .data⟩, ⟨11, .data⟩], none⟩ : Oper) := by kernel_rfl
 have e20 : c.eval (.tmp 20) = .bool true := fact_at (p := eqv (.bool true)) (by kernel_rfl) rfl (hF 1 (by decide))
 have e30 : c.eval (.tmp 30) = undef := fact_at (p := eqv undef) (by kernel_rfl) rfl (hF 11 (by decide))
 have hw := wnU9t (c := c) ho rfl
 have ec : ∀ v, c.eval (.const v) = v := fun _ => rfl
 have ef : ∀ f, c.eval (.func f) = .func (.func f) #[] #[] := fun _ => rfl
 refine does_value ho hw (v := .bool true) ?_ rfl (Below.refl _ _)
 generalize c.eval = ρ at *
 clear hF hb hW hw ho
 go_simp
set_option maxRecDepth 10000 in
theorem oU9t_13 : stepU9t g n cap j bl off m lc ii cm n0 n1 n2 n3 n4 n5 a0 a1 a2 a3 a4 a5 Q 13 := by
 intro c w hb hW hF
 have ho : RU9t[13]? = some (⟨some 5, .assign (.tmp 31), 4, "ref.go:380", #[⟨12, .data⟩, ⟨10, .chain⟩, ⟨0, .phase⟩, ⟨1, .phase⟩, ⟨2, .phase⟩, ⟨3, .phase⟩, ⟨4, .phase⟩, ⟨5, .phase⟩, ⟨6, .phase⟩, ⟨7, .phase⟩, ⟨8, .phase⟩, ⟨9, .phase⟩, ⟨10, .phase⟩, ⟨11, .phase⟩, ⟨12, .phase⟩], none⟩ : Oper) := by kernel_rfl
 have e31 : c.eval (.tmp 31) = .bool true := fact_at (p := eqv (.bool true)) (by kernel_rfl) rfl (hF 12 (by decide))
 have hw := wnU9t (c := c) ho rfl
 have ec : ∀ v, c.eval (.const v) = v := fun _ => rfl
 have ef : ∀ f, c.eval (.func f) = .func (.func f) #[] #[] := fun _ => rfl
 refine does_value ho hw (v := .bool true) ?_ rfl (Below.refl _ _)
 generalize c.eval = ρ at *
 clear hF hb hW hw ho
 go_simp
end
theorem stableU9t (g n cap j bl off m lc ii : Nat) (cm : Int) (n0 n1 n2 n3 n4 n5 a0 a1 a2 a3 a4 a5 : Value) : ∀ pr ∈ factsU9t g n cap j bl off m lc ii cm n0 n1 n2 n3 n4 n5 a0 a1 a2 a3 a4 a5, Stable pr := by
 unfold factsU9t
 refine List.forall_mem_cons.2 ⟨eqv_stable _, ?_⟩
 refine List.forall_mem_cons.2 ⟨eqv_stable _, ?_⟩
 refine List.forall_mem_cons.2 ⟨eqv_stable _, ?_⟩
 refine List.forall_mem_cons.2 ⟨eqv_stable _, ?_⟩
 refine List.forall_mem_cons.2 ⟨eqv_stable _, ?_⟩
 refine List.forall_mem_cons.2 ⟨eqv_stable _, ?_⟩
 refine List.forall_mem_cons.2 ⟨eqv_stable _, ?_⟩
 refine List.forall_mem_cons.2 ⟨eqv_stable _, ?_⟩
 refine List.forall_mem_cons.2 ⟨eqv_stable _, ?_⟩
 refine List.forall_mem_cons.2 ⟨eqv_stable _, ?_⟩
 refine List.forall_mem_cons.2 ⟨eqv_stable _, ?_⟩
 refine List.forall_mem_cons.2 ⟨eqv_stable _, ?_⟩
 refine List.forall_mem_cons.2 ⟨eqv_stable _, ?_⟩
 refine List.forall_mem_cons.2 ⟨eqv_stable _, ?_⟩
 exact List.forall_mem_nil _
set_option maxRecDepth 100000 in
theorem allU9t (g n cap j bl off m lc ii : Nat) (cm : Int) (n0 n1 n2 n3 n4 n5 a0 a1 a2 a3 a4 a5 : Value) (Q : Exit → Act → World → Prop) : ∀ i, i < 14 → (fun i => ∀ c w, BaseU9t g n cap j bl off m lc ii cm n0 n1 n2 n3 n4 n5 a0 a1 a2 a3 a4 a5 c → WorldU9t g n cap j bl off m lc ii cm n0 n1 n2 n3 n4 n5 a0 a1 a2 a3 a4 a5 w → (∀ q0 ∈ ancU9t i, factsAt (factsU9t g n cap j bl off m lc ii cm n0 n1 n2 n3 n4 n5 a0 a1 a2 a3 a4 a5) q0 (val RU9t c q0) w) → Does Tryz.prog RU9t Q (factsAt (factsU9t g n cap j bl off m lc ii cm n0 n1 n2 n3 n4 n5 a0 a1 a2 a3 a4 a5)) i c w) i := by
 refine below_succ ?_ (fun c w => oU9t_13 g n cap j bl off m lc ii cm n0 n1 n2 n3 n4 n5 a0 a1 a2 a3 a4 a5 Q c w)
 refine below_succ ?_ (fun c w => oU9t_12 g n cap j bl off m lc ii cm n0 n1 n2 n3 n4 n5 a0 a1 a2 a3 a4 a5 Q c w)
 refine below_succ ?_ (fun c w => oU9t_11 g n cap j bl off m lc ii cm n0 n1 n2 n3 n4 n5 a0 a1 a2 a3 a4 a5 Q c w)
 refine below_succ ?_ (fun c w => oU9t_10 g n cap j bl off m lc ii cm n0 n1 n2 n3 n4 n5 a0 a1 a2 a3 a4 a5 Q c w)
 refine below_succ ?_ (fun c w => oU9t_9 g n cap j bl off m lc ii cm n0 n1 n2 n3 n4 n5 a0 a1 a2 a3 a4 a5 Q c w)
 refine below_succ ?_ (fun c w => oU9t_8 g n cap j bl off m lc ii cm n0 n1 n2 n3 n4 n5 a0 a1 a2 a3 a4 a5 Q c w)
 refine below_succ ?_ (fun c w => oU9t_7 g n cap j bl off m lc ii cm n0 n1 n2 n3 n4 n5 a0 a1 a2 a3 a4 a5 Q c w)
 refine below_succ ?_ (fun c w => oU9t_6 g n cap j bl off m lc ii cm n0 n1 n2 n3 n4 n5 a0 a1 a2 a3 a4 a5 Q c w)
 refine below_succ ?_ (fun c w => oU9t_5 g n cap j bl off m lc ii cm n0 n1 n2 n3 n4 n5 a0 a1 a2 a3 a4 a5 Q c w)
 refine below_succ ?_ (fun c w => oU9t_4 g n cap j bl off m lc ii cm n0 n1 n2 n3 n4 n5 a0 a1 a2 a3 a4 a5 Q c w)
 refine below_succ ?_ (fun c w => oU9t_3 g n cap j bl off m lc ii cm n0 n1 n2 n3 n4 n5 a0 a1 a2 a3 a4 a5 Q c w)
 refine below_succ ?_ (fun c w => oU9t_2 g n cap j bl off m lc ii cm n0 n1 n2 n3 n4 n5 a0 a1 a2 a3 a4 a5 Q c w)
 refine below_succ ?_ (fun c w => oU9t_1 g n cap j bl off m lc ii cm n0 n1 n2 n3 n4 n5 a0 a1 a2 a3 a4 a5 Q c w)
 refine below_succ ?_ (fun c w => oU9t_0 g n cap j bl off m lc ii cm n0 n1 n2 n3 n4 n5 a0 a1 a2 a3 a4 a5 Q c w)
 exact below_zero
theorem dstU9t : ∀ i, i < RU9t.size → ∃ d, slotOf RU9t i = some d := by
 intro i hi
 rw [show RU9t.size = 14 by kernel_rfl] at hi
 match i, hi with
 | 0, _ => exact ⟨19, by kernel_rfl⟩
 | 1, _ => exact ⟨20, by kernel_rfl⟩
 | 2, _ => exact ⟨21, by kernel_rfl⟩
 | 3, _ => exact ⟨22, by kernel_rfl⟩
 | 4, _ => exact ⟨23, by kernel_rfl⟩
 | 5, _ => exact ⟨24, by kernel_rfl⟩
 | 6, _ => exact ⟨25, by kernel_rfl⟩
 | 7, _ => exact ⟨26, by kernel_rfl⟩
 | 8, _ => exact ⟨27, by kernel_rfl⟩
 | 9, _ => exact ⟨28, by kernel_rfl⟩
 | 10, _ => exact ⟨29, by kernel_rfl⟩
 | 11, _ => exact ⟨30, by kernel_rfl⟩
 | 12, _ => exact ⟨31, by kernel_rfl⟩
 | 13, _ => exact ⟨5, by kernel_rfl⟩
theorem regionU9t (g n cap j bl off m lc ii : Nat) (cm : Int) (n0 n1 n2 n3 n4 n5 a0 a1 a2 a3 a4 a5 : Value) (Q : Exit → Act → World → Prop) (base : Act) (w0 : World) (hsz : base.tmps.size = 42) (hb : BaseU9t g n cap j bl off m lc ii cm n0 n1 n2 n3 n4 n5 a0 a1 a2 a3 a4 a5 base)
  (hW : ∀ w, Below w0.heap.size w0 w → WorldU9t g n cap j bl off m lc ii cm n0 n1 n2 n3 n4 n5 a0 a1 a2 a3 a4 a5 w) (hQ : ∀ c w, Same RU9t base c → Below w0.heap.size w0 w → c.eval (.tmp 5) = .bool true → Q .normal c w) : (Code.region 9 RU9t true).wp Tryz.prog Q base w0 := by
 refine facts_ruleK 13 (.bool true) ((val_eq (show slotOf RU9t 13 = some 5 by kernel_rfl)).trans hb.t5) (A := ancU9t) (F := factsAt (factsU9t g n cap j bl off m lc ii cm n0 n1 n2 n3 n4 n5 a0 a1 a2 a3 a4 a5)) (by kernel_rfl) (by rw [hsz]; kernel_rfl) (dstU9t) (fun i v w w' => factsAt_stable (stableU9t g n cap j bl off m lc ii cm n0 n1 n2 n3 n4 n5 a0 a1 a2 a3 a4 a5) i v w w') ?_ ?_
 ·intro i hi c w hS hB hold hF
  have hlt : i < 14 := by rwa [show RU9t.size = 14 by kernel_rfl] at hi
  exact allU9t g n cap j bl off m lc ii cm n0 n1 n2 n3 n4 n5 a0 a1 a2 a3 a4 a5 Q i (by rwa [show RU9t.size = 14 by kernel_rfl] at hi) c w ⟨(same_eval hS (by kernel_rfl)).trans hb.t0, (same_eval hS (by kernel_rfl)).trans hb.t3, (same_eval hS (by kernel_rfl)).trans hb.t4, (same_eval hS (by kernel_rfl)).trans hb.t6, (val_eq (show slotOf RU9t 13 = some 5 by kernel_rfl)).symm.trans (hold ((show ∀ i, i < 14 → (i ∈ ancU9t 13 ∨ i = 13) by decide) i hlt))⟩ (hW w hB) hF
 ·intro c w hS hB hF
  exact hQ c w hS hB (fact_at (p := eqv (.bool true)) (by kernel_rfl) rfl (hF 13 (by rw [show RU9t.size = 14 by kernel_rfl]; omega)))
end Go.Proofs.YtbpmhgcjefpigaaGreatDoor

