/- A graph's counts: the region of Count that draws its order. The first row of each key, by definition. The small functions: what a row's key is, its number. A row of the call's own, and some zeros more. -/
import Derived.Test.YthfilnflgahcjaaGreatDoorJoin3
import Derived.Test.YthfilnflgahcjaaGreatDoorJoin4
import Derived.Test.YthfilnflgahcjaaGreatDoorJoin6
import Derived.Test.YthfilnflgahcjaaGreatDoorJoin5
import Derived.Lib.AppendZeros
namespace Go.Proofs.YthfilnflgahcjaaGreatDoor
open Go.RowKit Go.Shelf Go.Maps
set_option linter.unusedVariables false
set_option linter.unusedSimpArgs false
attribute [local go_sem] Oper.semAt_some
section
variable {P : Program} {ops : Array Oper} {Q : Exit → Act → World → Prop}
theorem factsA_any {A : Nat → List Nat} {F : Nat → Value → World → Prop} {base : Act} {w0 : World}
    (hok : factsOk .any ops base.tmps.size A = true)
    (hmono : ∀ i v w w', F i v w → Below w.heap.size w w' → F i v w')
    (hop : ∀ i, i < ops.size → ∀ a w, Same ops base a → Below w0.heap.size w0 w → (∀ j ∈ A i, F j (val ops a j) w) → Does P ops Q F i a w)
    (hend : ∀ a w, Same ops base a → Below w0.heap.size w0 w → (∀ i, i < ops.size → F i (val ops a i) w) → Q .normal a w) :
    wpAny P .any ops Q ops.size (Array.replicate ops.size false) base { w0 with drawn := w0.drawn + 1 } := by
  have hall := ordered_of hok
  refine wpAny_inv (Inv ops A F base w0) (inv_step hall hmono hop) ?_ _ _ _ _ (by rw [left_new]; exact Nat.le_refl _) (inv_start (Below.refl _ w0).drew)
  rintro listed a w ⟨hsz, hS, hB, hF⟩ hr
  have hlist : ∀ i, i < ops.size → listed.getD i false = true := by
    intro i
    induction i using Nat.strongRecOn with
    | _ i ih =>
      intro hi
      obtain ⟨o, d, ho, hd, hs, hdn, hlt, _, _⟩ := hall i hi
      by_cases h : listed.getD i true = true
      · simpa [Array.getD, hsz, hi] using h
      · have hf : listed.getD i true = false := by simpa using h
        have : i ∈ Region.ready .any ops listed := mem_ready.2 ⟨hf, o, ho, fun e he hb => ih _ (hlt e he hb) (Nat.lt_trans (hlt e he hb) hi)⟩
        rw [hr] at this; cases this
  exact hend a w hS hB fun i hi => (hF i (hlist i hi)).1
end
/-- What an operation is: where it leaves its value, what it does, its type, its guard. -/
structure Sig where
  d : Nat
  op : Op
  ty : TypeId
  g : Option (Nat × Bool)
def Sig.oper (s : Sig) (pos : String) (af : Array Edge) : Oper := ⟨some s.d, s.op, s.ty, pos, af, s.g⟩
def sigOf (o : Oper) : Option Sig := o.dst.map fun d => ⟨d, o.op, o.type, o.guard⟩
def sigsOf (ops : Array Oper) : List (Option Sig) := ops.toList.map sigOf
section
variable {R : Array Oper}
theorem sig_at {L : List Sig} (hL : sigsOf R = L.map some) {i : Nat} {s : Sig} (hi : L[i]? = some s) : ∃ pos af, R[i]? = some (s.oper pos af) := by
  have h1 : (sigsOf R)[i]? = some (some s) := by rw [hL, List.getElem?_map, hi]; rfl
  unfold sigsOf at h1
  rw [List.getElem?_map, Array.getElem?_toList] at h1
  obtain ⟨o, ho, h2⟩ := Option.map_eq_some_iff.1 h1
  obtain ⟨d, op, ty, pos, af, g⟩ := o
  unfold sigOf at h2
  cases d with
  | none => cases h2
  | some d =>
    simp only [Option.map_some, Option.some.injEq] at h2
    subst h2
    exact ⟨pos, af, ho⟩
end
section
variable {w w' : World} {b : Nat} {cs : Array Value} {ty : TypeId}
theorem Rec.z (h : Rec w b cs ty) (i : Nat) : w.frozen? ⟨b, i, none⟩ = false := by simp [World.frozen?, show w.heap[b]? = _ from h]
theorem Rec.set (h : Rec w b cs ty) (i : Nat) (v : Value) : Rec (w.setCell ⟨b, i, none⟩ v) b (cs.setIfInBounds i v) ty := by
  have hl := h.lt
  have e : w.heap[b] = .cells cs ty (0, 0) := by
    have := show w.heap[b]? = _ from h
    rw [Array.getElem?_eq_getElem hl] at this; exact Option.some.inj this
  unfold Rec
  simp [World.setCell, hl, Array.getElem_modify, e]
end
/-- A world that parts from another in one block alone, which holds these cells. -/
structure Put (X : Nat) (w w' : World) (cs : Array Value) (ty : TypeId) : Prop where
  r : Rec w' X cs ty
  other : ∀ i, i ≠ X → w'.heap[i]? = w.heap[i]?
  size : w'.heap.size = w.heap.size
  below : Below X w w'
theorem put_set {X : Nat} {w w' : World} {cs : Array Value} {ty : TypeId} (h : Put X w w' cs ty) (i : Nat) (v : Value) : Put X w (w'.setCell ⟨X, i, none⟩ v) (cs.setIfInBounds i v) ty :=
  ⟨h.r.set i v, fun j hj => (Below.heap_setCell _ _ _ _ hj).trans (h.other j hj), by simp [World.setCell, h.size], h.below.setCell (Nat.le_refl _) _⟩
theorem put_refl {X : Nat} {w : World} {cs : Array Value} {ty : TypeId} (h : Rec w X cs ty) : Put X w w cs ty := ⟨h, fun _ _ => rfl, rfl, Below.refl _ _⟩
noncomputable def L11 : List Oper := (regionAt Tryz.f11 3).toList
noncomputable def R11 : Array Oper := (L11.take 14).toArray
def S11 : List Sig := [⟨8, .fieldAddr 25 (.tmp 1) 0, 0, none⟩, ⟨9, .load 22 (.tmp 8), 22, none⟩, ⟨10, .call { callee := .builtin .len, args := #[.tmp 9], argTypes := #[22] }, 3, none⟩, ⟨11, .fieldAddr 25 (.tmp 1) 1, 0, none⟩, ⟨12, .load 23 (.tmp 11), 23, none⟩, ⟨13, .call { callee := .builtin .len, args := #[.tmp 12], argTypes := #[23] }, 3, none⟩, ⟨14, .load 25 (.tmp 1), 25, none⟩, ⟨15, .call { callee := .value (.func 43), args := #[.tmp 14], argTypes := #[25] }, 28, none⟩, ⟨16, .load 25 (.tmp 1), 25, none⟩, ⟨17, .call { callee := .value (.func 44), args := #[.tmp 16], argTypes := #[25] }, 29, none⟩, ⟨18, .load 25 (.tmp 1), 25, none⟩, ⟨19, .call { callee := .value (.func 45), args := #[.tmp 18], argTypes := #[25] }, 30, none⟩, ⟨20, .load 25 (.tmp 1), 25, none⟩, ⟨21, .call { callee := .value (.func 46), args := #[.tmp 20], argTypes := #[25] }, 31, none⟩]
theorem show11 : sigsOf R11 = S11.map some := by kernel_rfl
def anc11 (i : Nat) : List Nat := [[], [0], [1], [], [3], [4], [], [6], [], [8], [], [10], [], [12]].getD i []
section
variable (bx : Nat) (na : Option Addr) (l1 nc : Nat) (ra : Option Addr) (l2 rc : Nat) (nn nr : Int) (p0 p1 p2 p3 : Value → World → Prop)
abbrev gv11 : Value := .agg #[.slice na l1 nc, .slice ra l2 rc, .int .i64 nn, .int .i64 nr]
def facts11 : List (Value → World → Prop) := [eqv (.pointer (some ⟨bx, 0, none⟩)), eqv (.slice na l1 nc), eqv (.int .i64 l1), eqv (.pointer (some ⟨bx, 1, none⟩)), eqv (.slice ra l2 rc), eqv (.int .i64 l2), eqv (gv11 na l1 nc ra l2 rc nn nr), p0, eqv (gv11 na l1 nc ra l2 rc nn nr), p1, eqv (gv11 na l1 nc ra l2 rc nn nr), p2, eqv (gv11 na l1 nc ra l2 rc nn nr), p3]
structure Wd11 (w : World) : Prop where
  c0 : w.cell? ⟨bx, 0, none⟩ = some (.slice na l1 nc)
  c1 : w.cell? ⟨bx, 1, none⟩ = some (.slice ra l2 rc)
  c2 : w.cell? ⟨bx, 2, none⟩ = some (.int .i64 nn)
  c3 : w.cell? ⟨bx, 3, none⟩ = some (.int .i64 nr)
  k0 : Calls Tryz.prog 43 #[gv11 na l1 nc ra l2 rc nn nr] w fun e w' => ∃ v, e = .returned v ∧ p0 v w' ∧ Below w.heap.size w w'
  k1 : Calls Tryz.prog 44 #[gv11 na l1 nc ra l2 rc nn nr] w fun e w' => ∃ v, e = .returned v ∧ p1 v w' ∧ Below w.heap.size w w'
  k2 : Calls Tryz.prog 45 #[gv11 na l1 nc ra l2 rc nn nr] w fun e w' => ∃ v, e = .returned v ∧ p2 v w' ∧ Below w.heap.size w w'
  k3 : Calls Tryz.prog 46 #[gv11 na l1 nc ra l2 rc nn nr] w fun e w' => ∃ v, e = .returned v ∧ p3 v w' ∧ Below w.heap.size w w'
set_option maxRecDepth 100000 in
theorem ops11 (Q : Exit → Act → World → Prop) (c : Act) (w : World) (e1 : c.eval (.tmp 1) = .pointer (some ⟨bx, 0, none⟩)) (hl1 : l1 ≤ 9223372036854775807) (hl2 : l2 ≤ 9223372036854775807) (hW : Wd11 bx na l1 nc ra l2 rc nn nr p0 p1 p2 p3 w) (i : Nat) (hi : i < 14) (hF : ∀ j ∈ anc11 i, factsAt (facts11 bx na l1 nc ra l2 rc nn nr p0 p1 p2 p3) j (val R11 c j) w) :
    Does Tryz.prog R11 Q (factsAt (facts11 bx na l1 nc ra l2 rc nn nr p0 p1 p2 p3)) i c w := by
  have ec : ∀ v, c.eval (.const v) = v := fun _ => rfl
  have ef : ∀ f, c.eval (.func f) = .func (.func f) #[] #[] := fun _ => rfl
  have hC0 := hW.c0
  have hC1 := hW.c1
  have hC2 := hW.c2
  have hC3 := hW.c3
  match i, hi, hF with
  | 0, _, hF =>
    obtain ⟨pos, af, ho⟩ := sig_at show11 (i := 0) rfl
    refine does_value ho (want_none rfl) (v := .pointer (some ⟨bx, 0, none⟩)) ?_ rfl (Below.refl _ _)
    dsimp only [Sig.oper]
    generalize c.eval = ρ at *
    clear hF hW ho
    go_simp
  | 1, _, hF =>
    obtain ⟨pos, af, ho⟩ := sig_at show11 (i := 1) rfl
    have e8 : c.eval (.tmp 8) = .pointer (some ⟨bx, 0, none⟩) := fact_at (p := eqv (.pointer (some ⟨bx, 0, none⟩))) (by kernel_rfl) rfl (hF 0 (by decide))
    refine does_value ho (want_none rfl) (v := .slice na l1 nc) ?_ rfl (Below.refl _ _)
    dsimp only [Sig.oper]
    generalize c.eval = ρ at *
    clear hF hW ho
    go_simp
  | 2, _, hF =>
    obtain ⟨pos, af, ho⟩ := sig_at show11 (i := 2) rfl
    have e9 : c.eval (.tmp 9) = .slice na l1 nc := fact_at (p := eqv (.slice na l1 nc)) (by kernel_rfl) rfl (hF 1 (by decide))
    refine does_value ho (want_none rfl) (v := .int .i64 l1) ?_ rfl (Below.refl _ _)
    dsimp only [Sig.oper]
    generalize c.eval = ρ at *
    clear hF hW ho
    go_simp
  | 3, _, hF =>
    obtain ⟨pos, af, ho⟩ := sig_at show11 (i := 3) rfl
    refine does_value ho (want_none rfl) (v := .pointer (some ⟨bx, 1, none⟩)) ?_ rfl (Below.refl _ _)
    dsimp only [Sig.oper]
    generalize c.eval = ρ at *
    clear hF hW ho
    go_simp
  | 4, _, hF =>
    obtain ⟨pos, af, ho⟩ := sig_at show11 (i := 4) rfl
    have e11 : c.eval (.tmp 11) = .pointer (some ⟨bx, 1, none⟩) := fact_at (p := eqv (.pointer (some ⟨bx, 1, none⟩))) (by kernel_rfl) rfl (hF 3 (by decide))
    refine does_value ho (want_none rfl) (v := .slice ra l2 rc) ?_ rfl (Below.refl _ _)
    dsimp only [Sig.oper]
    generalize c.eval = ρ at *
    clear hF hW ho
    go_simp
  | 5, _, hF =>
    obtain ⟨pos, af, ho⟩ := sig_at show11 (i := 5) rfl
    have e12 : c.eval (.tmp 12) = .slice ra l2 rc := fact_at (p := eqv (.slice ra l2 rc)) (by kernel_rfl) rfl (hF 4 (by decide))
    refine does_value ho (want_none rfl) (v := .int .i64 l2) ?_ rfl (Below.refl _ _)
    dsimp only [Sig.oper]
    generalize c.eval = ρ at *
    clear hF hW ho
    go_simp
  | 6, _, hF =>
    obtain ⟨pos, af, ho⟩ := sig_at show11 (i := 6) rfl
    refine does_value ho (want_none rfl) (v := gv11 na l1 nc ra l2 rc nn nr) ?_ rfl (Below.refl _ _)
    dsimp only [Sig.oper]
    generalize c.eval = ρ at *
    clear hF hW ho
    go_simp
  | 7, _, hF =>
    obtain ⟨pos, af, ho⟩ := sig_at show11 (i := 7) rfl
    have e14 : c.eval (.tmp 14) = gv11 na l1 nc ra l2 rc nn nr := fact_at (p := eqv (gv11 na l1 nc ra l2 rc nn nr)) (by kernel_rfl) rfl (hF 6 (by decide))
    refine does_call ho (want_none rfl) (f := 43) (args := #[gv11 na l1 nc ra l2 rc nn nr]) ?_ (Calls.mono hW.k0 fun e w' ⟨v, h1, h2, h3⟩ => ⟨v, h1, h2, h3⟩)
    dsimp only [Sig.oper]
    generalize c.eval = ρ at *
    clear hF hW ho
    go_simp
  | 8, _, hF =>
    obtain ⟨pos, af, ho⟩ := sig_at show11 (i := 8) rfl
    refine does_value ho (want_none rfl) (v := gv11 na l1 nc ra l2 rc nn nr) ?_ rfl (Below.refl _ _)
    dsimp only [Sig.oper]
    generalize c.eval = ρ at *
    clear hF hW ho
    go_simp
  | 9, _, hF =>
    obtain ⟨pos, af, ho⟩ := sig_at show11 (i := 9) rfl
    have e16 : c.eval (.tmp 16) = gv11 na l1 nc ra l2 rc nn nr := fact_at (p := eqv (gv11 na l1 nc ra l2 rc nn nr)) (by kernel_rfl) rfl (hF 8 (by decide))
    refine does_call ho (want_none rfl) (f := 44) (args := #[gv11 na l1 nc ra l2 rc nn nr]) ?_ (Calls.mono hW.k1 fun e w' ⟨v, h1, h2, h3⟩ => ⟨v, h1, h2, h3⟩)
    dsimp only [Sig.oper]
    generalize c.eval = ρ at *
    clear hF hW ho
    go_simp
  | 10, _, hF =>
    obtain ⟨pos, af, ho⟩ := sig_at show11 (i := 10) rfl
    refine does_value ho (want_none rfl) (v := gv11 na l1 nc ra l2 rc nn nr) ?_ rfl (Below.refl _ _)
    dsimp only [Sig.oper]
    generalize c.eval = ρ at *
    clear hF hW ho
    go_simp
  | 11, _, hF =>
    obtain ⟨pos, af, ho⟩ := sig_at show11 (i := 11) rfl
    have e18 : c.eval (.tmp 18) = gv11 na l1 nc ra l2 rc nn nr := fact_at (p := eqv (gv11 na l1 nc ra l2 rc nn nr)) (by kernel_rfl) rfl (hF 10 (by decide))
    refine does_call ho (want_none rfl) (f := 45) (args := #[gv11 na l1 nc ra l2 rc nn nr]) ?_ (Calls.mono hW.k2 fun e w' ⟨v, h1, h2, h3⟩ => ⟨v, h1, h2, h3⟩)
    dsimp only [Sig.oper]
    generalize c.eval = ρ at *
    clear hF hW ho
    go_simp
  | 12, _, hF =>
    obtain ⟨pos, af, ho⟩ := sig_at show11 (i := 12) rfl
    refine does_value ho (want_none rfl) (v := gv11 na l1 nc ra l2 rc nn nr) ?_ rfl (Below.refl _ _)
    dsimp only [Sig.oper]
    generalize c.eval = ρ at *
    clear hF hW ho
    go_simp
  | 13, _, hF =>
    obtain ⟨pos, af, ho⟩ := sig_at show11 (i := 13) rfl
    have e20 : c.eval (.tmp 20) = gv11 na l1 nc ra l2 rc nn nr := fact_at (p := eqv (gv11 na l1 nc ra l2 rc nn nr)) (by kernel_rfl) rfl (hF 12 (by decide))
    refine does_call ho (want_none rfl) (f := 46) (args := #[gv11 na l1 nc ra l2 rc nn nr]) ?_ (Calls.mono hW.k3 fun e w' ⟨v, h1, h2, h3⟩ => ⟨v, h1, h2, h3⟩)
    dsimp only [Sig.oper]
    generalize c.eval = ρ at *
    clear hF hW ho
    go_simp
  | n + 14, h, _ => exact absurd h (by omega)
end
theorem size11 : R11.size = 14 := by kernel_rfl
theorem facts14 {Q : Exit → Act → World → Prop} {F : Nat → Value → World → Prop} {base : Act} {w0 : World}
    (hok : factsOk .any R11 base.tmps.size anc11 = true)
    (hmono : ∀ i v w w', F i v w → Below w.heap.size w w' → F i v w')
    (hop : ∀ i, i < 14 → ∀ a w, Same R11 base a → Below w0.heap.size w0 w → (∀ j ∈ anc11 i, F j (val R11 a j) w) → Does Tryz.prog R11 Q F i a w)
    (hend : ∀ a w, Same R11 base a → Below w0.heap.size w0 w → (∀ i, i < 14 → F i (val R11 a i) w) → Q .normal a w) :
    wpAny Tryz.prog .any (L11.take 14).toArray Q 14 (Array.replicate 14 false) base w0.drew := by
  have h := factsA_any (P := Tryz.prog) (ops := R11) (Q := Q) (A := anc11) (F := F) (base := base) (w0 := w0) hok hmono (fun i hi => hop i (by rw [size11] at hi; exact hi)) (fun a w h1 h2 h3 => hend a w h1 h2 (fun i hi => h3 i (by rw [size11]; exact hi)))
  rw [size11] at h
  exact h
theorem stable11 (bx : Nat) (na : Option Addr) (l1 nc : Nat) (ra : Option Addr) (l2 rc : Nat) (nn nr : Int) {p0 p1 p2 p3 : Value → World → Prop} (h0 : Stable p0) (h1 : Stable p1) (h2 : Stable p2) (h3 : Stable p3) : ∀ p ∈ facts11 bx na l1 nc ra l2 rc nn nr p0 p1 p2 p3, Stable p := by
  intro p hp
  simp only [facts11, List.mem_cons, List.not_mem_nil, or_false] at hp
  rcases hp with rfl | rfl | rfl | rfl | rfl | rfl | rfl | rfl | rfl | rfl | rfl | rfl | rfl | rfl <;> first | exact eqv_stable _ | assumption
end Go.Proofs.YthfilnflgahcjaaGreatDoor

namespace Go.Proofs.YthfilnflgahcjaaGreatDoor
open Go.RowKit Go.Shelf
set_option linter.unusedVariables false
section
variable {R K : Type} [DecidableEq K]
/-- The rows whose keys are still wanted, and the keys that are left. -/
def goFirst (key : R → K) : List R → List K → List R × List K
  | [], left => ([], left)
  | r :: rs, left => if left = [] then ([], []) else if key r ∈ left then (r :: (goFirst key rs (delS (key r) left)).1, (goFirst key rs (delS (key r) left)).2) else goFirst key rs left
def firstsL (key : R → K) (zero : R) (rows : List R) (keys : List K) : List R :=
  (goFirst key rows (keys.foldl putS [])).1 ++ List.replicate (goFirst key rows (keys.foldl putS [])).2.length zero
theorem goFirst_none {key : R → K} : ∀ (rows : List R), goFirst key rows [] = ([], [])
  | [] => rfl
  | r :: rs => by rw [goFirst, if_pos rfl]
theorem goFirst_hit {key : R → K} {rows : List R} {left : List K} {j : Nat} {r : R} (h : rows[j]? = some r) (hl : left ≠ []) (hm : key r ∈ left) : goFirst key (rows.drop j) left = (r :: (goFirst key (rows.drop (j + 1)) (delS (key r) left)).1, (goFirst key (rows.drop (j + 1)) (delS (key r) left)).2) := by
  obtain ⟨hj, hx⟩ := List.getElem?_eq_some_iff.1 h
  rw [List.drop_eq_getElem_cons hj, hx, goFirst, if_neg hl, if_pos hm]
theorem goFirst_miss {key : R → K} {rows : List R} {left : List K} {j : Nat} {r : R} (h : rows[j]? = some r) (hl : left ≠ []) (hm : key r ∉ left) : goFirst key (rows.drop j) left = goFirst key (rows.drop (j + 1)) left := by
  obtain ⟨hj, hx⟩ := List.getElem?_eq_some_iff.1 h
  rw [List.drop_eq_getElem_cons hj, hx, goFirst, if_neg hl, if_neg hm]
theorem goFirst_len {key : R → K} : ∀ (rows : List R) (left : List K), (goFirst key rows left).1.length + (goFirst key rows left).2.length = left.length
  | [], left => by simp [goFirst]
  | r :: rs, left => by
    rw [goFirst]
    split
    · rename_i h; simp [h]
    · split
      · rename_i hl hm
        have := goFirst_len (key := key) rs (delS (key r) left)
        have := delS_len hm
        simp only [List.length_cons]; omega
      · exact goFirst_len rs left
theorem putS_len (l : List K) (k : K) : (putS l k).length ≤ l.length + 1 := by
  unfold putS
  split <;> simp
theorem puts_len : ∀ (ks : List K) (l : List K), (ks.foldl putS l).length ≤ l.length + ks.length
  | [], l => by simp
  | k :: r, l => by
    have := puts_len r (putS l k)
    have := putS_len l k
    simp only [List.foldl_cons, List.length_cons]; omega
theorem puts_at {ks : List K} {j : Nat} {k : K} (h : ks[j]? = some k) : (ks.take (j + 1)).foldl putS [] = putS ((ks.take j).foldl putS []) k := by
  rw [List.take_add_one, h]
  simp
theorem puts_nodup : ∀ (ks : List K) (l : List K), l.Nodup → (ks.foldl putS l).Nodup
  | [], l, h => h
  | k :: r, l, h => puts_nodup r _ (putS_nodup h k)
theorem puts_mem : ∀ (ks : List K) (l : List K) (x : K), x ∈ ks.foldl putS l ↔ x ∈ l ∨ x ∈ ks
  | [], l, x => by simp
  | k :: r, l, x => by
    rw [List.foldl_cons, puts_mem r, putS]
    split
    · rename_i h
      simp only [List.mem_cons]
      constructor
      · rintro (h' | h') <;> simp [h']
      · rintro (h' | rfl | h')
        · exact .inl h'
        · exact .inl h
        · exact .inr h'
    · simp only [List.mem_append, List.mem_cons, List.not_mem_nil, or_false]
      constructor
      · rintro ((h' | h') | h') <;> simp [h']
      · rintro (h' | h' | h') <;> simp [h']
end
end Go.Proofs.YthfilnflgahcjaaGreatDoor

namespace Go.Proofs.YthfilnflgahcjaaGreatDoor
open Go.RowKit Go.Shelf
set_option linter.unusedVariables false
set_option linter.unusedSimpArgs false
attribute [local go_sem] Oper.semAt_some
theorem f56_any (s : ByteArray) (n : Int) (w : World) : Calls Tryz.prog 56 #[.agg #[.string s, .int .i64 n]] w fun e w' => e = .returned (.string s) ∧ Below w.heap.size w w' := by
  go_enter Tryz.func56, Tryz.ntmps56
  go_wp2
  go_ret
  exact ⟨rfl, (Below.refl _ _).alloc (Nat.le_refl _) _⟩
theorem f59_any (s : ByteArray) (n : Int) (w : World) : Calls Tryz.prog 59 #[.agg #[.string s, .int .i64 n]] w fun e w' => e = .returned (.string s) ∧ Below w.heap.size w w' := by
  go_enter Tryz.func59, Tryz.ntmps59
  go_wp2
  go_ret
  exact ⟨rfl, (Below.refl _ _).alloc (Nat.le_refl _) _⟩
theorem f60_any (s : ByteArray) (n : Int) (w : World) : Calls Tryz.prog 60 #[.agg #[.string s, .int .i64 n]] w fun e w' => e = .returned (.int .i64 n) ∧ Below w.heap.size w w' := by
  go_enter Tryz.func60, Tryz.ntmps60
  go_wp2
  go_ret
  exact ⟨rfl, (Below.refl _ _).alloc (Nat.le_refl _) _⟩
theorem f111_any (s t : ByteArray) (b : Bool) (n : Int) (w : World) : Calls Tryz.prog 111 #[.agg #[.string s, .string t, .bool b, .int .i64 n]] w fun e w' => e = .returned (.int .i64 n) ∧ Below w.heap.size w w' := by
  go_enter Tryz.func111, Tryz.ntmps111
  go_wp2
  go_ret
  exact ⟨rfl, (Below.refl _ _).alloc (Nat.le_refl _) _⟩
set_option maxHeartbeats 1000000 in
theorem f108_any (s t : ByteArray) (b : Bool) (n : Int) (w : World) : Calls Tryz.prog 108 #[.agg #[.string s, .string t, .bool b, .int .i64 n]] w fun e w' => e = .returned (.agg #[.string s, .string t, .bool b, .int .i64 0]) ∧ Below w.heap.size w w' := by
  go_enter Tryz.func108, Tryz.ntmps108
  go_wp2
  refine bodyPost_ret (by simp [results, Tryz.results108, go_sem]) rfl ⟨rfl, ((Below.refl _ _).alloc (Nat.le_refl _) _).alloc (by simp) _⟩
set_option maxHeartbeats 1000000 in
theorem f62_any (s t : ByteArray) (m n : Int) (w : World) : Calls Tryz.prog 62 #[.agg #[.string s, .string t, .int .i64 m, .int .i64 n]] w fun e w' => e = .returned (.agg #[.string s, .string t, .int .i64 0, .int .i64 0]) ∧ Below w.heap.size w w' := by
  go_enter Tryz.func62, Tryz.ntmps62
  go_wp2
  refine bodyPost_ret (by simp [results, Tryz.results62, go_sem]) rfl ⟨rfl, ((Below.refl _ _).alloc (Nat.le_refl _) _).alloc (by simp) _⟩
end Go.Proofs.YthfilnflgahcjaaGreatDoor

namespace Go.Proofs.YthfilnflgahcjaaGreatDoor
open Go.RowKit Go.Shelf
set_option linter.unusedVariables false
set_option linter.unusedSimpArgs false
theorem zero_cells {α : Type} {k : Nat} {z : Value} {enc : α → List Value} {x : α} (hz : z.cells.toList = enc x) (hk : (enc x).length = k) (hk0 : 0 < k) : ∀ m, (Builtin.zeroCells z.cells m).toList = ((List.replicate m x).map enc).flatten := by
  intro m
  have hsz : z.cells.size = k := by rw [← hk, ← hz]; simp
  refine List.ext_getElem? fun i => ?_
  have hlen : ((List.replicate m x).map enc).flatten.length = m * k := by
    rw [sflat_len (k := k) _ (fun c hc => by obtain ⟨y, hy, rfl⟩ := List.mem_map.1 hc; rw [List.eq_of_mem_replicate hy]; exact hk)]
    simp
  by_cases hi : i < m * k
  · have hq : i / k < m := Nat.div_lt_of_lt_mul (by rwa [Nat.mul_comm] at hi)
    have hdm : i / k * k + i % k = i := by rw [Nat.mul_comm]; exact Nat.div_add_mod i k
    have e := sflat_at (k := k) ((List.replicate m x).map enc) (i / k) (i % k) (enc x) (fun c hc => by obtain ⟨y, hy, rfl⟩ := List.mem_map.1 hc; rw [List.eq_of_mem_replicate hy]; exact hk) (by simp [hq]) (Nat.mod_lt _ hk0)
    rw [hdm] at e
    rw [e, ← hz]
    have hm : i % k < z.cells.size := by rw [hsz]; exact Nat.mod_lt _ hk0
    simp only [Builtin.zeroCells, hsz, Array.toList_map, Array.toList_range, List.getElem?_map, List.getElem?_range hi, Option.map_some, Array.getElem?_toList]
    rw [Array.getElem?_eq_getElem hm, getElem!_pos z.cells _ hm]
  · rw [List.getElem?_eq_none (show (Builtin.zeroCells z.cells m).toList.length ≤ i by simp only [Builtin.zeroCells, Array.toList_map, Array.toList_range, List.length_map, List.length_range, hsz]; omega), List.getElem?_eq_none (by rw [hlen]; omega)]
theorem append_zeros {α : Type} {t tn e ty k bytes base m : Nat} {z : Value} (hE : ElemIs t e k bytes z) (htn : Tryz.prog.underlying tn = some (.int .i64)) {enc : α → List Value} {x : α} (hk : ∀ x, (enc x).length = k) (h1 : ∀ x, ∀ u ∈ enc x, u.oneCell' = true) (hzx : z.cells.toList = enc x) {v : Value} {xs : List α} {w : World} (hown : ORow e k enc base w v xs) (hn : xs.length + m ≤ 1000000) (hb : base ≤ w.heap.size) :
    ∃ v' w', (Builtin.append_ #[t, tn] ty #[v, .int .i64 m]).run Tryz.prog w = .ok v' w' ∧ ORow e k enc base w' v' (xs ++ List.replicate m x) ∧ Below base w w' := by
  obtain ⟨ht, i, hi, hz, hsize, hby, hzs, hk0, hbb⟩ := hE
  subst hsize hby
  have hw : IntKind.i64.wrap (m : Int) = m := by rw [IntKind.wrap_i64]; omega
  have hw0 : IntKind.i64.wrap 0 = 0 := by rw [IntKind.wrap_i64]; rfl
  have hneg : ¬ ((m : Int) < 0) := by omega
  have hbm : m * i.bytes ≤ 1000000 * 4096 := Nat.mul_le_mul (by omega) hbb
  have h48i : ¬ (281474976710656 < (m : Int) * (i.bytes : Int)) := by
    rw [← Int.natCast_mul]
    omega
  obtain ⟨news, hnews⟩ : ∃ l, (Builtin.zeroCells z.cells m).toList = l := ⟨_, rfl⟩
  have hnx := hnews.symm.trans (zero_cells hzx (hk x) hk0 m)
  have hnl : news.length = m * i.size := by rw [← hnews]; simp [Builtin.zeroCells, hzs]
  have hn1 : ∀ u ∈ news, u.oneCell' = true := by
    intro u hu
    rw [hnx] at hu
    obtain ⟨c, hc, hu⟩ := List.mem_flatten.1 hu
    obtain ⟨y, hy, rfl⟩ := List.mem_map.1 hc
    exact h1 y u hu
  have hza : Builtin.zeroCells z.cells m = news.toArray := by rw [← hnews]
  have fin : ∀ {v' : Value} {w' : World}, w'.ownsRow base e i.size v' (xs.length + m) ((xs.map enc).flatten ++ news) → ORow e i.size enc base w' v' (xs ++ List.replicate m x) := fun {v' w'} h => by
    unfold ORow
    rw [List.length_append, List.length_replicate, List.map_append, List.flatten_append, ← hnx]
    exact h
  have hlen : ((xs.map enc).flatten ++ news).length = (xs.length + m) * i.size := by rw [List.length_append, hown.1, hnl, Nat.add_mul]
  have grown : ∀ (old : Nat), old < xs.length + m →
      (w.drew.alloc (.cells (((xs.map enc).flatten).toArray ++ news.toArray ++ Builtin.zeroCells z.cells (grownCap w (xs.length + m) old e - (xs.length + m))) e)).ownsRow base e i.size
        (.slice (some ⟨w.heap.size, 0, none⟩) (xs.length + m) (grownCap w (xs.length + m) old e)) (xs.length + m) ((xs.map enc).flatten ++ news) := by
    intro old ho
    have hge := grownCap_ge w (xs.length + m) old e
    have hcm : grownCap w (xs.length + m) old e ≤ maxLen := grownCap_le_maxLen w (xs.length + m) old e (by unfold maxLen; omega)
    refine ⟨hlen, .inr ⟨w.heap.size, _, _, rfl, hb, heap_alloc_new w.drew _, hge, hcm, ?_, ?_⟩⟩
    · simp only [Array.size_append, List.size_toArray, size_zeroCells, hzs, hown.1, hnl, ← Nat.add_mul]
      rw [Nat.add_sub_cancel' hge]
    · simp only [Array.toList_append, List.append_assoc]
      rw [← List.append_assoc, ← hlen]
      exact List.take_left
  have up : ∀ o, Below base w (w.drew.alloc o) := fun o => ((Below.refl base w).drew).alloc hb o
  rcases hown.2 with ⟨rfl, hx0⟩ | ⟨g, cap, cur, rfl, hbg, hg, hnc, hcm, hcs, htake⟩
  · have hx : xs = [] := List.eq_nil_of_length_eq_zero hx0
    subst hx
    by_cases hm : m = 0
    · subst hm
      refine ⟨.slice none 0 0, w, ?_, orow_nil _ _ _ _ _, Below.refl _ _⟩
      simp [Builtin.append_, run_underlying ht, run_underlying htn, sizeOf, typeInfo, hi, asInt, asIntOf, hw0]
    · have hr := Lib.run_append_nil_zeros (P := Tryz.prog) w t tn ty e i z .i64 .i64 ht htn hi hz m (by omega) hk0 (by omega) (by omega)
      have hgr := grown 0 (by simp; omega)
      simp only [List.length_nil, Nat.zero_add, List.map_nil, List.flatten_nil, List.nil_append, Array.empty_append] at hgr
      rw [hza] at hr
      refine ⟨_, _, hr, fin ?_, up _⟩
      simpa using hgr
  · by_cases hroom : xs.length + m ≤ cap
    · have hfit : xs.length * i.size + news.length ≤ cur.size := by rw [hnl, hcs, ← Nat.add_mul]; exact Nat.mul_le_mul_right _ hroom
      have hst := run_storeCells_at Tryz.prog g (xs.length * i.size) e news 0 cur w hg (by simpa using hfit) hn1
      simp only [Nat.add_zero] at hst
      have hr : (Builtin.append_ #[t, tn] ty #[.slice (some ⟨g, 0, none⟩) xs.length cap, .int .i64 m]).run Tryz.prog w = .ok (.slice (some ⟨g, 0, none⟩) (xs.length + m) cap) (w.setRow g (cur.toList.take (xs.length * i.size) ++ news ++ cur.toList.drop (xs.length * i.size + news.length)).toArray) := by
        by_cases hm : m = 0
        · subst hm
          have hn0 : news = [] := List.eq_nil_of_length_eq_zero (by rw [hnl, Nat.zero_mul])
          subst hn0
          simp [Builtin.append_, run_underlying ht, run_underlying htn, sizeOf, typeInfo, zeroValue, hi, hz, asInt, asIntOf, hw0, hnc, Addr.add_lit, hst]
        · have hns : ¬ (m * i.size = 0) := Nat.mul_ne_zero hm (by omega)
          simp [Builtin.append_, run_underlying ht, run_underlying htn, sizeOf, typeInfo, zeroValue, hi, hz, asInt, asIntOf, hw, hneg, hns, h48i, hroom, hza, Addr.add_lit, hst]
      refine ⟨_, _, hr, fin ⟨hlen, .inr ⟨g, cap, _, rfl, hbg, setRow_heap w g cur _ e _ hg, hroom, hcm, ?_, ?_⟩⟩, ⟨rfl, rfl, rfl, by simp, fun k hk => setRow_other w g k _ (by omega)⟩⟩
      · simp only [List.size_toArray, List.length_append, List.length_take, List.length_drop, Array.length_toList]
        omega
      · rw [htake, ← hlen]
        exact List.take_left
    · have holds : ∀ j u, ((xs.map enc).flatten)[j]? = some u → w.cell? ((⟨g, 0, none⟩ : Addr).add j) = some u := World.ownsRow.cells (g := g) hown rfl
      have hm : ¬ m = 0 := by omega
      have hns : ¬ (m * i.size = 0) := Nat.mul_ne_zero hm (by omega)
      have h63' : ¬ (9223372036854775807 < ((xs.length : Int) + (m : Int))) := by omega
      have hfit := growslice_fits (need := xs.length + m) (old := cap) (bytes := i.bytes) (by omega) (Nat.le_trans (Nat.mul_le_mul hn hbb) (by decide))
      have h48' : ¬ (281474976710656 < Builtin.nextslicecap (xs.length + m) cap * i.bytes) := by omega
      have hfo := run_firstCells_some (P := Tryz.prog) w.drew i.size xs.length ⟨g, 0, none⟩ xs.length cap _ hown.1 (by simpa using holds)
      have hr : (Builtin.append_ #[t, tn] ty #[.slice (some ⟨g, 0, none⟩) xs.length cap, .int .i64 m]).run Tryz.prog w = .ok (.slice (some ⟨w.heap.size, 0, none⟩) (xs.length + m) (grownCap w (xs.length + m) cap e)) (w.drew.alloc (.cells (((xs.map enc).flatten).toArray ++ news.toArray ++ Builtin.zeroCells z.cells (grownCap w (xs.length + m) cap e - (xs.length + m))) e)) := by
        simp [Builtin.append_, run_underlying ht, run_underlying htn, sizeOf, typeInfo, zeroValue, hi, hz, asInt, asIntOf, hw, hneg, hns, h48i, hroom, h63', h48', Question.forced, hza, hfo, newRow, grownCap]
        exact congrArg (fun a => w.drew.alloc (.cells a e)) (by apply Array.ext'; simp [List.append_assoc])
      exact ⟨_, _, hr, fin (grown cap (by omega)), up _⟩
end Go.Proofs.YthfilnflgahcjaaGreatDoor

