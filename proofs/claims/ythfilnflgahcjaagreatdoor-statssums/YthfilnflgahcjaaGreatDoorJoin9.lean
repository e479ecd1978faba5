/- A region that draws its order is cut in two: its first operations are a region of their own, what is behind waits for them all. A graph's counts: the region of Count that draws its order. Rows and their cells: what is a turning of one is one of the other. What was counted, in order. -/
import Derived.Test.YthfilnflgahcjaaGreatDoorJoin8
import Derived.Test.YthfilnflgahcjaaGreatDoorFacts
import Derived.Test.YthfilnflgahcjaaGreatDoorJoin2
import Derived.Test.YthfilnflgahcjaaGreatDoorJoin4
import Derived.Test.YthfilnflgahcjaaGreatDoorJoin7
import Derived.Maps.RangeRun
namespace Go.Proofs.YthfilnflgahcjaaGreatDoor
open Go.RowKit
set_option linter.unusedVariables false
set_option linter.unusedSimpArgs false
section
variable {P : Program} {pre ops : Array Oper} {md : Region.Mode} {Q : Exit → Act → World → Prop} {N : Act → World → Prop} {k : Nat}
theorem oper_then {o : Oper} {a : Act} {w : World} {K : Act → World → Prop} (h : o.wp P a w K (Exit.then N Q)) : o.wp P a w K Q := by
  unfold Oper.wp at *
  generalize (execOp a.eval o).run P w = r at *
  cases r with
  | ok n w' => cases n <;> simp only [Oper.upon] at h ⊢ <;> exact h
  | halt x w' => cases x <;> simp only [Oper.upon] at h ⊢ <;> exact h
theorem oper_back {o : Oper} {a : Act} {w : World} {K : Act → World → Prop} (h : o.wp P a w K Q) : o.wp P a w K (Exit.then N Q) := by
  unfold Oper.wp at *
  generalize (execOp a.eval o).run P w = r at *
  cases r with
  | ok n w' => cases n <;> simp only [Oper.upon] at h ⊢ <;> exact h
  | halt x w' => cases x <;> simp only [Oper.upon] at h ⊢ <;> exact h
theorem any_then {N' : Act → World → Prop} (hN : ∀ a w, N a w → N' a w) : ∀ (fuel : Nat) (listed : Array Bool) (a : Act) (w : World), wpAny P md ops (Exit.then N Q) fuel listed a w → wpAny P md ops (Exit.then N' Q) fuel listed a w
  | 0, _, a, w, h => ⟨h.1, hN a w h.2⟩
  | fuel + 1, listed, a, w, h => ⟨fun h0 => hN a w (h.1 h0), fun i hi => by
      have h1 := wpOp_mono (any_then hN fuel _) (h.2 i hi)
      unfold wpOp at h1 ⊢
      split
      · rename_i ho; simpa only [ho] using h1
      · rename_i o ho
        simp only [ho] at h1
        split
        · rename_i hw
          rw [if_pos hw] at h1
          rcases h1 with h1 | ⟨h4, h5⟩
          · exact .inl (oper_back (oper_then h1))
          · exact .inr ⟨h4, h5⟩
        · rename_i hw
          rw [if_neg hw] at h1
          exact h1⟩
theorem getD_in {l : Array Bool} {i : Nat} (h : i < l.size) : l.getD i true = l.getD i false := by simp [h]
theorem least_left {lp : Array Bool} (h : left lp ≠ 0) : ∃ i, i < lp.size ∧ lp.getD i false = false ∧ ∀ j, j < i → lp.getD j false = true := by
  have hex : ∃ i, i < lp.size ∧ lp.getD i false = false := by
    apply Classical.byContradiction
    intro hn
    apply h
    unfold left
    rw [List.countP_eq_zero]
    intro b hb
    obtain ⟨i, hi, rfl⟩ := List.getElem_of_mem hb
    have hi' : i < lp.size := by simpa using hi
    cases hv : lp[i] with
    | true => simp [hv]
    | false => exact absurd ⟨i, hi', by simp [hi', hv]⟩ hn
  obtain ⟨i, hi⟩ := hex
  induction i using Nat.strongRecOn with
  | ind i ih =>
    by_cases hall : ∀ j, j < i → lp.getD j false = true
    · exact ⟨i, hi.1, hi.2, hall⟩
    · obtain ⟨j, hj⟩ := Classical.not_forall.1 hall
      obtain ⟨hji, hjf⟩ := Classical.not_imp.1 hj
      exact ih j hji ⟨by omega, by simpa using hjf⟩
theorem any_cut {n : Nat} (hps : pre.size = k) (hpre : ∀ i, i < k → pre[i]? = ops[i]?) (hk : k ≤ ops.size)
    (hg : ∀ i o, i < k → ops[i]? = some o → ∀ g b, o.guard = some (g, b) → g < k)
    (hed : ∀ i o, i < k → ops[i]? = some o → ∀ e ∈ o.after, Region.binds md e = true → e.on < i)
    (hwt : ∀ j, k ≤ j → j < ops.size → ∀ i, i < k → waitsB md ops ops.size j i = true) :
    ∀ (fuel : Nat) (lp l : Array Bool) (a : Act) (w : World), lp.size = k → Closed md ops l → (∀ i, i < k → l.getD i false = lp.getD i false) → (∀ i, k ≤ i → l.getD i false = false) → left lp = fuel →
      wpAny P md pre (Exit.then (fun a w => Closed md ops (targetOf ops.size k) → wpAny P md ops Q n (targetOf ops.size k) a w) Q) fuel lp a w → wpAny P md ops Q (n + fuel) l a w := by
  intro fuel
  induction fuel with
  | zero =>
    intro lp l a w hls hcl h1 h2 hf h
    have : l = targetOf ops.size k := by
      apply Array.ext
      · rw [hcl.1]; simp [targetOf]
      · intro i hi hi2
        have hio : i < ops.size := by rw [← hcl.1]; exact hi
        have e1 : l.getD i false = l[i] := by simp [hi]
        rw [← e1]
        simp only [targetOf, List.getElem_toArray, List.getElem_map, List.getElem_range]
        by_cases hik : i < k
        · have h3 := left_zero hf i
          rw [getD_in (by omega)] at h3
          rw [h1 i hik, h3]; simp [hik]
        · rw [h2 i (by omega)]; simp [hik]
    rw [this] at hcl ⊢
    exact h.2 hcl
  | succ fuel ih =>
    intro lp l a w hls hcl h1 h2 hf h
    obtain ⟨i, hi, hif, hij⟩ := least_left (lp := lp) (by omega)
    have hik : i < k := by omega
    obtain ⟨oi, hoi⟩ : ∃ o, ops[i]? = some o := ⟨_, Array.getElem?_eq_getElem (by omega)⟩
    have hri : i ∈ Region.ready md ops l := mem_ready.2 ⟨by rw [getD_in (by rw [hcl.1]; omega), h1 i hik]; exact hif, oi, hoi, fun e he hb => by
      have := hed i oi hik hoi e he hb
      rw [h1 _ (by omega)]; exact hij _ this⟩
    refine ⟨fun h0 => (by rw [h0] at hri; cases hri), fun j hj => ?_⟩
    obtain ⟨hjun, oj, hoj, hall⟩ := mem_ready.1 hj
    have hjs : j < ops.size := (Array.getElem?_eq_some_iff.1 hoj).1
    have hjk : j < k := by
      rcases Nat.lt_or_ge j k with h' | h'
      · exact h'
      · have := waits_listed hcl ops.size j i (fun ok hk' e he hb => by
          rw [hoj] at hk'
          obtain rfl := Option.some.inj hk'
          exact hall e he hb) (hwt j h' hjs i hik)
        rw [h1 i hik, hif] at this; cases this
    have hjl : lp.getD j true = false := by
      rw [getD_in (by omega), ← h1 j hjk, ← getD_in (by rw [hcl.1]; exact hjs)]; exact hjun
    have hrj : j ∈ Region.ready md pre lp := mem_ready.2 ⟨hjl, oj, (hpre j hjk).trans hoj, fun e he hb => by
      have := hed j oj hjk hoj e he hb
      rw [← h1 _ (by omega)]; exact hall e he hb⟩
    have h3 := h.2 j hrj
    have hgo : ∀ a' w', wpAny P md pre (Exit.then (fun a w => Closed md ops (targetOf ops.size k) → wpAny P md ops Q n (targetOf ops.size k) a w) Q) fuel (lp.setIfInBounds j true) a' w' → wpAny P md ops Q (n + fuel) (l.setIfInBounds j true) a' w' := fun a' w' h4 => by
      refine ih (lp.setIfInBounds j true) (l.setIfInBounds j true) a' w' (by simpa using hls) (closed_set hcl hj) (fun q hq => ?_) (fun q hq => ?_) (by have := left_set hjl; omega) h4
      · by_cases hqj : j = q
        · subst hqj
          have e1 : j < l.size := by rw [hcl.1]; exact hjs
          have e2 : j < lp.size := by omega
          simp [e1, e2]
        · rw [getD_set_ne false hqj, getD_set_ne false hqj]; exact h1 q hq
      · rw [getD_set_ne false (by omega)]; exact h2 q hq
    unfold wpOp at h3 ⊢
    rw [hpre j hjk] at h3
    simp only [hoj] at h3 ⊢
    have hw : Region.wanted oj (yielded pre a.tmps) = Region.wanted oj (yielded ops a.tmps) := by
      unfold Region.wanted
      cases hgd : oj.guard with
      | none => rfl
      | some gb =>
        obtain ⟨g, b⟩ := gb
        have := hg j oj hjk hoj g b hgd
        simp only [yielded, hpre g this]
    rw [hw] at h3
    split
    · rename_i hw1
      rw [if_pos hw1] at h3
      rcases h3 with h3 | ⟨h4, h5⟩
      · exact .inl (Oper.wp_mono hgo (oper_then h3))
      · exact .inr ⟨h4, h5⟩
    · rename_i hw1
      rw [if_neg hw1] at h3
      exact hgo _ _ h3
end
def cutB (L : List Oper) (k : Nat) (T : List Nat) : Bool :=
  Region.noSelect L.toArray && (decide (k ≤ L.length) && (((L.take k).zipIdx.all fun p => (match p.1.guard with | none => true | some (g, _) => decide (g < k)) && p.1.after.all fun e => !Region.binds .any e || decide (e.on < p.2)) &&
    (((List.range L.length).all fun j => decide (j < k) || (List.range k).all fun i => waitsB .any L.toArray L.length j i) && ((T.all fun i => (nthL L i).isSome) && ((T.length + k == L.length) && checkB .any L.toArray (fun _ => false) (T.map fun i => (false, i)) (targetOf L.length k))))))
/-- First some as a region of their own, then what waits for them all. -/
theorem wp_cut {P : Program} {Q : Exit → Act → World → Prop} {id : Nat} {L : List Oper} {a : Act} {w : World} (k : Nat) (T : List Nat) (hm : P.follows .mixedOrders = true) (hB : cutB L k T = true)
    (h : wpAny P .any (L.take k).toArray (Exit.then (fun a' w' => wpList P L.toArray Q (pickL L T) a' w') Q) k (Array.replicate k false) a w.drew) : (Code.region id L.toArray true).wp P Q a w := by
  simp only [cutB, Bool.and_eq_true, beq_iff_eq, decide_eq_true_eq] at hB
  obtain ⟨h1, h2, h3, h4, h5, h6, h7⟩ := hB
  have hat : ∀ i o, i < k → L.toArray[i]? = some o → (o, i) ∈ (L.take k).zipIdx := fun i o hi ho => by
    rw [List.mem_zipIdx_iff_getElem?, List.getElem?_take, if_pos hi]
    simpa using ho
  have hcl0 : Closed .any L.toArray (Array.replicate L.length false) := ⟨by simp, fun j oj _ hl => by
    rcases Nat.lt_or_ge j L.length with hj | hj
    · simp [hj] at hl
    · simp [hj] at hl⟩
  have hcut := any_cut (P := P) (Q := Q) (pre := (L.take k).toArray) (ops := L.toArray) (md := .any) (k := k) (n := T.length) (by simp; omega) (fun i hi => by simp [List.getElem?_take, hi]) (by simpa using h2)
    (fun i o hi ho g b hgd => by
      have := List.all_eq_true.1 h3 _ (hat i o hi ho)
      simp only [hgd, Bool.and_eq_true, decide_eq_true_eq] at this
      exact this.1)
    (fun i o hi ho e he hb => by
      have := List.all_eq_true.1 h3 _ (hat i o hi ho)
      simp only [Bool.and_eq_true] at this
      have h8 := Array.all_eq_true'.1 this.2 e he
      simpa [hb] using h8)
    (fun j hj hjs i hi => by
      have := List.all_eq_true.1 h4 j (List.mem_range.2 (by simpa using hjs))
      simp only [Bool.or_eq_true, decide_eq_true_eq] at this
      have h8 := List.all_eq_true.1 (this.resolve_left (by omega)) i (List.mem_range.2 hi)
      simpa using h8)
    k (Array.replicate k false) (Array.replicate L.length false) a w.drew (by simp) hcl0
    (fun i hi => by
      have : i < L.length := by omega
      simp [hi, this])
    (fun i hi => by
      rcases Nat.lt_or_ge i L.length with hj | hj
      · simp [hj]
      · simp [hj])
    (left_new k)
    (any_then (fun a' w' hr hcl => wpAny_of_U (keep := fun _ => false) _ _ _ _ (by
      have := sched_sound (P := P) (Q := Q) h1 (T.map fun i => (false, i)) _ a' w' (by simpa using h7) hcl (seg_tail T a' w' (fun i hi => ⟨rfl, List.all_eq_true.1 h5 i hi⟩) hr)
      simpa using this)) _ _ _ _ h)
  refine wp_region_any hm ?_
  rw [h6] at hcut
  simpa using hcut
end Go.Proofs.YthfilnflgahcjaaGreatDoor

namespace Go.Proofs.YthfilnflgahcjaaGreatDoor
open Go.RowKit Go.Shelf Go.Maps
set_option linter.unusedVariables false
set_option linter.unusedSimpArgs false
attribute [local go_sem] Oper.semAt_some
section
variable {P : Program} {ops : Array Oper} {Q : Exit → Act → World → Prop}
theorem factsA_any {A : Nat → List Nat} {F : Nat → Value → World → Prop} {base : Act} {w0 : World}
    (hok : factsOk .any ops base.tmps.size A = true)
    (hmono : ∀ i v w w', F i v w → Below w.heap.size w w' → F i v w')
    (hop : ∀ i, i < ops.size → ∀ a w, Same ops base a → Below w0.heap.size w0 w → (∀ j ∈ A i, F j (val ops a j) w) → Does P ops Q F i a w)
    (hend : ∀ a w, Same ops base a → Below w0.heap.size w0 w → (∀ i, i < ops.size → F i (val ops a i) w) → Q .normal a w) :
    wpAny P .any ops Q ops.size (Array.replicate ops.size false) base { w0 with drawn := w0.drawn + 1 } := by
  have hall := ordered_of hok
  refine wpAny_inv (Inv ops A F base w0) (inv_step hall hmono hop) ?_ _ _ _ _ (by rw [left_new]; exact Nat.le_refl _) (inv_start (Below.refl _ w0).drew)
  rintro listed a w ⟨hsz, hS, hB, hF⟩ hr
  have hlist : ∀ i, i < ops.size → listed.getD i false = true := by
    intro i
    induction i using Nat.strongRecOn with
    | _ i ih =>
      intro hi
      obtain ⟨o, d, ho, hd, hs, hdn, hlt, _, _⟩ := hall i hi
      by_cases h : listed.getD i true = true
      · simpa [Array.getD, hsz, hi] using h
      · have hf : listed.getD i true = false := by simpa using h
        have : i ∈ Region.ready .any ops listed := mem_ready.2 ⟨hf, o, ho, fun e he hb => ih _ (hlt e he hb) (Nat.lt_trans (hlt e he hb) hi)⟩
        rw [hr] at this; cases this
  exact hend a w hS hB fun i hi => (hF i (hlist i hi)).1
end
/-- What an operation is: where it leaves its value, what it does, its type, its guard. -/
structure Sig where
  d : Nat
  op : Op
  ty : TypeId
  g : Option (Nat × Bool)
def Sig.oper (s : Sig) (pos : String) (af : Array Edge) : Oper := ⟨some s.d, s.op, s.ty, pos, af, s.g⟩
def sigOf (o : Oper) : Option Sig := o.dst.map fun d => ⟨d, o.op, o.type, o.guard⟩
def sigsOf (ops : Array Oper) : List (Option Sig) := ops.toList.map sigOf
section
variable {R : Array Oper}
theorem sig_at {L : List Sig} (hL : sigsOf R = L.map some) {i : Nat} {s : Sig} (hi : L[i]? = some s) : ∃ pos af, R[i]? = some (s.oper pos af) := by
  have h1 : (sigsOf R)[i]? = some (some s) := by rw [hL, List.getElem?_map, hi]; rfl
  unfold sigsOf at h1
  rw [List.getElem?_map, Array.getElem?_toList] at h1
  obtain ⟨o, ho, h2⟩ := Option.map_eq_some_iff.1 h1
  obtain ⟨d, op, ty, pos, af, g⟩ := o
  unfold sigOf at h2
  cases d with
  | none => cases h2
  | some d =>
    simp only [Option.map_some, Option.some.injEq] at h2
    subst h2
    exact ⟨pos, af, ho⟩
end
section
variable {w w' : World} {b : Nat} {cs : Array Value} {ty : TypeId}
theorem Rec.z (h : Rec w b cs ty) (i : Nat) : w.frozen? ⟨b, i, none⟩ = false := by simp [World.frozen?, show w.heap[b]? = _ from h]
theorem Rec.set (h : Rec w b cs ty) (i : Nat) (v : Value) : Rec (w.setCell ⟨b, i, none⟩ v) b (cs.setIfInBounds i v) ty := by
  have hl := h.lt
  have e : w.heap[b] = .cells cs ty (0, 0) := by
    have := show w.heap[b]? = _ from h
    rw [Array.getElem?_eq_getElem hl] at this; exact Option.some.inj this
  unfold Rec
  simp [World.setCell, hl, Array.getElem_modify, e]
end
/-- A world that parts from another in one block alone, which holds these cells. -/
structure Put (X : Nat) (w w' : World) (cs : Array Value) (ty : TypeId) : Prop where
  r : Rec w' X cs ty
  other : ∀ i, i ≠ X → w'.heap[i]? = w.heap[i]?
  size : w'.heap.size = w.heap.size
  below : Below X w w'
theorem put_set {X : Nat} {w w' : World} {cs : Array Value} {ty : TypeId} (h : Put X w w' cs ty) (i : Nat) (v : Value) : Put X w (w'.setCell ⟨X, i, none⟩ v) (cs.setIfInBounds i v) ty :=
  ⟨h.r.set i v, fun j hj => (Below.heap_setCell _ _ _ _ hj).trans (h.other j hj), by simp [World.setCell, h.size], h.below.setCell (Nat.le_refl _) _⟩
theorem put_refl {X : Nat} {w : World} {cs : Array Value} {ty : TypeId} (h : Rec w X cs ty) : Put X w w cs ty := ⟨h, fun _ _ => rfl, rfl, Below.refl _ _⟩
noncomputable def L11 : List Oper := (regionAt Tryz.f11 3).toList
noncomputable def R11 : Array Oper := (L11.take 14).toArray
def S11 : List Sig := [⟨8, .fieldAddr 25 (.tmp 1) 0, 0, none⟩, ⟨9, .load 22 (.tmp 8), 22, none⟩, ⟨10, .call { callee := .builtin .len, args := #[.tmp 9], argTypes := #[22] }, 3, none⟩, ⟨11, .fieldAddr 25 (.tmp 1) 1, 0, none⟩, ⟨12, .load 23 (.tmp 11), 23, none⟩, ⟨13, .call { callee := .builtin .len, args := #[.tmp 12], argTypes := #[23] }, 3, none⟩, ⟨14, .load 25 (.tmp 1), 25, none⟩, ⟨15, .call { callee := .value (.func 43), args := #[.tmp 14], argTypes := #[25] }, 28, none⟩, ⟨16, .load 25 (.tmp 1), 25, none⟩, ⟨17, .call { callee := .value (.func 44), args := #[.tmp 16], argTypes := #[25] }, 29, none⟩, ⟨18, .load 25 (.tmp 1), 25, none⟩, ⟨19, .call { callee := .value (.func 45), args := #[.tmp 18], argTypes := #[25] }, 30, none⟩, ⟨20, .load 25 (.tmp 1), 25, none⟩, ⟨21, .call { callee := .value (.func 46), args := #[.tmp 20], argTypes := #[25] }, 31, none⟩]
theorem show11 : sigsOf R11 = S11.map some := by kernel_rfl
def anc11 (i : Nat) : List Nat := [[], [0], [1], [], [3], [4], [], [6], [], [8], [], [10], [], [12]].getD i []
section
variable (bx : Nat) (na : Option Addr) (l1 nc : Nat) (ra : Option Addr) (l2 rc : Nat) (nn nr : Int) (p0 p1 p2 p3 : Value → World → Prop)
abbrev gv11 : Value := .agg #[.slice na l1 nc, .slice ra l2 rc, .int .i64 nn, .int .i64 nr]
def facts11 : List (Value → World → Prop) := [eqv (.pointer (some ⟨bx, 0, none⟩)), eqv (.slice na l1 nc), eqv (.int .i64 l1), eqv (.pointer (some ⟨bx, 1, none⟩)), eqv (.slice ra l2 rc), eqv (.int .i64 l2), eqv (gv11 na l1 nc ra l2 rc nn nr), p0, eqv (gv11 na l1 nc ra l2 rc nn nr), p1, eqv (gv11 na l1 nc ra l2 rc nn nr), p2, eqv (gv11 na l1 nc ra l2 rc nn nr), p3]
structure Wd11 (w : World) : Prop where
  c0 : w.cell? ⟨bx, 0, none⟩ = some (.slice na l1 nc)
  c1 : w.cell? ⟨bx, 1, none⟩ = some (.slice ra l2 rc)
  c2 : w.cell? ⟨bx, 2, none⟩ = some (.int .i64 nn)
  c3 : w.cell? ⟨bx, 3, none⟩ = some (.int .i64 nr)
  k0 : Calls Tryz.prog 43 #[gv11 na l1 nc ra l2 rc nn nr] w fun e w' => ∃ v, e = .returned v ∧ p0 v w' ∧ Below w.heap.size w w'
  k1 : Calls Tryz.prog 44 #[gv11 na l1 nc ra l2 rc nn nr] w fun e w' => ∃ v, e = .returned v ∧ p1 v w' ∧ Below w.heap.size w w'
  k2 : Calls Tryz.prog 45 #[gv11 na l1 nc ra l2 rc nn nr] w fun e w' => ∃ v, e = .returned v ∧ p2 v w' ∧ Below w.heap.size w w'
  k3 : Calls Tryz.prog 46 #[gv11 na l1 nc ra l2 rc nn nr] w fun e w' => ∃ v, e = .returned v ∧ p3 v w' ∧ Below w.heap.size w w'
set_option maxRecDepth 100000 in
theorem ops11 (Q : Exit → Act → World → Prop) (c : Act) (w : World) (e1 : c.eval (.tmp 1) = .pointer (some ⟨bx, 0, none⟩)) (hl1 : l1 ≤ 9223372036854775807) (hl2 : l2 ≤ 9223372036854775807) (hW : Wd11 bx na l1 nc ra l2 rc nn nr p0 p1 p2 p3 w) (i : Nat) (hi : i < 14) (hF : ∀ j ∈ anc11 i, factsAt (facts11 bx na l1 nc ra l2 rc nn nr p0 p1 p2 p3) j (val R11 c j) w) :
    Does Tryz.prog R11 Q (factsAt (facts11 bx na l1 nc ra l2 rc nn nr p0 p1 p2 p3)) i c w := by
  have ec : ∀ v, c.eval (.const v) = v := fun _ => rfl
  have ef : ∀ f, c.eval (.func f) = .func (.func f) #[] #[] := fun _ => rfl
  have hC0 := hW.c0
  have hC1 := hW.c1
  have hC2 := hW.c2
  have hC3 := hW.c3
  match i, hi, hF with
  | 0, _, hF =>
    obtain ⟨pos, af, ho⟩ := sig_at show11 (i := 0) rfl
    refine does_value ho (want_none rfl) (v := .pointer (some ⟨bx, 0, none⟩)) ?_ rfl (Below.refl _ _)
    dsimp only [Sig.oper]
    generalize c.eval = ρ at *
    clear hF hW ho
    go_simp
  | 1, _, hF =>
    obtain ⟨pos, af, ho⟩ := sig_at show11 (i := 1) rfl
    have e8 : c.eval (.tmp 8) = .pointer (some ⟨bx, 0, none⟩) := fact_at (p := eqv (.pointer (some ⟨bx, 0, none⟩))) (by kernel_rfl) rfl (hF 0 (by decide))
    refine does_value ho (want_none rfl) (v := .slice na l1 nc) ?_ rfl (Below.refl _ _)
    dsimp only [Sig.oper]
    generalize c.eval = ρ at *
    clear hF hW ho
    go_simp
  | 2, _, hF =>
    obtain ⟨pos, af, ho⟩ := sig_at show11 (i := 2) rfl
    have e9 : c.eval (.tmp 9) = .slice na l1 nc := fact_at (p := eqv (.slice na l1 nc)) (by kernel_rfl) rfl (hF 1 (by decide))
    refine does_value ho (want_none rfl) (v := .int .i64 l1) ?_ rfl (Below.refl _ _)
    dsimp only [Sig.oper]
    generalize c.eval = ρ at *
    clear hF hW ho
    go_simp
  | 3, _, hF =>
    obtain ⟨pos, af, ho⟩ := sig_at show11 (i := 3) rfl
    refine does_value ho (want_none rfl) (v := .pointer (some ⟨bx, 1, none⟩)) ?_ rfl (Below.refl _ _)
    dsimp only [Sig.oper]
    generalize c.eval = ρ at *
    clear hF hW ho
    go_simp
  | 4, _, hF =>
    obtain ⟨pos, af, ho⟩ := sig_at show11 (i := 4) rfl
    have e11 : c.eval (.tmp 11) = .pointer (some ⟨bx, 1, none⟩) := fact_at (p := eqv (.pointer (some ⟨bx, 1, none⟩))) (by kernel_rfl) rfl (hF 3 (by decide))
    refine does_value ho (want_none rfl) (v := .slice ra l2 rc) ?_ rfl (Below.refl _ _)
    dsimp only [Sig.oper]
    generalize c.eval = ρ at *
    clear hF hW ho
    go_simp
  | 5, _, hF =>
    obtain ⟨pos, af, ho⟩ := sig_at show11 (i := 5) rfl
    have e12 : c.eval (.tmp 12) = .slice ra l2 rc := fact_at (p := eqv (.slice ra l2 rc)) (by kernel_rfl) rfl (hF 4 (by decide))
    refine does_value ho (want_none rfl) (v := .int .i64 l2) ?_ rfl (Below.refl _ _)
    dsimp only [Sig.oper]
    generalize c.eval = ρ at *
    clear hF hW ho
    go_simp
  | 6, _, hF =>
    obtain ⟨pos, af, ho⟩ := sig_at show11 (i := 6) rfl
    refine does_value ho (want_none rfl) (v := gv11 na l1 nc ra l2 rc nn nr) ?_ rfl (Below.refl _ _)
    dsimp only [Sig.oper]
    generalize c.eval = ρ at *
    clear hF hW ho
    go_simp
  | 7, _, hF =>
    obtain ⟨pos, af, ho⟩ := sig_at show11 (i := 7) rfl
    have e14 : c.eval (.tmp 14) = gv11 na l1 nc ra l2 rc nn nr := fact_at (p := eqv (gv11 na l1 nc ra l2 rc nn nr)) (by kernel_rfl) rfl (hF 6 (by decide))
    refine does_call ho (want_none rfl) (f := 43) (args := #[gv11 na l1 nc ra l2 rc nn nr]) ?_ (Calls.mono hW.k0 fun e w' ⟨v, h1, h2, h3⟩ => ⟨v, h1, h2, h3⟩)
    dsimp only [Sig.oper]
    generalize c.eval = ρ at *
    clear hF hW ho
    go_simp
  | 8, _, hF =>
    obtain ⟨pos, af, ho⟩ := sig_at show11 (i := 8) rfl
    refine does_value ho (want_none rfl) (v := gv11 na l1 nc ra l2 rc nn nr) ?_ rfl (Below.refl _ _)
    dsimp only [Sig.oper]
    generalize c.eval = ρ at *
    clear hF hW ho
    go_simp
  | 9, _, hF =>
    obtain ⟨pos, af, ho⟩ := sig_at show11 (i := 9) rfl
    have e16 : c.eval (.tmp 16) = gv11 na l1 nc ra l2 rc nn nr := fact_at (p := eqv (gv11 na l1 nc ra l2 rc nn nr)) (by kernel_rfl) rfl (hF 8 (by decide))
    refine does_call ho (want_none rfl) (f := 44) (args := #[gv11 na l1 nc ra l2 rc nn nr]) ?_ (Calls.mono hW.k1 fun e w' ⟨v, h1, h2, h3⟩ => ⟨v, h1, h2, h3⟩)
    dsimp only [Sig.oper]
    generalize c.eval = ρ at *
    clear hF hW ho
    go_simp
  | 10, _, hF =>
    obtain ⟨pos, af, ho⟩ := sig_at show11 (i := 10) rfl
    refine does_value ho (want_none rfl) (v := gv11 na l1 nc ra l2 rc nn nr) ?_ rfl (Below.refl _ _)
    dsimp only [Sig.oper]
    generalize c.eval = ρ at *
    clear hF hW ho
    go_simp
  | 11, _, hF =>
    obtain ⟨pos, af, ho⟩ := sig_at show11 (i := 11) rfl
    have e18 : c.eval (.tmp 18) = gv11 na l1 nc ra l2 rc nn nr := fact_at (p := eqv (gv11 na l1 nc ra l2 rc nn nr)) (by kernel_rfl) rfl (hF 10 (by decide))
    refine does_call ho (want_none rfl) (f := 45) (args := #[gv11 na l1 nc ra l2 rc nn nr]) ?_ (Calls.mono hW.k2 fun e w' ⟨v, h1, h2, h3⟩ => ⟨v, h1, h2, h3⟩)
    dsimp only [Sig.oper]
    generalize c.eval = ρ at *
    clear hF hW ho
    go_simp
  | 12, _, hF =>
    obtain ⟨pos, af, ho⟩ := sig_at show11 (i := 12) rfl
    refine does_value ho (want_none rfl) (v := gv11 na l1 nc ra l2 rc nn nr) ?_ rfl (Below.refl _ _)
    dsimp only [Sig.oper]
    generalize c.eval = ρ at *
    clear hF hW ho
    go_simp
  | 13, _, hF =>
    obtain ⟨pos, af, ho⟩ := sig_at show11 (i := 13) rfl
    have e20 : c.eval (.tmp 20) = gv11 na l1 nc ra l2 rc nn nr := fact_at (p := eqv (gv11 na l1 nc ra l2 rc nn nr)) (by kernel_rfl) rfl (hF 12 (by decide))
    refine does_call ho (want_none rfl) (f := 46) (args := #[gv11 na l1 nc ra l2 rc nn nr]) ?_ (Calls.mono hW.k3 fun e w' ⟨v, h1, h2, h3⟩ => ⟨v, h1, h2, h3⟩)
    dsimp only [Sig.oper]
    generalize c.eval = ρ at *
    clear hF hW ho
    go_simp
  | n + 14, h, _ => exact absurd h (by omega)
end
theorem size11 : R11.size = 14 := by kernel_rfl
theorem facts14 {Q : Exit → Act → World → Prop} {F : Nat → Value → World → Prop} {base : Act} {w0 : World}
    (hok : factsOk .any R11 base.tmps.size anc11 = true)
    (hmono : ∀ i v w w', F i v w → Below w.heap.size w w' → F i v w')
    (hop : ∀ i, i < 14 → ∀ a w, Same R11 base a → Below w0.heap.size w0 w → (∀ j ∈ anc11 i, F j (val R11 a j) w) → Does Tryz.prog R11 Q F i a w)
    (hend : ∀ a w, Same R11 base a → Below w0.heap.size w0 w → (∀ i, i < 14 → F i (val R11 a i) w) → Q .normal a w) :
    wpAny Tryz.prog .any (L11.take 14).toArray Q 14 (Array.replicate 14 false) base w0.drew := by
  have h := factsA_any (P := Tryz.prog) (ops := R11) (Q := Q) (A := anc11) (F := F) (base := base) (w0 := w0) hok hmono (fun i hi => hop i (by rw [size11] at hi; exact hi)) (fun a w h1 h2 h3 => hend a w h1 h2 (fun i hi => h3 i (by rw [size11]; exact hi)))
  rw [size11] at h
  exact h
theorem stable11 (bx : Nat) (na : Option Addr) (l1 nc : Nat) (ra : Option Addr) (l2 rc : Nat) (nn nr : Int) {p0 p1 p2 p3 : Value → World → Prop} (h0 : Stable p0) (h1 : Stable p1) (h2 : Stable p2) (h3 : Stable p3) : ∀ p ∈ facts11 bx na l1 nc ra l2 rc nn nr p0 p1 p2 p3, Stable p := by
  intro p hp
  simp only [facts11, List.mem_cons, List.not_mem_nil, or_false] at hp
  rcases hp with rfl | rfl | rfl | rfl | rfl | rfl | rfl | rfl | rfl | rfl | rfl | rfl | rfl | rfl <;> first | exact eqv_stable _ | assumption
end Go.Proofs.YthfilnflgahcjaaGreatDoor

namespace Go.Proofs.YthfilnflgahcjaaGreatDoor
open Go.RowKit Go.Shelf Go.Maps
theorem labV_inj (x y : ByteArray × Int) (h : labV x = labV y) : x = y := labT.inj x y h
theorem endV_inj (x y : EndR) (h : endV x = endV y) : x = y := endT.inj x y h
theorem keyV_inj (x y : KeyR) (h : keyV x = keyV y) : x = y := keyT.inj x y h
theorem nodup_len {α : Type} : ∀ {l l' : List α}, l.Nodup → (∀ x ∈ l, x ∈ l') → l.length ≤ l'.length
  | [], _, _, _ => Nat.zero_le _
  | a :: r, l', h, hs => by
    simp only [List.nodup_cons] at h
    obtain ⟨s, t, rfl⟩ := List.append_of_mem (hs a List.mem_cons_self)
    have := nodup_len (l := r) (l' := s ++ t) h.2 fun x hx => by
      have h1 := hs x (List.mem_cons_of_mem _ hx)
      rcases List.mem_append.1 h1 with h1 | h1
      · exact List.mem_append_left _ h1
      · rcases List.mem_cons.1 h1 with rfl | h1
        · exact absurd hx h.1
        · exact List.mem_append_right _ h1
    simp only [List.length_append, List.length_cons] at *
    omega
theorem map_inj_list {α β : Type} {f : α → β} (hf : ∀ x y, f x = f y → x = y) : ∀ {l l' : List α}, l.map f = l'.map f → l = l'
  | [], [], _ => rfl
  | [], b :: l', h => by simp at h
  | a :: l, [], h => by simp at h
  | a :: l, b :: l', h => by
    simp only [List.map_cons, List.cons.injEq] at h
    rw [hf a b h.1, map_inj_list hf h.2]
theorem perm_map_back {α β : Type} {f : α → β} (hf : ∀ x y, f x = f y → x = y) {l l' : List α} (h : (l.map f).Perm (l'.map f)) : l.Perm l' := by
  obtain ⟨m, h1, h2⟩ : ∃ m : List α, m.Perm l' ∧ m.map f = l.map f := by
    generalize l.map f = k at h
    generalize hk : l'.map f = k' at h
    induction h generalizing l' with
    | nil => exact ⟨[], by rw [List.map_eq_nil_iff.1 hk], rfl⟩
    | cons x _ ih =>
      obtain ⟨a, r, rfl, rfl, hr⟩ := List.map_eq_cons_iff.1 hk
      obtain ⟨m, h1, h2⟩ := ih hr
      exact ⟨a :: m, h1.cons a, by rw [List.map_cons, h2]⟩
    | swap x y t =>
      obtain ⟨a, r, rfl, rfl, hr⟩ := List.map_eq_cons_iff.1 hk
      obtain ⟨c, r2, rfl, rfl, hr2⟩ := List.map_eq_cons_iff.1 hr
      exact ⟨c :: a :: r2, List.Perm.swap _ _ _, by simp [hr2]⟩
    | trans _ _ ih1 ih2 =>
      obtain ⟨m, h1, h2⟩ := ih2 hk
      obtain ⟨m', h3, h4⟩ := ih1 h2
      exact ⟨m', h3.trans h1, h4⟩
  rw [map_inj_list hf h2] at h1
  exact h1
theorem perm_back {α : Type} {V : α → Value} (hV : ∀ x y, V x = V y → x = y) {D cs : List (α × Int)} (h : (D.map (fun p => (V p.1, Value.int .i64 p.2))).Perm (cs.map (fun p => (V p.1, Value.int .i64 p.2)))) : D.Perm cs :=
  perm_map_back (f := fun p : α × Int => (V p.1, Value.int .i64 p.2)) (fun x y e => by
    obtain ⟨e1, e2⟩ := Prod.mk.inj e
    have e3 : x.2 = y.2 := by injection e2
    exact Prod.ext (hV _ _ e1) e3) h
end Go.Proofs.YthfilnflgahcjaaGreatDoor

namespace Go.Proofs.YthfilnflgahcjaaGreatDoor
open Go.RowKit Go.Shelf Go.Maps
set_option linter.unusedVariables false
set_option linter.unusedSimpArgs false
attribute [local go_sem] Oper.semAt_some
set_option maxHeartbeats 1000000 in
theorem f83_any (s : ByteArray) (q z : Int) (w : World) : Calls Tryz.prog 83 #[.agg #[.string s, .int .i64 q], .int .i64 z] w fun e w' => e = .returned (.agg #[.string s, .int .i64 z]) ∧ Below w.heap.size w w' := by
  go_enter Tryz.func83, Tryz.ntmps83
  go_wp2
  refine bodyPost_ret (by simp [results, Tryz.results83, go_sem]) rfl ⟨rfl, ((Below.refl _ _).alloc (Nat.le_refl _) _).alloc (by simp) _⟩
structure Rowing84 (w : World) (ar : Array MapEntry) (clock b r : Nat) (wr : World) (v : Value) (seen : Array Nat) (c0 : Nat) (done : List MapEntry) (D : List ((ByteArray × Int) × Int)) : Prop where
  it : wr.heap[r]? = some (.mapIter (some b) clock seen c0)
  cl : clock ≤ c0
  bw : Below w.heap.size w wr
  row : ORow 42 2 labC (r + 1) wr v (D.map (fun p : (ByteArray × Int) × Int => (p.1.1, p.2)))
  dn : D.map (fun p => (labV p.1, Value.int .i64 p.2)) = done.map (fun e => (e.key, e.val))
  nd : done.Nodup
  sub : ∀ x ∈ done, x ∈ ar.toList
  has : ∀ x ∈ ar.toList, seen.contains x.born = true ↔ x ∈ done
/-- A sort that does so. -/
def Sorts84 (le : ByteArray × Int → ByteArray × Int → Prop) (most : Nat) : Prop := ∀ (W : World) (v : Value) (base : Nat) (xs : List (ByteArray × Int)), base ≤ W.heap.size → xs.length ≤ most → ORow 42 2 labC base W v xs → Calls Tryz.prog 121 #[v, .func (.func 85) #[] #[]] W fun e w' => e = .returned (.tuple #[]) ∧ ∃ ys, ys.Perm xs ∧ ys.Pairwise le ∧ ORow 42 2 labC base w' v ys ∧ Below base W w'
set_option maxRecDepth 100000 in
set_option maxHeartbeats 8000000 in
theorem rows84_any {le : ByteArray × Int → ByteArray × Int → Prop} {most : Nat} (hsort : Sorts84 le most) (hmost : most ≤ 900000) {w : World} {b : Nat} {cs : List ((ByteArray × Int) × Int)} (h : MC labV okL w b cs) (hl : cs.length ≤ most) :
    Calls Tryz.prog 84 #[.map (some b), .func (.func 83) #[] #[], .func (.func 85) #[] #[]] w fun e w' => ∃ v L, e = .returned v ∧ L.Perm (cs.map (fun p : (ByteArray × Int) × Int => (p.1.1, p.2))) ∧ L.Pairwise le ∧ ORow 42 2 labC w.heap.size w' v L ∧ Below w.heap.size w w' := by
  have hbl := MG.lt h
  obtain ⟨ar, clock, hb, hent, hoks, hst⟩ := h
  have hn : ar.size = cs.length := by have := congrArg List.length hent; simpa using this
  have HENT : Hid (∀ x ∈ ar.toList, ∃ p ∈ cs, x.key = labV p.1 ∧ x.val = .int .i64 p.2) := fun x hx => by
    have h1 : (x.key, x.val) ∈ ar.toList.map (fun e => (e.key, e.val)) := List.mem_map.2 ⟨x, hx, rfl⟩
    rw [hent] at h1
    obtain ⟨q, hq, e⟩ := List.mem_map.1 h1
    obtain ⟨p, hp, rfl⟩ := List.mem_map.1 hq
    obtain ⟨e1, e2⟩ := Prod.mk.inj e
    exact ⟨p, hp, e1.symm, e2.symm⟩
  have HEQ : Hid (ar.toList.map (fun e => (e.key, e.val)) = cs.map (fun p => (labV p.1, Value.int .i64 p.2))) := by
    show _ = _
    rw [hent, List.map_map]; rfl
  have HND : Hid (ar.toList.Nodup) := by
    have := hst.2.1
    rw [List.nodup_iff_pairwise_ne] at *
    exact (List.pairwise_map.1 this).imp fun h e => h (by rw [e])
  have HBORN : Hid (∀ x ∈ ar.toList, ∀ y ∈ ar.toList, x.born = y.born → x = y) := fun x hx y hy e => by
    obtain ⟨i, hi⟩ := List.getElem?_of_mem hx
    obtain ⟨j, hj⟩ := List.getElem?_of_mem hy
    have := (List.getElem?_inj (l := ar.toList.map (·.born)) (by simpa using (List.getElem?_eq_some_iff.1 hi).1) hst.2.1 (i := i) (j := j)).1 (by rw [List.getElem?_map, List.getElem?_map, hi, hj, Option.map_some, Option.map_some, e])
    subst this
    rw [hi] at hj
    exact Option.some.inj hj
  have HLEN : Hid (∀ done : List MapEntry, done.Nodup → (∀ x ∈ done, x ∈ ar.toList) → done.length ≤ most) := fun done h1 h2 => by
    have := nodup_len h1 h2
    simp only [Array.length_toList] at this
    omega
  have HST := hidE hst
  have HB := hidE hb
  have HCS := hidE hl
  clear hent hoks hst hn hb hl
  go_enter Tryz.func84, Tryz.ntmps84
  have hrg := run_range_map (P := Tryz.prog) w 134 42 2 b ar clock (by kernel_rfl) HB.out
  go_wp2_with fail
  go_loopw [7] (fun v wr => ∃ seen c0 done D, Rowing84 w ar clock b w.heap.size wr v seen c0 done D) (fun _ wr => wr.rangeLeft b w.heap.size)
  case atStart =>
    exact ⟨#[], clock, [], [], World.alloc_heap_new _ _, Nat.le_refl _, (Below.refl _ _).alloc (Nat.le_refl _) _, orow_nil _ _ _ _ _, rfl, List.nodup_nil, fun x hx => by simp at hx, fun x hx => by simp⟩
  case round =>
    obtain ⟨seen, c0, done, D, hC⟩ := hrel
    have HC := hidE hC
    have hb2 : wr.heap[b]? = some (.map ar clock) := (hC.bw.block b hbl).trans HB.out
    rcases run_next_at (P := Tryz.prog) wr 0 w.heap.size b clock c0 seen ar clock hC.it hb2 HST.out.1 hC.cl with ⟨h0, hnx⟩ | ⟨x, hx, w1, hw1, hnx⟩
    · have HF : Hid ((D.map (fun p : (ByteArray × Int) × Int => (p.1.1, p.2))).Perm (cs.map (fun p : (ByteArray × Int) × Int => (p.1.1, p.2)))) := by
        have hp : done.Perm ar.toList := (List.perm_ext_iff_of_nodup hC.nd HND.out).2 fun x => ⟨hC.sub x, fun hx => (hC.has x hx).1 (all_seen ar seen h0 x hx)⟩
        have h1 := hp.map (fun e => (e.key, e.val))
        rw [← hC.dn, HEQ.out] at h1
        exact (perm_back labV_inj h1).map _
      have hlen : (D.map (fun p : (ByteArray × Int) × Int => (p.1.1, p.2))).length ≤ most := by rw [HF.out.length_eq, List.length_map]; exact HCS.out
      have HS := hidE (hsort wr _ (w.heap.size + 1) _ (by have := (Array.getElem?_eq_some_iff.1 hC.it).1; omega) hlen hC.row)
      have HBW := hidE hC.bw
      clear hC HC hb2 h0 hlen
      go_wp2_with (go_at_call 121; refine HS.out.mono ?_; rintro e W3 ⟨rfl, ys, y1, y2, y3, y4⟩; have HY := hidE (And.intro y1 (And.intro y2 (And.intro y3 y4))); clear y1 y2 y3 y4)
      go_ret
      obtain ⟨y1, y2, y3, y4⟩ := HY.out
      exact ⟨_, ys, rfl, y1.trans HF.out, y2, y3.base (by omega), HBW.out.trans (y4.mono (by omega))⟩
    · obtain ⟨hxm, hxs⟩ := mem_left hx
      obtain ⟨⟨⟨s, q⟩, z⟩, hpc, ek, ev⟩ := HENT.out x hxm
      simp only [labV] at ek ev
      obtain ⟨U, hU⟩ : ∃ V, Go.ChangeMaps.setBlock w1 w.heap.size (.mapIter (some b) clock (seen.push x.born) clock) = V := ⟨_, rfl⟩
      rw [hU, ek, ev] at hnx
      have hit1 : w1.heap[w.heap.size]? = some (.mapIter (some b) clock seen c0) := by rcases hw1 with rfl | rfl <;> exact hC.it
      have hset := MapKept.heap_set (o' := .mapIter (some b) clock (seen.push x.born) clock) hit1
      have hVo : ∀ q, q ≠ w.heap.size → U.heap[q]? = wr.heap[q]? := fun q hq => by
        rw [← hU]
        have : w1.heap[q]? = wr.heap[q]? := by rcases hw1 with rfl | rfl <;> rfl
        exact (hset.2 q hq).trans this
      have hVs : U.heap.size = wr.heap.size := by
        rw [← hU]
        have : w1.heap.size = wr.heap.size := by rcases hw1 with rfl | rfl <;> rfl
        simp [Go.ChangeMaps.setBlock, this]
      have hVi : U.heap[w.heap.size]? = some (.mapIter (some b) clock (seen.push x.born) clock) := by rw [← hU]; exact hset.1
      have hVt : U.os = wr.os ∧ U.tape = wr.tape ∧ U.output = wr.output := by
        rw [← hU]
        rcases hw1 with rfl | rfl <;> exact ⟨rfl, rfl, rfl⟩
      have hbV : Below w.heap.size w U := ⟨hVt.1.trans hC.bw.os, hVt.2.1.trans hC.bw.tape, hVt.2.2.trans hC.bw.output, by rw [hVs]; exact hC.bw.size, fun q hq => (hVo q (by omega)).trans (hC.bw.block q hq)⟩
      have hen := run_entry_at (P := Tryz.prog) U w.heap.size b clock seen ar clock x hVi ((hbV.block b hbl).trans HB.out) hxm HST.out.2.1
      rw [ek, ev] at hen
      have hor : ORow 42 2 labC (w.heap.size + 1) U _ (D.map (fun p : (ByteArray × Int) × Int => (p.1.1, p.2))) := hC.row.keep fun g hg _ => hVo g (by omega)
      have hmeas : (leftOf ar (seen.push x.born)).size < (leftOf ar seen).size := left_shrinks ar seen x hx
      have hmeas2 : wr.rangeLeft b w.heap.size = (leftOf ar seen).size := by simp only [World.rangeLeft, hb2, hC.it]
      have hszr : w.heap.size < U.heap.size := (Array.getElem?_eq_some_iff.1 hVi).1
      have hdl : D.length ≤ most := by
        have h1 := congrArg List.length hC.dn
        simp only [List.length_map] at h1
        rw [h1]; exact HLEN.out done hC.nd hC.sub
      have HA : Hid (Below U.heap.size U (U.alloc (.cells #[.string s, .int .i64 q] 42))) := (Below.refl _ _).alloc (Nat.le_refl _) _
      have HU := hidE (And.intro hVi (And.intro hbV (And.intro hor (And.intro hszr hdl))))
      have HX := hidE (And.intro hxm (And.intro hxs (And.intro ek ev)))
      have HM := hidE (And.intro hmeas hmeas2)
      clear hC hb2 hU hit1 hset hVo hVs hVi hVt hbV hxm hxs ek ev hx hw1 hmeas hmeas2 hpc hor hszr hdl
      go_wp2_with (first
        | (go_at_call 83; refine (f83_any s q z _).mono ?_; rintro e W2 ⟨rfl, hb2⟩
           obtain ⟨v6, W6, p1, p2, p3, p4⟩ := append_one (ty := 28) (c := 1) (bl := W2.heap.size) (off := 0) (x := (s, z)) elem28 (fun x => rfl) one_lab (((HU.out.2.2.1.below HA.out).below hb2).below ((Below.refl _ _).alloc (Nat.le_refl _) (.cells #[.string s, .int .i64 z] 42))) (fun jj u hu => by
             rw [Nat.zero_add]
             exact cell_new _ _ _ _ _ (by simpa [labC] using hu)) (by rw [List.length_map]; have := HU.out.2.2.2.2; omega) (by have h1 := HU.out.2.2.2.1; have h2 := HA.out.size; have h3 := hb2.size; simp; omega)
           have HP := hidE (And.intro p2 (And.intro p3 hb2))
           clear p2 p3 p4 hb2)
        | (at_builtin; refine Lib.wpList_append_run _ rfl _ _ _ _ rfl _ _ rfl rfl _ _ p1 ?_))
      have HNEW : Hid (Rowing84 w ar clock b w.heap.size W6 v6 (seen.push x.born) clock (done ++ [x]) (D ++ [((s, q), z)])) := by
        obtain ⟨p2, p3, hb2⟩ := HP.out
        obtain ⟨u1, u2, u3, u4, u5⟩ := HU.out
        have hbig : Below (w.heap.size + 1) U W6 := (((HA.out.mono (by omega)).trans (hb2.mono (by have := HA.out.size; omega))).trans (((Below.refl _ _).alloc (Nat.le_refl _) _ : Below W2.heap.size W2 (W2.alloc (.cells #[.string s, .int .i64 z] 42))).mono (by have := HA.out.size; have := hb2.size; omega))).trans p3
        refine ⟨(hbig.block _ (by omega)).trans u1, Nat.le_refl _, u2.trans (hbig.mono (by omega)), ?_, ?_, ?_, ?_, ?_⟩
        · rw [List.map_append]; exact p2
        · rw [List.map_append, List.map_append, HC.out.dn]
          simp [labV, HX.out.2.2.1, HX.out.2.2.2]
        · refine List.nodup_append.2 ⟨HC.out.nd, by simp, fun a ha c hc => ?_⟩
          simp only [List.mem_singleton] at hc
          subst hc
          intro e
          subst e
          have := (HC.out.has _ HX.out.1).2 ha
          rw [HX.out.2.1] at this
          cases this
        · intro y hy
          rcases List.mem_append.1 hy with hy | hy
          · exact HC.out.sub y hy
          · rw [List.mem_singleton.1 hy]; exact HX.out.1
        · intro y hy
          rw [contains_push]
          simp only [Bool.or_eq_true, HC.out.has y hy, beq_iff_eq, List.mem_append, List.mem_singleton]
          constructor
          · rintro (h1 | h1)
            · exact .inl h1
            · exact .inr (HBORN.out y hy x HX.out.1 h1)
          · rintro (h1 | h1)
            · exact .inl h1
            · exact .inr (by rw [h1])
      go_roundw
      case rel => exact ⟨_, _, _, _, HNEW.out⟩
      case measure =>
        have h1 : W6.rangeLeft b w.heap.size = (leftOf ar (seen.push x.born)).size := by
          have hb4 : W6.heap[b]? = some (.map ar clock) := (HNEW.out.bw.block b hbl).trans HB.out
          simp only [World.rangeLeft, hb4, HNEW.out.it]
        rw [h1, HM.out.2]
        exact HM.out.1
end Go.Proofs.YthfilnflgahcjaaGreatDoor

