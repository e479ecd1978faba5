/- Whatever order a region draws: an invariant that each operation keeps. Facts about each operation's value, kept by whatever comes after it. -/
import Derived.Orders
import Derived.WalkKit
import Derived.Below
namespace Go.Proofs.YthfilnflgahcjaaGreatDoor
open Go.RowKit
set_option linter.unusedVariables false
section
variable {P : Program} {ops : Array Oper} {Q : Exit → Act → World → Prop} {md : Region.Mode}
/-- How many operations have not come up. -/
def left (listed : Array Bool) : Nat := listed.toList.countP (fun b => !b)
theorem left_set {listed : Array Bool} {i : Nat} (h : listed.getD i true = false) : left (listed.setIfInBounds i true) + 1 = left listed := by
  have hi : i < listed.size := by
    rcases Nat.lt_or_ge i listed.size with h' | h'
    · exact h'
    · simp [Array.getD, Nat.not_lt.2 h'] at h
  have hv : listed.toList[i]'(by simpa using hi) = false := by
    simpa [Array.getD, hi] using h
  unfold left
  rw [Array.toList_setIfInBounds, List.countP_set (by simpa using hi)]
  have hp : 0 < List.countP (fun b => !b) listed.toList := List.countP_pos_iff.2 ⟨_, List.getElem_mem (by simpa using hi), by simp [hv]⟩
  rw [hv]
  simp only [Bool.not_false, Bool.not_true, if_true, Bool.false_eq_true, if_false]
  omega
theorem left_zero {listed : Array Bool} (h : left listed = 0) (i : Nat) : listed.getD i true = true := by
  rcases Nat.lt_or_ge i listed.size with h' | h'
  · have := List.countP_eq_zero.1 h (listed[i]) (by simp)
    simp [Array.getD, h']
    simpa using this
  · simp [Array.getD, Nat.not_lt.2 h']
theorem left_new (n : Nat) : left (Array.replicate n false) = n := by
  unfold left
  rw [Array.toList_replicate]
  induction n with
  | zero => rfl
  | succ n ih => rw [List.replicate_succ, List.countP_cons, ih]; simp
theorem wpAny_inv (Inv : Array Bool → Act → World → Prop)
    (hstep : ∀ listed a w i, Inv listed a w → i ∈ Region.ready md ops listed → wpOp P ops Q i (fun a' w' => Inv (listed.setIfInBounds i true) a' w') a w)
    (hend : ∀ listed a w, Inv listed a w → Region.ready md ops listed = [] → Q .normal a w) :
    ∀ fuel listed a w, left listed ≤ fuel → Inv listed a w → wpAny P md ops Q fuel listed a w := by
  intro fuel
  induction fuel with
  | zero =>
    intro listed a w hl hI
    have hr : Region.ready md ops listed = [] := by
      rw [List.eq_nil_iff_forall_not_mem]
      intro i hi
      have h1 := (mem_ready.1 hi).1
      rw [left_zero (by omega) i] at h1
      cases h1
    exact ⟨hr, hend _ _ _ hI hr⟩
  | succ fuel ih =>
    intro listed a w hl hI
    refine ⟨hend _ _ _ hI, fun i hi => wpOp_mono (fun a' w' h => ih _ _ _ ?_ h) (hstep _ _ _ i hI hi)⟩
    have := left_set (mem_ready.1 hi).1
    omega
/-- Where operation i leaves its value. -/
def slotOf (ops : Array Oper) (i : Nat) : Option Tmp := (ops[i]?).bind (·.dst)
def val (ops : Array Oper) (a : Act) (i : Nat) : Value := match slotOf ops i with | some d => a.eval (.tmp d) | none => undef
/-- A check by program: who waits waits for an earlier one; every operation has a slot of its own; A names operations that have come up ahead. -/
def factsOk (md : Region.Mode) (ops : Array Oper) (n : Nat) (A : Nat → List Nat) : Bool :=
  (List.range ops.size).all fun i =>
    match ops[i]? with
    | none => false
    | some o =>
      (o.after.all fun e => !Region.binds md e || decide (e.on < i)) &&
      (match o.dst with
        | none => false
        | some d => decide (d < n) && (List.range i).all fun j => slotOf ops j != some d) &&
      (A i).all fun j => o.after.any fun e => Region.binds md e && (e.on == j || (A e.on).contains j)
/-- A frame that differs from base in the region's own slots alone. -/
def Same (ops : Array Oper) (base a : Act) : Prop :=
  a.defers = base.defers ∧ a.tmps.size = base.tmps.size ∧ ∀ k, (∀ i, i < ops.size → slotOf ops i ≠ some k) → a.tmps[k]? = base.tmps[k]?
/-- What an operation's own step must do. -/
def Does (P : Program) (ops : Array Oper) (Q : Exit → Act → World → Prop) (F : Nat → Value → World → Prop) (i : Nat) (a : Act) (w : World) : Prop :=
  wpOp P ops Q i (fun a' w' => ∃ v, a' = a.put (slotOf ops i) v ∧ F i v w' ∧ Below w.heap.size w w') a w
def Inv (ops : Array Oper) (A : Nat → List Nat) (F : Nat → Value → World → Prop) (base : Act) (w0 : World) (listed : Array Bool) (a : Act) (w : World) : Prop :=
  listed.size = ops.size ∧ Same ops base a ∧ Below w0.heap.size w0 w ∧
  ∀ i, listed.getD i false = true → F i (val ops a i) w ∧ ∀ j ∈ A i, listed.getD j false = true
/-- What the check by program says. -/
def Ordered (ops : Array Oper) (n : Nat) (A : Nat → List Nat) : Prop :=
  ∀ i, i < ops.size → ∃ o d, ops[i]? = some o ∧ o.dst = some d ∧ slotOf ops i = some d ∧ d < n ∧ (∀ e ∈ o.after, Region.binds .any e = true → e.on < i) ∧
      (∀ j, j < i → slotOf ops j ≠ some d) ∧ (∀ j ∈ A i, ∃ e ∈ o.after, Region.binds .any e = true ∧ (e.on = j ∨ j ∈ A e.on))
theorem ordered_of {n : Nat} {A : Nat → List Nat} (hok : factsOk .any ops n A = true) : Ordered ops n A := by
  intro i hi
  have h := List.all_eq_true.1 hok i (List.mem_range.2 hi)
  have hoi : ops[i]? = some ops[i] := by simp [hi]
  rw [hoi] at h
  simp only [Bool.and_eq_true] at h
  obtain ⟨⟨h1, h2⟩, h3⟩ := h
  cases hd : ops[i].dst with
  | none => rw [hd] at h2; cases h2
  | some d =>
    rw [hd] at h2
    simp only [Bool.and_eq_true, decide_eq_true_eq] at h2
    refine ⟨_, d, hoi, hd, by simp [slotOf, hoi, hd], h2.1, ?_, ?_, ?_⟩
    · intro e he hb
      have := Array.all_eq_true_iff_forall_mem.1 h1 e he
      simpa [hb] using this
    · intro j hj
      have := List.all_eq_true.1 h2.2 j (List.mem_range.2 hj)
      simpa using this
    · intro j hj
      have := List.all_eq_true.1 h3 j hj
      obtain ⟨k, hk, h⟩ := Array.any_eq_true.1 this
      simp only [Bool.and_eq_true, Bool.or_eq_true, beq_iff_eq, List.contains_iff_mem] at h
      exact ⟨_, Array.getElem_mem hk, h.1, h.2⟩
theorem ordered_apart {n : Nat} {A : Nat → List Nat} (hall : Ordered ops n A) : ∀ i j, i < ops.size → j < ops.size → i ≠ j → slotOf ops i ≠ slotOf ops j := by
  intro i j hi hj hne
  obtain ⟨o, d, _, _, hs, _, _, hb, _⟩ := hall i hi
  obtain ⟨o', d', _, _, hs', _, _, hb', _⟩ := hall j hj
  rw [hs, hs']
  intro h
  rcases Nat.lt_or_gt_of_ne hne with h' | h'
  · exact hb' i h' (by rw [hs, h])
  · exact hb j h' (by rw [hs', h])
theorem inv_step {A : Nat → List Nat} {F : Nat → Value → World → Prop} {base : Act} {w0 : World} (hall : Ordered ops base.tmps.size A)
    (hmono : ∀ i v w w', F i v w → Below w.heap.size w w' → F i v w')
    (hop : ∀ i, i < ops.size → ∀ a w, Same ops base a → Below w0.heap.size w0 w → (∀ j ∈ A i, F j (val ops a j) w) → Does P ops Q F i a w) :
    ∀ listed a w i, Inv ops A F base w0 listed a w → i ∈ Region.ready .any ops listed → wpOp P ops Q i (fun a' w' => Inv ops A F base w0 (listed.setIfInBounds i true) a' w') a w := by
  have hdist := ordered_apart hall
  rintro listed a w i ⟨hsz, hS, hB, hF⟩ hr
  obtain ⟨hun, o', ho', hedges⟩ := mem_ready.1 hr
  have hi : i < ops.size := by
    rcases Nat.lt_or_ge i ops.size with h | h
    · exact h
    · rw [Array.getElem?_eq_none h] at ho'; cases ho'
  obtain ⟨o, d, ho, hd, hs, hdn, _, _, hA⟩ := hall i hi
  have : o' = o := by rw [ho] at ho'; exact (Option.some.inj ho').symm
  subst this
  have hAl : ∀ j ∈ A i, listed.getD j false = true := by
    intro j hj
    obtain ⟨e, he, hb, hor⟩ := hA j hj
    have hl := hedges e he hb
    rcases hor with rfl | h
    · exact hl
    · exact (hF _ hl).2 j h
  refine wpOp_mono ?_ (hop i hi a w hS hB fun j hj => (hF j (hAl j hj)).1)
  rintro a' w' ⟨v, rfl, hFv, hb⟩
  have hput : ∀ k, k ≠ d → (a.put (slotOf ops i) v).tmps[k]? = a.tmps[k]? := by
    intro k hk
    simp [hs, Act.put, Array.getElem?_setIfInBounds_ne (Ne.symm hk)]
  refine ⟨by simp [hsz], ⟨by simp [hs, Act.put]; exact hS.1, by simp [hs, Act.put]; exact hS.2.1, fun k hk => ?_⟩, hB.trans (hb.mono hB.size), fun j hj => ?_⟩
  · rw [hput k (fun h => hk i hi (by rw [hs, h]))]; exact hS.2.2 k hk
  · by_cases hji : j = i
    · subst hji
      have hv : val ops (a.put (slotOf ops j) v) j = v := by
        simp [val, hs, Act.put, Act.eval, Array.getD_eq_getD_getElem?, show d < a.tmps.size by rw [hS.2.1]; exact hdn]
      refine ⟨by rw [hv]; exact hFv, fun k hk => ?_⟩
      have := hAl k hk
      by_cases hkj : j = k
      · subst hkj; simp [Array.getD_eq_getD_getElem?, hsz, hi]
      · simpa [Array.getD_eq_getD_getElem?, Array.getElem?_setIfInBounds_ne hkj] using this
    · have hj' : listed.getD j false = true := by
        simpa [Array.getD_eq_getD_getElem?, Array.getElem?_setIfInBounds_ne (Ne.symm hji)] using hj
      have hjs : j < ops.size := by
        rcases Nat.lt_or_ge j ops.size with h | h
        · exact h
        · simp [Array.getD, hsz, Nat.not_lt.2 h] at hj'
      have hv : val ops (a.put (slotOf ops i) v) j = val ops a j := by
        obtain ⟨_, d', _, _, hs', _⟩ := hall j hjs
        have hne : d' ≠ d := fun h => hdist j i hjs hi hji (by rw [hs', hs, h])
        simp [val, hs', Act.eval, Array.getD_eq_getD_getElem?, hput d' hne]
      refine ⟨by rw [hv]; exact hmono _ _ _ _ (hF j hj').1 hb, fun k hk => ?_⟩
      have := (hF j hj').2 k hk
      by_cases hki : i = k
      · subst hki; simp [Array.getD_eq_getD_getElem?, hsz, hi]
      · simpa [Array.getD_eq_getD_getElem?, Array.getElem?_setIfInBounds_ne hki] using this
theorem inv_start {A : Nat → List Nat} {F : Nat → Value → World → Prop} {base : Act} {w0 w : World} (hB : Below w0.heap.size w0 w) : Inv ops A F base w0 (Array.replicate ops.size false) base w := by
  refine ⟨by simp, ⟨rfl, rfl, fun _ _ => rfl⟩, hB, ?_⟩
  intro i hi
  rcases Nat.lt_or_ge i ops.size with h | h
  · simp [Array.getD, h] at hi
  · simp [Array.getD, Nat.not_lt.2 h] at hi
theorem wpOps_inv {A : Nat → List Nat} {F : Nat → Value → World → Prop} {base : Act} {w0 : World} (hall : Ordered ops base.tmps.size A)
    (hmono : ∀ i v w w', F i v w → Below w.heap.size w w' → F i v w')
    (hop : ∀ i, i < ops.size → ∀ a w, Same ops base a → Below w0.heap.size w0 w → (∀ j ∈ A i, F j (val ops a j) w) → Does P ops Q F i a w)
    (hend : ∀ a w, Same ops base a → Below w0.heap.size w0 w → (∀ i, i < ops.size → F i (val ops a i) w) → Q .normal a w) :
    ∀ n k listed a w, k + n = ops.size → (∀ i, i < k → listed.getD i false = true) → (∀ i, k ≤ i → i < ops.size → listed.getD i true = false) → Inv ops A F base w0 listed a w → wpOps P ops Q (List.range' k n) a w := by
  intro n
  induction n with
  | zero =>
    intro k listed a w hk h1 h2 ⟨hsz, hS, hB, hF⟩
    exact hend a w hS hB fun i hi => (hF i (h1 i (by omega))).1
  | succ n ih =>
    intro k listed a w hk h1 h2 hI
    rw [List.range'_succ, wpOps_cons]
    have hki : k < ops.size := by omega
    obtain ⟨o, d, ho, hd, hs, hdn, hlt, _, _⟩ := hall k hki
    have hr : k ∈ Region.ready .any ops listed := mem_ready.2 ⟨h2 k (Nat.le_refl _) hki, o, ho, fun e he hb => h1 _ (hlt e he hb)⟩
    refine wpOp_mono (fun a' w' h => ih (k + 1) _ a' w' (by omega) ?_ ?_ h) (inv_step hall hmono hop listed a w k hI hr)
    · intro i hi
      by_cases hik : k = i
      · subst hik; simp [Array.getD_eq_getD_getElem?, hI.1, hki]
      · have := h1 i (by omega)
        simpa [Array.getD_eq_getD_getElem?, Array.getElem?_setIfInBounds_ne hik] using this
    · intro i hi his
      have := h2 i (by omega) his
      simpa [Array.getD_eq_getD_getElem?, Array.getElem?_setIfInBounds_ne (show k ≠ i by omega)] using this
/-- A region in the text's order, likewise. -/
theorem facts_plain {A : Nat → List Nat} {F : Nat → Value → World → Prop} {base : Act} {w0 : World} {id : Nat}
    (hok : factsOk .any ops base.tmps.size A = true)
    (hmono : ∀ i v w w', F i v w → Below w.heap.size w w' → F i v w')
    (hop : ∀ i, i < ops.size → ∀ a w, Same ops base a → Below w0.heap.size w0 w → (∀ j ∈ A i, F j (val ops a j) w) → Does P ops Q F i a w)
    (hend : ∀ a w, Same ops base a → Below w0.heap.size w0 w → (∀ i, i < ops.size → F i (val ops a i) w) → Q .normal a w) :
    (Code.region id ops false).wp P Q base w0 := by
  refine wp_region ?_
  rw [List.range_eq_range']
  exact wpOps_inv (ordered_of hok) hmono hop hend _ 0 _ _ _ (by omega) (fun i hi => by omega) (fun i _ hi => by simp [Array.getD, hi]) (inv_start (Below.refl _ w0))
theorem yielded_val {a : Act} {g : Nat} {b : Bool} (h : val ops a g = .bool b) : yielded ops a.tmps g = some b := by
  unfold val slotOf at h
  unfold yielded
  cases hg : (ops[g]?).bind (·.dst) with
  | none => rw [hg] at h; cases h
  | some d =>
    rw [hg] at h
    simp only [Act.eval, Array.getD_eq_getD_getElem?] at h
    cases ht : a.tmps[d]? with
    | none => rw [ht] at h; cases h
    | some v => rw [ht] at h; simp only [Option.getD_some] at h; subst h; simp [ht]
variable {F : Nat → Value → World → Prop}
theorem want_none {o : Oper} {y : Nat → Option Bool} (h : o.guard = none) : Region.wanted o y = true := by simp [Region.wanted, h]
theorem want_val {o : Oper} {a : Act} {g : Nat} {b want : Bool} (h : o.guard = some (g, want)) (hv : val ops a g = .bool b) : Region.wanted o (yielded ops a.tmps) = (b == want) := by
  simp only [Region.wanted, h, yielded_val hv]
  cases b <;> cases want <;> rfl
theorem want_eq {o : Oper} {a : Act} {g : Nat} {b : Bool} (h : o.guard = some (g, b)) (hv : val ops a g = .bool b) : Region.wanted o (yielded ops a.tmps) = true := by
  rw [want_val h hv]; simp
/-- The operation yields a value. -/
theorem does_value {i : Nat} {o : Oper} {a : Act} {w w' : World} {v : Value} (ho : ops[i]? = some o) (hw : Region.wanted o (yielded ops a.tmps) = true)
    (hr : (execOp a.eval o).run P w = .ok (.value v) w') (hF : F i v w') (hb : Below w.heap.size w w') : Does P ops Q F i a w := by
  unfold Does wpOp
  simp only [ho, hw, if_true]
  refine .inl ?_
  unfold Oper.wp
  rw [hr, Oper.upon_value]
  exact ⟨v, by simp [slotOf, ho], hF, hb⟩
/-- The operation calls a function. -/
theorem does_call {i : Nat} {o : Oper} {a : Act} {w : World} {f : FuncId} {args : Array Value} (ho : ops[i]? = some o) (hw : Region.wanted o (yielded ops a.tmps) = true)
    (hr : (execOp a.eval o).run P w = .ok (.enter f args) w) (hc : Calls P f args w fun e w' => ∃ v, e = .returned v ∧ F i v w' ∧ Below w.heap.size w w') : Does P ops Q F i a w := by
  unfold Does wpOp
  simp only [ho, hw, if_true]
  refine .inl ?_
  unfold Oper.wp
  rw [hr, Oper.upon_enter]
  refine hc.mono ?_
  rintro e w' ⟨v, rfl, hF, hb⟩
  exact ⟨v, by simp [slotOf, ho], hF, hb⟩
end
/-- The region of that number. -/
def regionOf (id : Nat) : Code → Option (Array Oper)
  | .region j ops _ => if j = id then some ops else none
  | .seq a b => match regionOf id a with | some x => some x | none => regionOf id b
  | .cond _ a b => match regionOf id a with | some x => some x | none => regionOf id b
  | .block _ b => regionOf id b
  | .loop b => regionOf id b
  | .scope b => regionOf id b
  | .rangeFunc _ _ a b => match regionOf id a with | some x => some x | none => regionOf id b
  | _ => none
def regionAt (f : Func) (id : Nat) : Array Oper := (f.body.bind (regionOf id)).getD #[]
/-- The value is that one. -/
def eqv (x : Value) : Value → World → Prop := fun v _ => v = x
/-- A slice of a block of its own, with those numbers. -/
def laid (zs : List Int) : Value → World → Prop := fun v w => ∃ t, v = .slice (some ⟨t, 0, none⟩) zs.length zs.length ∧ t < w.heap.size ∧ ∀ j, j < zs.length → w.cell? ⟨t, j, none⟩ = some (.int .i64 (zs.getD j 0))
def Stable (p : Value → World → Prop) : Prop := ∀ v w w', p v w → Below w.heap.size w w' → p v w'
theorem eqv_stable (x : Value) : Stable (eqv x) := fun _ _ _ h _ => h
def factsAt (fs : List (Value → World → Prop)) (i : Nat) : Value → World → Prop := fs.getD i (fun _ _ => True)
theorem factsAt_stable {fs : List (Value → World → Prop)} (h : ∀ p ∈ fs, Stable p) (i : Nat) (v : Value) (w w' : World) (hf : factsAt fs i v w) (hb : Below w.heap.size w w') : factsAt fs i v w' := by
  unfold factsAt at *
  rw [List.getD_eq_getElem?_getD] at *
  cases hi : fs[i]? with
  | none => trivial
  | some p => rw [hi] at hf; exact h p (List.mem_of_getElem? hi) v w w' hf hb
theorem val_eq {ops : Array Oper} {j : Nat} {d : Tmp} {c : Act} (hs : slotOf ops j = some d) : val ops c j = c.eval (.tmp d) := by unfold val; rw [hs]
theorem fact_at {ops : Array Oper} {F : Nat → Value → World → Prop} {j : Nat} {d : Tmp} {c : Act} {w : World} {p : Value → World → Prop} (hs : slotOf ops j = some d) (hp : F j = p) (h : F j (val ops c j) w) : p (c.eval (.tmp d)) w := by
  rw [← hp]; rwa [val_eq hs] at h
/-- No operation of the region leaves its value there. -/
def outside (ops : Array Oper) (k : Nat) : Bool := (List.range ops.size).all fun i => slotOf ops i != some k
theorem same_eval {ops : Array Oper} {base c : Act} {k : Tmp} (h : Same ops base c) (hk : outside ops k = true) : c.eval (.tmp k) = base.eval (.tmp k) := by
  have := h.2.2 k (fun i hi => by have := List.all_eq_true.1 hk i (List.mem_range.2 hi); simpa using this)
  simp only [Act.eval, Array.getD_eq_getD_getElem?, this]
/-- A frame, slot by slot: the region's own slots hold whatever they hold. -/
theorem same_lay {ops : Array Oper} {base c : Act} (h : Same ops base c) : c = ⟨((List.range base.tmps.size).map fun k => if outside ops k then base.eval (.tmp k) else c.eval (.tmp k)).toArray, base.defers⟩ := by
  obtain ⟨tm, df⟩ := c
  obtain ⟨h1, h2, h3⟩ := h
  simp only at h1 h2 h3
  subst h1
  congr 1
  apply Array.ext
  · simp [h2]
  · intro i hi1 hi2
    simp only [List.getElem_toArray, List.getElem_map, List.getElem_range]
    split
    · rename_i ho
      have := h3 i (fun j hj => by have := List.all_eq_true.1 ho j (List.mem_range.2 hj); simpa using this)
      have hb : i < base.tmps.size := by omega
      simp only [Act.eval, Array.getD_eq_getD_getElem?, ← this]
      simp [hi1]
    · simp [Act.eval, Array.getD_eq_getD_getElem?, hi1]
theorem below_zero {p : Nat → Prop} : ∀ i, i < 0 → p i := fun _ h => absurd h (Nat.not_lt_zero _)
theorem below_succ {p : Nat → Prop} {n : Nat} (h : ∀ i, i < n → p i) (hn : p n) : ∀ i, i < n + 1 → p i := fun i hi => by
  rcases Nat.lt_or_eq_of_le (Nat.le_of_lt_succ hi) with h' | rfl
  · exact h i h'
  · exact hn
def puts (c : Act) (l : List Tmp) (b : Act) : Act := l.foldl (fun b d => b.put (some d) (c.eval (.tmp d))) b
theorem puts_defers (c : Act) : ∀ (l : List Tmp) (b : Act), (puts c l b).defers = b.defers
  | [], _ => rfl
  | d :: l, b => puts_defers c l (b.put (some d) (c.eval (.tmp d)))
theorem puts_size (c : Act) : ∀ (l : List Tmp) (b : Act), (puts c l b).tmps.size = b.tmps.size
  | [], _ => rfl
  | d :: l, b => (puts_size c l (b.put (some d) (c.eval (.tmp d)))).trans (by simp [Act.put])
theorem putsF_at (c : Act) (k : Tmp) : ∀ (l : List Tmp) (b : Act), k < b.tmps.size → (puts c l b).tmps[k]? = if k ∈ l then some (c.eval (.tmp k)) else b.tmps[k]?
  | [], b, _ => by simp [puts]
  | d :: l, b, h => by
    have := putsF_at c k l (b.put (some d) (c.eval (.tmp d))) (by simpa [Act.put] using h)
    show (puts c l (b.put (some d) (c.eval (.tmp d)))).tmps[k]? = _
    rw [this]
    by_cases hk : k ∈ l
    · simp [hk]
    · by_cases hd : k = d
      · subst hd; simp [hk, Act.put, h]
      · simp [hk, hd, Act.put, Array.getElem?_setIfInBounds_ne (Ne.symm hd)]
/-- A frame behind a region: the region's own slots hold whatever they hold. -/
theorem same_puts {ops : Array Oper} {base c : Act} (l : List Tmp) (h : Same ops base c) (hl : ((List.range base.tmps.size).all fun k => outside ops k || l.contains k) = true) : c = puts c l base := by
  obtain ⟨tm, df⟩ := c
  obtain ⟨h1, h2, h3⟩ := h
  have e1 := puts_defers ⟨tm, df⟩ l base
  have e2 := puts_size ⟨tm, df⟩ l base
  have e3 := putsF_at ⟨tm, df⟩
  generalize hr : puts ⟨tm, df⟩ l base = r at *
  obtain ⟨tm', df'⟩ := r
  simp only at h1 h2 h3 e1 e2
  have : tm = tm' := by
    apply Array.ext'
    apply List.ext_getElem?
    intro k
    rw [Array.getElem?_toList, Array.getElem?_toList]
    by_cases hk : k < base.tmps.size
    · have ek := e3 k l base hk
      rw [hr] at ek
      simp only at ek
      rw [ek]
      have hm := List.all_eq_true.1 hl k (List.mem_range.2 hk)
      by_cases hkl : k ∈ l
      · rw [if_pos hkl]; simp [Act.eval, Array.getD_eq_getD_getElem?, show k < tm.size by omega]
      · rw [if_neg hkl]
        have ho : outside ops k = true := by simpa [hkl] using hm
        exact h3 k (fun j hj => by have := List.all_eq_true.1 ho j (List.mem_range.2 hj); simpa using this)
    · rw [Array.getElem?_eq_none (by omega), Array.getElem?_eq_none (by omega)]
  rw [this, h1, e1]
end Go.Proofs.YthfilnflgahcjaaGreatDoor
