/- Counts gathered one behind the other; the labels of a node; what begins and ends where. -/
import Derived.Test.YthfilnflgahcjaaGreatDoorSends
import Derived.Test.YthfilnflgahcjaaGreatDoorJoin9
namespace Go.Proofs.YthfilnflgahcjaaGreatDoor
open Go.RowKit Go.Shelf Go.Maps
set_option linter.unusedVariables false
set_option linter.unusedSimpArgs false
set_option linter.unusedSectionVars false
section
variable {α : Type} [DecidableEq α]
/-- Counts gathered, one behind the other. -/
def gather (l : List (α × Int)) : List (α × Int) := l.foldl (fun cs p => bump p.1 p.2 cs) []
theorem gather_snoc (l : List (α × Int)) (p : α × Int) : gather (l ++ [p]) = bump p.1 p.2 (gather l) := by simp [gather]
theorem gather_nodup (l : List (α × Int)) : ((gather l).map Prod.fst).Nodup := by
  unfold gather
  suffices h : ∀ (l : List (α × Int)) (cs : List (α × Int)), (cs.map Prod.fst).Nodup → ((l.foldl (fun cs p => bump p.1 p.2 cs) cs).map Prod.fst).Nodup from h l [] List.nodup_nil
  intro l
  induction l with
  | nil => intro cs h; exact h
  | cons t r ih => intro cs h; exact ih _ (bump_nodup _ _ _ h)
theorem gather_keys (l : List (α × Int)) (x : α) : x ∈ (gather l).map Prod.fst ↔ x ∈ l.map Prod.fst := by
  unfold gather
  suffices h : ∀ (l : List (α × Int)) (cs : List (α × Int)), x ∈ (l.foldl (fun cs p => bump p.1 p.2 cs) cs).map Prod.fst ↔ x ∈ cs.map Prod.fst ∨ x ∈ l.map Prod.fst by
    have := h l []
    simpa using this
  intro l
  induction l with
  | nil => intro cs; simp
  | cons t r ih =>
    intro cs
    rw [List.foldl_cons, ih, bump_keys, List.map_cons, List.mem_cons]
    constructor
    · rintro ((h | h) | h)
      · exact .inr (.inl h)
      · exact .inl h
      · exact .inr (.inr h)
    · rintro (h | h | h)
      · exact .inl (.inr h)
      · exact .inl (.inl h)
      · exact .inr h
/-- What comes to one key. -/
def sumAt (x : α) : List (α × Int) → Int
  | [] => 0
  | p :: r => (if p.1 = x then p.2 else 0) + sumAt x r
theorem gather_count (l : List (α × Int)) (x : α) : countOf x (gather l) = sumAt x l := by
  unfold gather
  suffices h : ∀ (l : List (α × Int)) (cs : List (α × Int)), countOf x (l.foldl (fun cs p => bump p.1 p.2 cs) cs) = countOf x cs + sumAt x l by
    have := h l []
    simpa [countOf] using this
  intro l
  induction l with
  | nil => intro cs; simp [sumAt]
  | cons t r ih =>
    intro cs
    rw [List.foldl_cons, ih, count_bump, sumAt]
    by_cases h : x = t.1
    · rw [if_pos h, if_pos h.symm]; omega
    · rw [if_neg h, if_neg (Ne.symm h)]; omega
theorem sumAt_perm {l l' : List (α × Int)} (h : l.Perm l') (x : α) : sumAt x l = sumAt x l' := by
  induction h with
  | nil => rfl
  | cons p _ ih => simp only [sumAt, ih]
  | swap p q t => simp only [sumAt]; omega
  | trans _ _ h1 h2 => exact h1.trans h2
theorem sumAt_le {x : α} {c : Int} (hc : 0 ≤ c) : ∀ {l : List (α × Int)}, (∀ p ∈ l, 0 ≤ p.2 ∧ p.2 ≤ c) → 0 ≤ sumAt x l ∧ sumAt x l ≤ c * l.length
  | [], _ => by simp [sumAt]
  | p :: r, h => by
    have h1 := h p List.mem_cons_self
    have h2 := sumAt_le (x := x) hc (l := r) fun q hq => h q (List.mem_cons_of_mem _ hq)
    simp only [sumAt, List.length_cons, Int.natCast_add, Int.natCast_one, Int.mul_add, Int.mul_one]
    split <;> omega
theorem mem_count {x : α} {n : Int} : ∀ {cs : List (α × Int)}, (cs.map Prod.fst).Nodup → ((x, n) ∈ cs ↔ x ∈ cs.map Prod.fst ∧ countOf x cs = n)
  | [], _ => by simp
  | (a, m) :: r, h => by
    simp only [List.map_cons, List.nodup_cons] at h
    have ih := mem_count (x := x) (n := n) h.2
    rw [List.mem_cons, ih, List.map_cons, List.mem_cons, countOf]
    by_cases e : a = x
    · subst e
      rw [if_pos rfl]
      constructor
      · rintro (h1 | h1)
        · exact ⟨.inl rfl, (Prod.mk.inj h1).2.symm⟩
        · exact absurd h1.1 h.1
      · rintro ⟨_, h1⟩
        exact .inl (by rw [h1])
    · rw [if_neg e]
      constructor
      · rintro (h1 | h1)
        · exact absurd (Prod.mk.inj h1).1.symm e
        · exact ⟨.inr h1.1, h1.2⟩
      · rintro ⟨h1 | h1, h2⟩
        · exact absurd h1.symm e
        · exact .inr ⟨h1, h2⟩
theorem nodup_of_fst {l : List (α × Int)} (h : (l.map Prod.fst).Nodup) : l.Nodup := by
  rw [List.nodup_iff_pairwise_ne] at *
  exact (List.pairwise_map.1 h).imp fun h e => h (by rw [e])
theorem same_counts {cs ds : List (α × Int)} (h1 : (cs.map Prod.fst).Nodup) (h2 : (ds.map Prod.fst).Nodup) (hk : ∀ x, x ∈ cs.map Prod.fst ↔ x ∈ ds.map Prod.fst) (hn : ∀ x, countOf x cs = countOf x ds) : cs.Perm ds :=
  (List.perm_ext_iff_of_nodup (nodup_of_fst h1) (nodup_of_fst h2)).2 fun ⟨x, n⟩ => by rw [mem_count h1, mem_count h2, hk, hn]
theorem gather_perm {l l' : List (α × Int)} (h : l.Perm l') : (gather l).Perm (gather l') :=
  same_counts (gather_nodup _) (gather_nodup _) (fun x => by rw [gather_keys, gather_keys]; exact (h.map _).mem_iff) fun x => by rw [gather_count, gather_count, sumAt_perm h]
theorem bump_len (k : α) (d : Int) : ∀ (cs : List (α × Int)), (bump k d cs).length ≤ cs.length + 1
  | [] => by simp [bump]
  | (a, n) :: r => by
    rw [bump]
    split
    · simp
    · have := bump_len k d r
      simp; omega
theorem gather_len (l : List (α × Int)) : (gather l).length ≤ l.length := by
  unfold gather
  suffices h : ∀ (l : List (α × Int)) (cs : List (α × Int)), (l.foldl (fun cs p => bump p.1 p.2 cs) cs).length ≤ cs.length + l.length by
    have := h l []
    simpa using this
  intro l
  induction l with
  | nil => intro cs; simp
  | cons t r ih =>
    intro cs
    have := ih (bump t.1 t.2 cs)
    have := bump_len t.1 t.2 cs
    simp only [List.foldl_cons, List.length_cons]; omega
theorem cnt_len (l : List α) : (cnt l).length ≤ l.length := by
  unfold cnt
  suffices h : ∀ (l : List α) (cs : List (α × Int)), (l.foldl (fun cs p => bump p 1 cs) cs).length ≤ cs.length + l.length by
    have := h l []
    simpa using this
  intro l
  induction l with
  | nil => intro cs; simp
  | cons t r ih =>
    intro cs
    have := ih (bump t 1 cs)
    have := bump_len t 1 cs
    simp only [List.foldl_cons, List.length_cons]; omega
theorem cnt_keys (l : List α) (x : α) : x ∈ (cnt l).map Prod.fst ↔ x ∈ l := by
  unfold cnt
  suffices h : ∀ (l : List α) (cs : List (α × Int)), x ∈ (l.foldl (fun cs p => bump p 1 cs) cs).map Prod.fst ↔ x ∈ cs.map Prod.fst ∨ x ∈ l by
    have := h l []
    simpa using this
  intro l
  induction l with
  | nil => intro cs; simp
  | cons t r ih =>
    intro cs
    rw [List.foldl_cons, ih, bump_keys, List.mem_cons]
    constructor
    · rintro ((h | h) | h)
      · exact .inr (.inl h)
      · exact .inl h
      · exact .inr (.inr h)
    · rintro (h | h | h)
      · exact .inl (.inr h)
      · exact .inl (.inl h)
      · exact .inr h
theorem cnt_vals (l : List α) : ∀ p ∈ cnt l, 0 ≤ p.2 ∧ p.2 ≤ l.length := fun ⟨x, n⟩ hp => by
  have := ((mem_count (cnt_nodup l)).1 hp).2
  have h2 := cnt_count l x
  rw [this] at h2
  exact h2
end
/-- The labels of the node of a number. -/
def labsAt : List NodeP → Int → List ByteArray
  | [], _ => []
  | n :: r, i => if n.id = i then n.labels else labsAt r i
def outOf (ns : List NodeP) (p : JointR × Int) : List (EndR × Int) := (labsAt ns p.1.1).map fun l => ((p.1.2.1, l, p.1.2.2, 0), p.2)
def endsOf (ns : List NodeP) (js : List (JointR × Int)) : List (EndR × Int) := js.flatMap (outOf ns)
theorem endsOf_snoc (ns : List NodeP) (js : List (JointR × Int)) (p : JointR × Int) : endsOf ns (js ++ [p]) = endsOf ns js ++ outOf ns p := by simp [endsOf]
theorem endsOf_perm (ns : List NodeP) {js js' : List (JointR × Int)} (h : js.Perm js') : (endsOf ns js).Perm (endsOf ns js') := h.flatMap_right _
theorem endsOf_len (ns : List NodeP) (K : Nat) (hK : ∀ i, (labsAt ns i).length ≤ K) : ∀ (js : List (JointR × Int)), (endsOf ns js).length ≤ js.length * K
  | [] => by simp [endsOf]
  | p :: r => by
    have h1 := endsOf_len ns K hK r
    have h2 := hK p.1.1
    have e : endsOf ns (p :: r) = outOf ns p ++ endsOf ns r := by simp [endsOf]
    rw [e, List.length_append, outOf, List.length_map, List.length_cons, Nat.succ_mul]; omega
theorem labsAt_le {ns : List NodeP} {K : Nat} (h : ∀ n ∈ ns, n.labels.length ≤ K) : ∀ (i : Int), (labsAt ns i).length ≤ K := by
  intro i
  induction ns with
  | nil => simp [labsAt]
  | cons n r ih =>
    rw [labsAt]
    split
    · exact h n List.mem_cons_self
    · exact ih fun m hm => h m (List.mem_cons_of_mem _ hm)
theorem labsAt_hit : ∀ {ns : List NodeP} {j : Nat} {x : NodeP}, (ns.map NodeP.id).Nodup → ns[j]? = some x → labsAt ns x.id = x.labels
  | [], j, x, _, h => by simp at h
  | n :: r, 0, x, _, h => by
    simp only [List.getElem?_cons_zero, Option.some.injEq] at h
    rw [labsAt, if_pos (by rw [h]), h]
  | n :: r, j + 1, x, hd, h => by
    simp only [List.map_cons, List.nodup_cons] at hd
    simp only [List.getElem?_cons_succ] at h
    have hm : x.id ∈ r.map NodeP.id := List.mem_map_of_mem (List.mem_of_getElem? h)
    have hne : ¬ n.id = x.id := fun e => hd.1 (by rw [e]; exact hm)
    rw [labsAt, if_neg hne, labsAt_hit hd.2 h]
theorem labsAt_miss : ∀ {ns : List NodeP} {i : Int}, (∀ n ∈ ns, n.id ≠ i) → labsAt ns i = []
  | [], i, _ => rfl
  | n :: r, i, h => by rw [labsAt, if_neg (h n List.mem_cons_self), labsAt_miss fun m hm => h m (List.mem_cons_of_mem _ hm)]
theorem labsAt_mem {ns : List NodeP} {i : Int} {l : ByteArray} (h : l ∈ labsAt ns i) : ∃ n ∈ ns, n.id = i ∧ l ∈ n.labels := by
  induction ns with
  | nil => simp [labsAt] at h
  | cons n r ih =>
    rw [labsAt] at h
    split at h
    · exact ⟨n, List.mem_cons_self, ‹_›, h⟩
    · obtain ⟨m, h1, h2⟩ := ih h
      exact ⟨m, List.mem_cons_of_mem _ h1, h2⟩
theorem zero43 (w : World) : (zeroValue 43).run Tryz.prog w = .ok (.slice none 0 0) w := by kernel_rfl
/-- What is looked up of a node's labels. -/
theorem labm_look {B : Nat} {w0 W : World} {b : Nat} {ns : List NodeP} (h : LabM B w0 W b ns) (hd : (ns.map NodeP.id).Nodup) (i : Int) (hi : W64 i) :
    ∃ la lc, (∀ W' : World, W'.heap[b]? = W.heap[b]? → (Instr.lookup 184 (.map (some b)) (.int .i64 i) false).run Tryz.prog W' = .ok (.slice la (labsAt ns i).length lc) W') ∧ (labsAt ns i).length ≤ lc ∧ lc ≤ 9223372036854775807 ∧ KeysLie B w0 la (labsAt ns i) := by
  obtain ⟨es, h1, h2, h3⟩ := h
  by_cases hin : ∃ n ∈ ns, n.id = i
  · obtain ⟨n, hn, rfl⟩ := hin
    obtain ⟨j, hj⟩ := List.getElem?_of_mem hn
    obtain ⟨la, lc, q1, q2, q3, q4⟩ := h3 j n hj
    rw [labsAt_hit hd hj]
    refine ⟨la, lc, fun W' hW => (mi_hit (z := .slice none 0 0) map184 (h1.block hW) n.id _ hi (List.mem_of_getElem? q1) fun p hp e => ?_).2, q2, q3, q4⟩
    obtain ⟨k, hk⟩ := List.getElem?_of_mem hp
    have a1 : (es.map Prod.fst)[k]? = some n.id := by rw [List.getElem?_map, hk]; simp [e]
    have a2 : (es.map Prod.fst)[j]? = some n.id := by rw [List.getElem?_map, q1]; rfl
    have hkj : k = j := (List.getElem?_inj (by simpa using (List.getElem?_eq_some_iff.1 hk).1) (by rw [h2]; exact hd)).1 (a1.trans a2.symm)
    subst hkj
    rw [hk] at q1
    rw [Option.some.inj q1]
  · have hno : ∀ n ∈ ns, n.id ≠ i := fun n hn e => hin ⟨n, hn, e⟩
    rw [labsAt_miss hno]
    refine ⟨none, 0, fun W' hW => (mi_miss (z := .slice none 0 0) map184 zero43 (h1.block hW) i hi fun p hp e => ?_).2, Nat.le_refl _, by omega, .inl rfl⟩
    have : p.1 ∈ ns.map NodeP.id := by rw [← h2]; exact List.mem_map_of_mem hp
    obtain ⟨n, hn, e2⟩ := List.mem_map.1 this
    exact hno n hn (e2.trans e)
end Go.Proofs.YthfilnflgahcjaaGreatDoor
