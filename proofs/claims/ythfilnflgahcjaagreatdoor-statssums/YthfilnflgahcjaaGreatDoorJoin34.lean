/- What StatsSums asks of counts: pure. Texts that rise are apart. -/
import Derived.Test.YthfilnflgahcjaaGreatDoorJoin33
import Derived.Test.YthfilnflgahcjaaGreatDoorJoin8
import Derived.Test.YthfilnflgahcjaaGreatDoorJoin6
import Derived.Test.YthfilnflgahcjaaGreatDoorJoin7
namespace Go.Proofs.YthfilnflgahcjaaGreatDoor
open Go.RowKit Go.Shelf
set_option linter.unusedVariables false
set_option linter.unusedSimpArgs false
/-- Sums over lists. -/
def isum {α : Type} (f : α → Int) : List α → Int
  | [] => 0
  | x :: r => f x + isum f r
theorem isum_app {α : Type} (f : α → Int) : ∀ (a b : List α), isum f (a ++ b) = isum f a + isum f b
  | [], b => by simp [isum]
  | x :: r, b => by simp only [List.cons_append, isum, isum_app f r b]; omega
theorem isum_map {α β : Type} (f : β → Int) (g : α → β) : ∀ (l : List α), isum f (l.map g) = isum (fun x => f (g x)) l
  | [] => rfl
  | x :: r => by simp only [List.map_cons, isum, isum_map f g r]
theorem isum_flat {α β : Type} (f : β → Int) (g : α → List β) : ∀ (l : List α), isum f (l.flatMap g) = isum (fun x => isum f (g x)) l
  | [] => rfl
  | x :: r => by simp only [List.flatMap_cons, isum, isum_app, isum_flat f g r]
theorem isum_congr {α : Type} {f g : α → Int} : ∀ {l : List α}, (∀ x ∈ l, f x = g x) → isum f l = isum g l
  | [], _ => rfl
  | x :: r, h => by
    simp only [isum]
    rw [h x List.mem_cons_self, isum_congr fun y hy => h y (List.mem_cons_of_mem _ hy)]
theorem isum_le {α : Type} {f g : α → Int} : ∀ {l : List α}, (∀ x ∈ l, f x ≤ g x) → isum f l ≤ isum g l
  | [], _ => Int.le_refl _
  | x :: r, h => by
    have h1 := h x List.mem_cons_self
    have h2 := isum_le fun y hy => h y (List.mem_cons_of_mem _ hy)
    simp only [isum]; omega
theorem isum_zero {α : Type} : ∀ (l : List α), isum (fun _ => 0) l = 0
  | [] => rfl
  | x :: r => by simp only [isum, isum_zero r]; rfl
theorem isum_nonneg {α : Type} {f : α → Int} {l : List α} (h : ∀ x ∈ l, 0 ≤ f x) : 0 ≤ isum f l := by
  have := isum_le (f := fun _ => 0) (g := f) (l := l) h
  rw [isum_zero] at this; exact this
theorem isum_const {α : Type} (c : Int) : ∀ (l : List α), isum (fun _ => c) l = c * l.length
  | [] => by simp [isum]
  | x :: r => by
    simp only [isum, isum_const c r, List.length_cons, Int.natCast_add, Int.mul_add]
    omega
theorem isum_bound {α : Type} {f : α → Int} {c : Int} {l : List α} (h : ∀ x ∈ l, f x ≤ c) : isum f l ≤ c * l.length := by
  have := isum_le (f := f) (g := fun _ => c) (l := l) h
  rw [isum_const] at this; exact this
theorem isum_perm {α : Type} {f : α → Int} {l l' : List α} (h : l.Perm l') : isum f l = isum f l' := by
  induction h with
  | nil => rfl
  | cons p _ ih => simp only [isum, ih]
  | swap p q t => simp only [isum]; omega
  | trans _ _ a b => exact a.trans b
theorem isum_mem {α : Type} {f : α → Int} : ∀ {l : List α}, (∀ x ∈ l, 0 ≤ f x) → ∀ x ∈ l, f x ≤ isum f l
  | y :: r, h, x, hx => by
    have h0 := h y List.mem_cons_self
    have h2 := isum_nonneg fun z hz => h z (List.mem_cons_of_mem _ hz)
    simp only [isum]
    rcases List.mem_cons.1 hx with rfl | hx
    · omega
    · have := isum_mem (fun z hz => h z (List.mem_cons_of_mem _ hz)) x hx
      omega
theorem isum_take {α : Type} {f : α → Int} {l : List α} {j : Nat} {x : α} (h : l[j]? = some x) : isum f (l.take (j + 1)) = isum f (l.take j) + f x := by
  rw [List.take_add_one, h, isum_app]
  simp [isum]
theorem isum_take_le {α : Type} {f : α → Int} {l : List α} (j : Nat) (h : ∀ x ∈ l, 0 ≤ f x) : 0 ≤ isum f (l.take j) ∧ isum f (l.take j) ≤ isum f l := by
  have h1 := isum_nonneg (f := f) (l := l.take j) fun x hx => h x (List.mem_of_mem_take hx)
  have h2 := isum_nonneg (f := f) (l := l.drop j) fun x hx => h x (List.mem_of_mem_drop hx)
  have h3 := isum_app f (l.take j) (l.drop j)
  rw [List.take_append_drop] at h3
  omega
/-- At most one. -/
theorem isum_one {α β : Type} [DecidableEq β] (g : α → β) (y : β) : ∀ {l : List α}, (l.map g).Nodup → (y ∉ l.map g → isum (fun x => if g x = y then 1 else 0) l = 0) ∧ (y ∈ l.map g → isum (fun x => if g x = y then 1 else 0) l = 1) ∧ isum (fun x => if g x = y then 1 else 0) l ≤ 1
  | [], _ => by simp [isum]
  | x :: r, h => by
    simp only [List.map_cons, List.nodup_cons] at h
    simp only [isum, List.map_cons, List.mem_cons]
    obtain ⟨h1, h2, h3⟩ := isum_one g y h.2
    by_cases e : g x = y
    · have hn : y ∉ r.map g := e ▸ h.1
      rw [if_pos e, h1 hn]
      exact ⟨fun h => absurd (.inl e.symm) h, fun _ => rfl, by omega⟩
    · rw [if_neg e, Int.zero_add]
      refine ⟨fun h => h1 fun m => h (.inr m), fun h => h2 ?_, h3⟩
      rcases h with h | h
      · exact absurd h.symm e
      · exact h
section
variable {α : Type} [DecidableEq α]
theorem bump_isum (f : α → Int) (k : α) (d : Int) : ∀ (cs : List (α × Int)), isum (fun p => p.2 * f p.1) (bump k d cs) = isum (fun p => p.2 * f p.1) cs + d * f k
  | [] => by simp [bump, isum]
  | (a, n) :: r => by
    rw [bump]
    split
    · rename_i e
      subst e
      simp only [isum, Int.add_mul]; omega
    · simp only [isum, bump_isum f k d r]; omega
theorem gather_isum (f : α → Int) (l : List (α × Int)) : isum (fun p => p.2 * f p.1) (gather l) = isum (fun p => p.2 * f p.1) l := by
  unfold gather
  suffices h : ∀ (l cs : List (α × Int)), isum (fun p => p.2 * f p.1) (l.foldl (fun cs p => bump p.1 p.2 cs) cs) = isum (fun p => p.2 * f p.1) cs + isum (fun p => p.2 * f p.1) l by
    have := h l []
    simpa [isum] using this
  intro l
  induction l with
  | nil => intro cs; simp [isum]
  | cons x r ih =>
    intro cs
    rw [List.foldl_cons, ih, bump_isum]
    simp only [isum]; omega
theorem cnt_isum (f : α → Int) (ts : List α) : isum (fun p => p.2 * f p.1) (cnt ts) = isum f ts := by
  unfold cnt
  suffices h : ∀ (ts : List α) (cs : List (α × Int)), isum (fun p => p.2 * f p.1) (ts.foldl (fun cs t => bump t 1 cs) cs) = isum (fun p => p.2 * f p.1) cs + isum f ts by
    have := h ts []
    simpa [isum] using this
  intro l
  induction l with
  | nil => intro cs; simp [isum]
  | cons x r ih =>
    intro cs
    rw [List.foldl_cons, ih, bump_isum]
    simp only [isum]; omega
theorem sumAt_isum (x : α) : ∀ (l : List (α × Int)), sumAt x l = isum (fun p => p.2 * (if p.1 = x then 1 else 0)) l
  | [] => rfl
  | p :: r => by
    simp only [sumAt, isum, sumAt_isum x r]
    split <;> simp
end
/-- The rows behind the kernels of the counts. -/
theorem isum_pos {α : Type} {f : α → Int} {l : List α} (h : ∀ x ∈ l, 0 ≤ f x) {x : α} (hx : x ∈ l) (h1 : 1 ≤ f x) : 1 ≤ isum f l := by
  have := isum_mem h x hx
  omega
section
variable {α : Type} [DecidableEq α]
theorem bump_pos {k : α} {d : Int} (hd : 1 ≤ d) : ∀ {cs : List (α × Int)}, (∀ p ∈ cs, 1 ≤ p.2) → ∀ p ∈ bump k d cs, 1 ≤ p.2
  | [], _, p, hp => by
    simp only [bump, List.mem_singleton] at hp
    subst hp; exact hd
  | (a, n) :: r, h, p, hp => by
    have h0 := h (a, n) List.mem_cons_self
    rw [bump] at hp
    split at hp
    · rcases List.mem_cons.1 hp with rfl | hp
      · simp only at h0 ⊢; omega
      · exact h p (List.mem_cons_of_mem _ hp)
    · rcases List.mem_cons.1 hp with rfl | hp
      · exact h0
      · exact bump_pos hd (fun q hq => h q (List.mem_cons_of_mem _ hq)) p hp
theorem gather_pos {l : List (α × Int)} (h : ∀ p ∈ l, 1 ≤ p.2) : ∀ p ∈ gather l, 1 ≤ p.2 := by
  unfold gather
  suffices g : ∀ (l cs : List (α × Int)), (∀ p ∈ l, 1 ≤ p.2) → (∀ p ∈ cs, 1 ≤ p.2) → ∀ p ∈ l.foldl (fun cs p => bump p.1 p.2 cs) cs, 1 ≤ p.2 from g l [] h (by simp)
  intro l
  induction l with
  | nil => intro cs _ hc; exact hc
  | cons x r ih => intro cs hl hc; exact ih _ (fun p hp => hl p (List.mem_cons_of_mem _ hp)) (bump_pos (hl x List.mem_cons_self) hc)
theorem cnt_pos (ts : List α) : ∀ p ∈ cnt ts, 1 ≤ p.2 := by
  unfold cnt
  suffices g : ∀ (l : List α) (cs : List (α × Int)), (∀ p ∈ cs, 1 ≤ p.2) → ∀ p ∈ l.foldl (fun cs t => bump t 1 cs) cs, 1 ≤ p.2 from g ts [] (by simp)
  intro l
  induction l with
  | nil => intro cs hc; exact hc
  | cons x r ih => intro cs hc; exact ih _ (bump_pos (by omega) hc)
end
theorem cut_id {n : Int} (h : 0 ≤ n) (h2 : n ≤ 4611686018427387904) : cutI n = n := by
  unfold cutI
  split
  · omega
  · split <;> omega
theorem gofirst_hit1 {R K : Type} [DecidableEq K] {key : R → K} : ∀ {rows : List R}, (rows.map key).Nodup → ∀ r ∈ rows, goFirst key rows [key r] = ([r], [])
  | x :: rs, h, r, hr => by
    simp only [List.map_cons, List.nodup_cons] at h
    rw [goFirst, if_neg (by simp)]
    rcases List.mem_cons.1 hr with rfl | hr
    · rw [if_pos (by simp)]
      have e : delS (key r) [key r] = [] := by simp [delS]
      rw [e, goFirst_none]
    · have hne : key x ≠ key r := fun e => h.1 (e ▸ List.mem_map_of_mem hr)
      rw [if_neg (by simpa using hne)]
      exact gofirst_hit1 h.2 r hr
theorem firsts_hit {R K : Type} [DecidableEq K] {key : R → K} {zero : R} {rows : List R} (h : (rows.map key).Nodup) {r : R} (hr : r ∈ rows) : firstsL key zero rows [key r] = [r] := by
  unfold firstsL
  have e : [key r].foldl putS [] = [key r] := by simp [putS]
  rw [e, gofirst_hit1 h r hr]
  rfl
theorem firsts_hit2 {R K : Type} [DecidableEq K] {key : R → K} {zero : R} {rows : List R} (h : (rows.map key).Nodup) {r : R} (hr : r ∈ rows) : firstsL key zero rows [key r, key r] = [r] := by
  unfold firstsL
  have e : [key r, key r].foldl putS [] = [key r] := by simp [putS]
  rw [e, gofirst_hit1 h r hr]
  rfl
theorem plus_own {n : Int} (h : 0 ≤ n) (h2 : n ≤ 4611686018427387904) : plusI [n] = n := by
  unfold plusI
  rw [plusF, plusF, cut_id h h2]
  split <;> omega
theorem share_pos {a b : Int} (h : 1 ≤ a) (h2 : a ≤ 4611686018427387904) : 1 ≤ shareI a b := by
  unfold shareI
  rw [cut_id (by omega) h2]
  have e : ∀ m : Int, 1 ≤ m → 1 ≤ (a + (m - 1)) / m := fun m hm => by
    rw [Int.le_ediv_iff_mul_le (by omega)]; omega
  split
  · exact e 1 (by omega)
  · exact e _ (by omega)
/-- How often a text is in a row. -/
def oftenI (t : ByteArray) (ts : List ByteArray) : Int := isum (fun x => if x = t then 1 else 0) ts
theorem ind_nn {p : Prop} [Decidable p] : (0 : Int) ≤ (if p then 1 else 0) := by split <;> omega
theorem ind_le {p : Prop} [Decidable p] : (if p then 1 else 0) ≤ (1 : Int) := by split <;> omega
theorem tally_val {ts : List ByteArray} {p : (ByteArray × Int) × Int} (hp : p ∈ tally ts) : p.2 = oftenI p.1.1 ts := by
  have h0 := (tally_zero hp).1
  have h1 := ((mem_count (tally_nodup ts)).1 (show (p.1, p.2) ∈ tally ts from hp)).2
  rw [← h1, tally_eq, gather_count, sumAt_isum, isum_map]
  unfold oftenI
  refine isum_congr fun t _ => ?_
  obtain ⟨⟨a, b⟩, n⟩ := p
  simp only at h0
  subst h0
  simp only [Prod.mk.injEq, and_true, Int.one_mul]
theorem tally_pos {ts : List ByteArray} {p : (ByteArray × Int) × Int} (hp : p ∈ tally ts) : 1 ≤ p.2 := by
  rw [tally_eq] at hp
  refine gather_pos ?_ p hp
  intro q hq
  obtain ⟨t, _, rfl⟩ := List.mem_map.1 hq
  simp
theorem tally_all (ts : List ByteArray) : isum (fun p => p.2) (tally ts) = ts.length := by
  have h := gather_isum (fun _ => 1) (ts.map fun t => ((t, (0 : Int)), (1 : Int)))
  simp only [Int.mul_one] at h
  rw [tally_eq, h, isum_map, isum_const]
  simp
theorem tally_row {ts : List ByteArray} {t : ByteArray} (h : t ∈ ts) : ((t, 0), oftenI t ts) ∈ tally ts := by
  have hk : (t, (0 : Int)) ∈ (tally ts).map Prod.fst := by
    rw [tally_eq, gather_keys, List.map_map]
    exact List.mem_map.2 ⟨t, h, rfl⟩
  obtain ⟨p, hp, e⟩ := List.mem_map.1 hk
  have := tally_val hp
  obtain ⟨⟨a, b⟩, n⟩ := p
  simp only [Prod.mk.injEq] at e this
  obtain ⟨rfl, rfl⟩ := e
  rw [← this]; exact hp
/-- Rows of texts and numbers that stand for a tally, in order. -/
structure RowsOf (xs : List (ByteArray × Int)) (ts : List ByteArray) : Prop where
  all : isum (fun x => x.2) xs = ts.length
  val : ∀ x ∈ xs, x.2 = oftenI x.1 ts ∧ 1 ≤ x.2 ∧ x.1 ∈ ts
  hit : ∀ t ∈ ts, (t, oftenI t ts) ∈ xs
  nd : (xs.map Prod.fst).Nodup
  up : xs.Pairwise fun a b => cmpB a.1 b.1 < 0
theorem rows_of {xs : List (ByteArray × Int)} {ts : List ByteArray} (h1 : xs.Perm ((tally ts).map (fun p : (ByteArray × Int) × Int => (p.1.1, p.2)))) (h2 : xs.Pairwise (fun a b => ¬ cfL b a < 0)) (hc : ∀ a b, cmpB b a = - cmpB a b) : RowsOf xs ts := by
  have nd : (xs.map Prod.fst).Nodup := by
    rw [(h1.map Prod.fst).nodup_iff, List.map_map]
    have h3 := tally_nodup ts
    have e : (tally ts).map (Prod.fst ∘ fun p : (ByteArray × Int) × Int => (p.1.1, p.2)) = ((tally ts).map Prod.fst).map Prod.fst := by
      rw [List.map_map]; rfl
    rw [e]
    refine List.pairwise_map.2 (List.Pairwise.imp_of_mem ?_ h3)
    intro a b ha hb hne e
    obtain ⟨p, hp, rfl⟩ := List.mem_map.1 ha
    obtain ⟨q, hq, rfl⟩ := List.mem_map.1 hb
    exact hne (Prod.ext e ((tally_zero hp).1.trans (tally_zero hq).1.symm))
  refine ⟨?_, fun x hx => ?_, fun t ht => ?_, nd, ?_⟩
  · rw [isum_perm h1, isum_map, ← tally_all]
  · obtain ⟨p, hp, rfl⟩ := List.mem_map.1 (h1.mem_iff.1 hx)
    exact ⟨tally_val hp, tally_pos hp, (tally_zero hp).2⟩
  · exact h1.mem_iff.2 (List.mem_map.2 ⟨_, tally_row ht, rfl⟩)
  · have h3 : xs.Pairwise fun a b => a.1 ≠ b.1 := List.pairwise_map.1 nd
    refine (h2.and h3).imp fun {a b} h => ?_
    have h4 : ¬ cmpB b.1 a.1 < 0 := h.1
    have h5 := hc a.1 b.1
    have h6 : cmpB a.1 b.1 ≠ 0 := fun e => h.2 (cmpB_same e)
    omega
theorem RowsOf.first {xs : List (ByteArray × Int)} {ts : List ByteArray} (h : RowsOf xs ts) {x : ByteArray × Int} (hx : x ∈ xs) (zero : ByteArray × Int) : firstsL Prod.fst zero xs [x.1] = [x] ∧ firstsL Prod.fst zero xs [x.1, x.1] = [x] := ⟨firsts_hit h.nd hx, firsts_hit2 h.nd hx⟩
theorem times_le (t : ByteArray) (ts : List ByteArray) : 0 ≤ oftenI t ts ∧ oftenI t ts ≤ ts.length := by
  refine ⟨isum_nonneg fun _ _ => ind_nn, ?_⟩
  have := isum_bound (f := fun x => if x = t then (1 : Int) else 0) (c := 1) (l := ts) fun _ _ => ind_le
  simpa [oftenI] using this
theorem times_nd {t : ByteArray} {ts : List ByteArray} (h : ts.Nodup) : (t ∉ ts → oftenI t ts = 0) ∧ (t ∈ ts → oftenI t ts = 1) ∧ oftenI t ts ≤ 1 := by
  have := isum_one id t (l := ts) (by simpa using h)
  simpa [oftenI] using this
theorem times_labels (t : ByteArray) (ns : List NodeP) : oftenI t (labelsOf ns) = isum (fun n => oftenI t n.labels) ns := isum_flat _ _ _
/-- Ends: how many of a kind. -/
theorem ends_val {ns : List NodeP} {rs : List RelP} {p : EndR × Int} (hp : p ∈ gather (endsOf ns (cnt (jointsOf rs)))) (hnd : ∀ n ∈ ns, n.labels.Nodup) : 1 ≤ p.2 ∧ p.2 ≤ oftenI p.1.1 (rs.map fun r => r.type) ∧ p.1.1 ∈ rs.map fun r => r.type := by
  have hlab : ∀ i, (labsAt ns i).Nodup := by
    intro i
    clear hp
    induction ns with
    | nil => exact List.nodup_nil
    | cons n r ih =>
      rw [labsAt]
      split
      · exact hnd n List.mem_cons_self
      · exact ih fun m hm => hnd m (List.mem_cons_of_mem _ hm)
  refine ⟨?_, ?_, ?_⟩
  · refine gather_pos ?_ p hp
    intro q hq
    obtain ⟨j, hj, hq⟩ := List.mem_flatMap.1 hq
    obtain ⟨l, _, rfl⟩ := List.mem_map.1 hq
    exact cnt_pos _ j hj
  · have h1 := ((mem_count (gather_nodup _)).1 (show (p.1, p.2) ∈ _ from hp)).2
    rw [← h1, gather_count, sumAt_isum]
    unfold endsOf
    rw [isum_flat]
    have e : isum (fun j : JointR × Int => isum (fun q : EndR × Int => q.2 * (if q.1 = p.1 then 1 else 0)) (outOf ns j)) (cnt (jointsOf rs)) = isum (fun j : JointR × Int => j.2 * isum (fun l => if ((j.1.2.1, l, j.1.2.2, 0) : EndR) = p.1 then 1 else 0) (labsAt ns j.1.1)) (cnt (jointsOf rs)) := by
      refine isum_congr fun j _ => ?_
      unfold outOf
      rw [isum_map]
      generalize labsAt ns j.1.1 = ls
      induction ls with
      | nil => simp [isum]
      | cons a r ih => simp only [isum, Int.mul_add]; rw [ih]
    rw [e, cnt_isum (fun j : JointR => isum (fun l => if ((j.2.1, l, j.2.2, 0) : EndR) = p.1 then 1 else 0) (labsAt ns j.1))]
    unfold jointsOf oftenI
    rw [isum_flat, isum_map]
    refine isum_le fun r _ => ?_
    have hone : ∀ (i : Int) (o : Bool), isum (fun l => if ((r.type, l, o, 0) : EndR) = p.1 then (1 : Int) else 0) (labsAt ns i) ≤ if r.type = p.1.1 ∧ o = p.1.2.2.1 then 1 else 0 := by
      intro i o
      by_cases hc : r.type = p.1.1 ∧ o = p.1.2.2.1
      · rw [if_pos hc]
        have h2 := isum_one id p.1.2.1 (l := labsAt ns i) (by simpa using hlab i)
        refine Int.le_trans (isum_le (g := fun l => if id l = p.1.2.1 then 1 else 0) fun l _ => ?_) h2.2.2
        by_cases hl : ((r.type, l, o, 0) : EndR) = p.1
        · rw [if_pos hl, if_pos (by rw [← hl]; rfl)]; exact Int.le_refl _
        · rw [if_neg hl]; exact ind_nn
      · rw [if_neg hc]
        have : isum (fun l => if ((r.type, l, o, 0) : EndR) = p.1 then (1 : Int) else 0) (labsAt ns i) = isum (fun _ => 0) (labsAt ns i) := isum_congr fun l _ => by
          rw [if_neg]
          intro e
          exact hc (by rw [← e]; exact ⟨rfl, rfl⟩)
        rw [this, isum_zero]; exact Int.le_refl _
    have a1 := hone r.fr true
    have a2 := hone r.tt false
    simp only [isum]
    by_cases ht : r.type = p.1.1
    · have ht' := eq_true ht
      rw [if_pos ht]
      cases ho : p.1.2.2.1 <;> simp only [ho, ht', true_and, reduceCtorEq, if_true, if_false] at a1 a2 <;> omega
    · have ht' := eq_false ht
      simp only [ht', false_and, if_false] at a1 a2
      rw [if_neg ht]; omega
  · obtain ⟨q, hq, e1, _⟩ := ends_key hp
    have : q.1 ∈ (cnt (jointsOf rs)).map Prod.fst := List.mem_map_of_mem hq
    rw [cnt_keys] at this
    obtain ⟨r, hr, hj⟩ := List.mem_flatMap.1 this
    rw [e1]
    refine List.mem_map.2 ⟨r, hr, ?_⟩
    simp only [List.mem_cons, List.not_mem_nil, or_false] at hj
    rcases hj with e | e <;> rw [e]
theorem ends_all (ns : List NodeP) (rs : List RelP) : isum (fun p => p.2) (gather (endsOf ns (cnt (jointsOf rs)))) = isum (fun r => ((labsAt ns r.fr).length : Int) + (labsAt ns r.tt).length) rs := by
  have h := gather_isum (fun _ => 1) (endsOf ns (cnt (jointsOf rs)))
  simp only [Int.mul_one] at h
  rw [h]
  unfold endsOf
  rw [isum_flat]
  have e : isum (fun j : JointR × Int => isum (fun q : EndR × Int => q.2) (outOf ns j)) (cnt (jointsOf rs)) = isum (fun j : JointR × Int => j.2 * (fun x : JointR => ((labsAt ns x.1).length : Int)) j.1) (cnt (jointsOf rs)) := by
    refine isum_congr fun j _ => ?_
    unfold outOf
    rw [isum_map, isum_const]
  rw [e, cnt_isum (fun x : JointR => ((labsAt ns x.1).length : Int))]
  unfold jointsOf
  rw [isum_flat]
  refine isum_congr fun r _ => ?_
  simp only [isum]; omega
/-- Keys: how many nodes, and how many values. -/
theorem kall_isum (h : KeyR → Int) (its : List ItemR) : isum (fun w : WorR => h w.1) (kAll its).2 = isum (fun it : ItemR => isum (fun l => h (l, it.2.1, 0, 0)) it.1) its := by
  unfold kAll
  suffices g : ∀ (its : List ItemR) (s : List ByteArray × List WorR), isum (fun w : WorR => h w.1) (its.foldl kStep s).2 = isum (fun w : WorR => h w.1) s.2 + isum (fun it : ItemR => isum (fun l => h (l, it.2.1, 0, 0)) it.1) its by
    have := g its ([], [])
    simpa [isum] using this
  intro its
  induction its with
  | nil => intro s; simp [isum]
  | cons x r ih =>
    intro s
    rw [List.foldl_cons, ih]
    simp only [kStep, isum_app, isum_map, isum]
    omega
theorem key_nodes (tx : Tree → ByteArray) {ns : List NodeP} (k : KeyR) (hnd : ∀ n ∈ ns, n.labels.Nodup ∧ (n.props.map Prod.fst).Nodup) : isum (fun w : WorR => if w.1 = k then 1 else 0) (kAll (itemsOf tx ns)).2 ≤ oftenI k.1 (labelsOf ns) := by
  rw [kall_isum (fun x => if x = k then 1 else 0), times_labels]
  unfold itemsOf
  rw [isum_flat]
  refine isum_le fun n hn => ?_
  rw [isum_map]
  by_cases hl : k.1 ∈ n.labels
  · rw [(times_nd (hnd n hn).1).2.1 hl]
    have h2 := isum_one Prod.fst k.2.1 (hnd n hn).2
    refine Int.le_trans (isum_le (g := fun q => if q.1 = k.2.1 then 1 else 0) fun q _ => ?_) h2.2.2
    show isum (fun l => if ((l, q.1, 0, 0) : KeyR) = k then (1 : Int) else 0) n.labels ≤ _
    by_cases hq : q.1 = k.2.1
    · rw [if_pos hq]
      have h3 := isum_one id k.1 (l := n.labels) (by simpa using (hnd n hn).1)
      refine Int.le_trans (isum_le (g := fun l => if id l = k.1 then 1 else 0) fun l _ => ?_) h3.2.2
      by_cases hc : ((l, q.1, 0, 0) : KeyR) = k
      · rw [if_pos hc, if_pos (by rw [← hc]; rfl)]; exact Int.le_refl _
      · rw [if_neg hc]; exact ind_nn
    · rw [if_neg hq]
      have : isum (fun l => if ((l, q.1, 0, 0) : KeyR) = k then (1 : Int) else 0) n.labels = isum (fun _ => 0) n.labels := isum_congr fun l _ => by
        rw [if_neg]; intro e; exact hq (by rw [← e])
      rw [this, isum_zero]; exact Int.le_refl _
  · rw [(times_nd (hnd n hn).1).1 hl]
    have : isum (fun q => isum (fun l => if ((l, (itemAt tx n.labels q).2.1, 0, 0) : KeyR) = k then (1 : Int) else 0) (itemAt tx n.labels q).1) n.props = isum (fun _ => 0) n.props := isum_congr fun q _ => by
      show isum (fun l => if ((l, q.1, 0, 0) : KeyR) = k then (1 : Int) else 0) n.labels = 0
      have : isum (fun l => if ((l, q.1, 0, 0) : KeyR) = k then (1 : Int) else 0) n.labels = isum (fun _ => 0) n.labels := isum_congr fun l hl' => by
        rw [if_neg]; intro e; exact hl (by rw [← e]; exact hl')
      rw [this, isum_zero]
    rw [this, isum_zero]; exact Int.le_refl _
theorem keys_val {ws : List WorR} {p : KeyR × Int} (hp : p ∈ nodesK ws) : 1 ≤ countOf p.1 (valuesK ws) ∧ countOf p.1 (valuesK ws) ≤ p.2 ∧ p.2 = isum (fun w : WorR => if w.1 = p.1 then 1 else 0) ws := by
  have h1 := ((mem_count (gather_nodup _)).1 (show (p.1, p.2) ∈ gather _ from hp)).2
  rw [gather_count, sumAt_isum, isum_map] at h1
  have hv : countOf p.1 (valuesK ws) = isum (fun q : WorR × Int => 1 * (if q.1.1 = p.1 then 1 else 0)) (cnt ws) := by
    unfold valuesK
    rw [gather_count, sumAt_isum, isum_map]
  refine ⟨?_, ?_, ?_⟩
  · rw [hv]
    obtain ⟨x, hx, e⟩ := keys_key hp
    have hk : x ∈ (cnt ws).map Prod.fst := (cnt_keys ws x).2 hx
    obtain ⟨q, hq, e2⟩ := List.mem_map.1 hk
    refine isum_pos (fun q _ => ?_) hq ?_
    · rw [Int.one_mul]; exact ind_nn
    · rw [e2, if_pos e.symm]; simp
  · rw [hv, ← h1]
    refine isum_le fun q hq => ?_
    have := cnt_pos ws q hq
    simp only
    split <;> omega
  · rw [← h1]
    exact cnt_isum (fun w : WorR => if w.1 = p.1 then 1 else 0) ws
/-- What StatsSums asks of counts. -/
structure SumsOk (g : GraphP) (s : StatP) : Prop where
  n : s.nodes = g.nodes.length
  r : s.rels = g.rels.length
  tt : RowsOf s.types (g.rels.map fun r => r.type)
  ll : RowsOf s.labels (labelsOf g.nodes)
  ln : ∀ x ∈ s.labels, x.2 ≤ s.nodes
  kk : ∀ x ∈ s.keys, 1 ≤ x.2.2.2 ∧ x.2.2.2 ≤ x.2.2.1 ∧ x.2.2.1 ≤ oftenI x.1 (labelsOf g.nodes) ∧ x.1 ∈ labelsOf g.nodes
  kn : (s.keys.map keyK).Nodup
  ee : ∀ x ∈ s.ends, 1 ≤ x.2.2.2 ∧ x.2.2.2 ≤ oftenI x.1 (g.rels.map fun r => r.type) ∧ x.1 ∈ g.rels.map fun r => r.type
  en : (s.ends.map endK).Nodup
  ea : isum (fun x => x.2.2.2) s.ends = isum (fun r => ((labsAt g.nodes r.fr).length : Int) + (labsAt g.nodes r.tt).length) g.rels
theorem sums_ok {tx : Tree → ByteArray} {g : GraphP} {s : StatP} (h : CntIs tx g (fun a b => ¬ cfL b a < 0) (fun a b => ¬ cfL b a < 0) (fun a b => ¬ cfE b a < 0) (fun a b => ¬ cfK b a < 0) s) (hc : ∀ a b, cmpB b a = - cmpB a b) (hnd : ∀ n ∈ g.nodes, n.labels.Nodup ∧ (n.props.map Prod.fst).Nodup) : SumsOk g s := by
  have hl := rows_of h.l1 h.l2 hc
  have hen : ∀ p ∈ gather (endsOf g.nodes (cnt (jointsOf g.rels))), p.1 = (p.1.1, p.1.2.1, p.1.2.2.1, 0) := fun p hp => by
    obtain ⟨_, _, _, _, _, z⟩ := ends_key hp
    exact Prod.ext rfl (Prod.ext rfl (Prod.ext rfl z))
  have hkn : ∀ p ∈ nodesK (kAll (itemsOf tx g.nodes)).2, p.1 = (p.1.1, p.1.2.1, 0, 0) := fun p hp => by
    obtain ⟨x, hx, z⟩ := keys_key hp
    have w := (kAll_facts _).2.2.2 x hx
    exact Prod.ext rfl (Prod.ext rfl (by rw [z, w]))
  refine ⟨h.n, h.r, rows_of h.t1 h.t2 hc, hl, fun x hx => ?_, fun x hx => ?_, ?_, fun x hx => ?_, ?_, ?_⟩
  · rw [(hl.val x hx).1, times_labels, h.n]
    have := isum_bound (f := fun n => oftenI x.1 n.labels) (c := 1) (l := g.nodes) fun n hn => (times_nd (hnd n hn).1).2.2
    omega
  · obtain ⟨p, hp, rfl⟩ := List.mem_map.1 (h.k1.mem_iff.1 hx)
    obtain ⟨a1, a2, a3⟩ := keys_val hp
    have a4 := key_nodes tx p.1 hnd
    rw [← a3] at a4
    refine ⟨a1, a2, a4, ?_⟩
    have a5 : 1 ≤ oftenI p.1.1 (labelsOf g.nodes) := by omega
    show p.1.1 ∈ labelsOf g.nodes
    by_cases hm : p.1.1 ∈ labelsOf g.nodes
    · exact hm
    · exfalso
      have : oftenI p.1.1 (labelsOf g.nodes) = isum (fun _ => 0) (labelsOf g.nodes) := isum_congr fun x hx => if_neg fun (e : x = p.1.1) => hm (e ▸ hx)
      rw [this, isum_zero] at a5
      omega
  · rw [(h.k1.map keyK).nodup_iff]
    unfold keysK
    rw [List.map_map]
    have e : (nodesK (kAll (itemsOf tx g.nodes)).2).map (keyK ∘ numK (valuesK (kAll (itemsOf tx g.nodes)).2)) = (nodesK (kAll (itemsOf tx g.nodes)).2).map Prod.fst := List.map_congr_left fun p hp => (hkn p hp).symm
    rw [e]
    exact gather_nodup _
  · obtain ⟨p, hp, rfl⟩ := List.mem_map.1 (h.e1.mem_iff.1 hx)
    exact ends_val hp fun n hn => (hnd n hn).1
  · rw [(h.e1.map endK).nodup_iff, List.map_map]
    have e : (gather (endsOf g.nodes (cnt (jointsOf g.rels)))).map (endK ∘ fun p : EndR × Int => (p.1.1, p.1.2.1, p.1.2.2.1, p.2)) = (gather (endsOf g.nodes (cnt (jointsOf g.rels)))).map Prod.fst := List.map_congr_left fun p hp => (hen p hp).symm
    rw [e]
    exact gather_nodup _
  · rw [isum_perm h.e1, isum_map, ← ends_all]
/-- What is reckoned of its rows. -/
theorem SumsOk.asks {g : GraphP} {s : StatP} (h : SumsOk g s) (h1 : g.nodes.length ≤ 60) (h2 : g.rels.length ≤ 60) (h3 : (labelsOf g.nodes).length ≤ 1000000) :
    cutI s.nodes = s.nodes ∧ typedI s [] = s.rels ∧ (∀ x ∈ s.types, typedI s [x.1, x.1] = x.2) ∧ (∀ x ∈ s.labels, labelledI s [x.1] = x.2) ∧ (∀ x ∈ s.keys, x.2.2.1 ≤ labelledI s [x.1] ∧ 1 ≤ seekI s x.1 x.2.1) ∧ ∀ x ∈ s.ends, x.2.2.2 ≤ typedI s [x.1] ∧ endedI s x.2.1 x.2.2.1 [x.1] = x.2.2.2 := by
  have hn := h.n
  have hr := h.r
  have hb : ∀ x ∈ s.ends, x.2.2.2 ≤ 4611686018427387904 := fun x hx => by
    have a := (h.ee x hx).2.1
    have b := times_le x.1 (g.rels.map fun r => r.type)
    rw [List.length_map] at b
    omega
  have hk : ∀ x ∈ s.keys, x.2.2.1 ≤ 4611686018427387904 := fun x hx => by
    have a := (h.kk x hx).2.2.1
    have b := times_le x.1 (labelsOf g.nodes)
    omega
  have hT : ∀ x ∈ s.types, 0 ≤ x.2 ∧ x.2 ≤ 4611686018427387904 := fun x hx => by
    have a := h.tt.val x hx
    have b := times_le x.1 (g.rels.map fun r => r.type)
    rw [List.length_map] at b
    omega
  have hLn : ∀ x ∈ s.labels, labelledI s [x.1] = x.2 := fun x hx => by
    have a := h.ll.val x hx
    have b := h.ln x hx
    unfold labelledI
    rw [(h.ll.first hx _).1, leastF, leastF, cut_id (by omega) (by omega), cut_id (by omega) (by omega)]
    split <;> omega
  refine ⟨cut_id (by omega) (by omega), ?_, fun x hx => ?_, hLn, fun x hx => ⟨?_, ?_⟩, fun x hx => ⟨?_, ?_⟩⟩
  · unfold typedI
    rw [if_pos rfl, cut_id (by omega) (by omega)]
  · unfold typedI
    rw [if_neg (by simp), (h.tt.first hx _).2]
    exact plus_own (hT x hx).1 (hT x hx).2
  · have a := h.kk x hx
    have b := hLn _ (h.ll.hit x.1 a.2.2.2)
    rw [b]
    exact a.2.2.1
  · have a := h.kk x hx
    have e : firstsL keyK (⟨#[]⟩, ⟨#[]⟩, 0, 0) s.keys [(x.1, x.2.1, 0, 0)] = [x] := firsts_hit h.kn hx
    unfold seekI
    rw [e]
    exact share_pos (by omega) (hk x hx)
  · have a := h.ee x hx
    have b := h.tt.hit x.1 a.2.2
    have c := hT _ b
    unfold typedI
    rw [if_neg (by simp), (h.tt.first b _).1]
    show _ ≤ plusI [_]
    rw [plus_own c.1 c.2]
    exact a.2.1
  · have a := h.ee x hx
    have e : firstsL endK (⟨#[]⟩, ⟨#[]⟩, false, 0) s.ends [(x.1, x.2.1, x.2.2.1, 0)] = [x] := firsts_hit h.en hx
    unfold endedI
    rw [List.map_cons, List.map_nil, e]
    exact plus_own (show 0 ≤ x.2.2.2 by omega) (hb x hx)
/-- What is counted of a graph. -/
def CntA (g : GraphP) (s : StatP) : Prop := CntIs txG g (fun a b => ¬ cfL b a < 0) (fun a b => ¬ cfL b a < 0) (fun a b => ¬ cfE b a < 0) (fun a b => ¬ cfK b a < 0) s
theorem may_b {g : GraphP} {s : StatP} (hs : smallG g = true) (hok : checkPB g = true) (hfr : ∀ r ∈ g.rels, W64 r.fr ∧ W64 r.tt) (hid : ∀ n ∈ g.nodes, W64 n.id) (hc : CntIs txG g (fun a b => ¬ cfL b a < 0) (fun a b => ¬ cfL b a < 0) (fun a b => ¬ cfE b a < 0) (fun a b => ¬ cfK b a < 0) s) : CntB s := by
  have hk := hok
  simp only [checkPB, Bool.and_eq_true] at hk
  obtain ⟨_, ⟨h1, _⟩, h3, _⟩ := hk
  exact cnt_bounds hs (small_fit txG hs (fun n hn => by have := labelsB_bytes h3 n hn; omega) hfr (riseI_all h1).2 hid) hc
end Go.Proofs.YthfilnflgahcjaaGreatDoor

namespace Go.Proofs.YthfilnflgahcjaaGreatDoor
open Go.RowKit Go.Shelf
set_option linter.unusedVariables false
set_option linter.unusedSimpArgs false
theorem less_iff : ∀ (a b : List UInt8), Op.bytesLess a b = decide (Lib.compareBytes a b < 0)
  | [], [] => by simp [Op.bytesLess, Lib.compareBytes]
  | [], _ :: _ => by simp [Op.bytesLess, Lib.compareBytes]
  | _ :: _, [] => by simp [Op.bytesLess, Lib.compareBytes]
  | a :: x, b :: y => by
    rw [Op.bytesLess, Lib.compareBytes, less_iff x y]
    by_cases h1 : a < b
    · simp [h1]
    · by_cases h2 : b < a
      · have h3 : ¬ a = b := fun e => by subst e; exact h1 h2
        simp [h1, h2, h3]
      · have h3 : a = b := UInt8.le_antisymm (UInt8.not_lt.1 h2) (UInt8.not_lt.1 h1)
        subst h3
        simp
theorem less_cmp (a b : ByteArray) : Op.bytesLess a.toList b.toList = decide (cmpB a b < 0) := by
  rw [less_iff, Lib.toList_data, Lib.toList_data]; rfl
theorem cmpB_anti (a b : ByteArray) : cmpB b a = - cmpB a b := goodL.2.1 (a, 0) (b, 0)
theorem cmpB_self (a : ByteArray) : cmpB a a = 0 := by have := cmpB_anti a a; omega
theorem cmpB_trans {a b c : ByteArray} (h1 : cmpB a b < 0) (h2 : cmpB b c < 0) : cmpB a c < 0 := by
  have h := goodL.2.2 (a, 0) (b, 0) (c, 0)
  have a1 := goodL.1 (a, 0) (b, 0)
  have a2 := goodL.1 (b, 0) (c, 0)
  have a3 := goodL.1 (a, 0) (c, 0)
  simp only [cfL, Cm.Leads, Cm.Three] at h a1 a2 a3
  omega
theorem leq_cmp {x l : ByteArray} (h : leqB x l = false) : cmpB l x < 0 := by
  unfold leqB at h
  simp only [Bool.or_eq_false_iff] at h
  obtain ⟨h1, h2⟩ := h
  rw [less_cmp] at h1
  have h3 : ¬ cmpB x l < 0 := by simpa using h1
  have h4 : cmpB x l ≠ 0 := fun e => by
    rw [cmpB_same e] at h2; simp at h2
  have := cmpB_anti x l
  omega
theorem nr_up : ∀ {ks : List ByteArray} {l : ByteArray}, nrB l ks = true → (∀ x ∈ ks, cmpB l x < 0) ∧ ks.Nodup
  | [], _, _ => ⟨fun x hx => by simp at hx, List.nodup_nil⟩
  | x :: r, l, h => by
    simp only [nrB, Bool.and_eq_true, Bool.not_eq_true'] at h
    obtain ⟨_, h1, h2⟩ := h
    have h3 := leq_cmp h1
    obtain ⟨h4, h5⟩ := nr_up h2
    refine ⟨fun y hy => ?_, List.nodup_cons.2 ⟨fun hm => ?_, h5⟩⟩
    · rcases List.mem_cons.1 hy with rfl | hy
      · exact h3
      · exact cmpB_trans h3 (h4 y hy)
    · have := h4 x hm
      rw [cmpB_self] at this
      omega
theorem labels_nd {ns : List NodeP} (h : labelsB ns = true) : ∀ n ∈ ns, n.labels.Nodup := by
  induction ns with
  | nil => intro n hn; cases hn
  | cons x r ih =>
    intro n hn
    simp only [labelsB, Bool.and_eq_true] at h
    rcases List.mem_cons.1 hn with rfl | hn
    · exact (nr_up h.1).2
    · exact ih h.2 n hn
theorem nodeProps_nd {ns : List NodeP} (h : nodePropsB ns = true) : ∀ n ∈ ns, (n.props.map Prod.fst).Nodup := by
  induction ns with
  | nil => intro n hn; cases hn
  | cons x r ih =>
    intro n hn
    simp only [nodePropsB, mayPB, Bool.and_eq_true] at h
    rcases List.mem_cons.1 hn with rfl | hn
    · exact (nr_up h.1.2).2
    · exact ih h.2 n hn
theorem check_nd {g : GraphP} (h : checkPB g = true) : ∀ n ∈ g.nodes, n.labels.Nodup ∧ (n.props.map Prod.fst).Nodup := by
  simp only [checkPB, Bool.and_eq_true] at h
  obtain ⟨_, _, h3, ⟨h4, _⟩, _⟩ := h
  exact fun n hn => ⟨labels_nd h3 n hn, nodeProps_nd h4 n hn⟩
end Go.Proofs.YthfilnflgahcjaaGreatDoor

