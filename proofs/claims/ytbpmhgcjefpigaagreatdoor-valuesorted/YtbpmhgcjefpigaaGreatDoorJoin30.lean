/- Values in order: there is one way to put them so. slices.SortFunc of copies in a row, by their order. Sorted, at any list of values. value.Size: how many values there are, and how deep. -/
import Derived.Test.YtbpmhgcjefpigaaGreatDoorRsort
import Derived.Test.YtbpmhgcjefpigaaGreatDoorJoin22
import Derived.Test.YtbpmhgcjefpigaaGreatDoorJoin23
import Derived.Test.YtbpmhgcjefpigaaGreatDoorJoin5
import Derived.Test.YtbpmhgcjefpigaaGreatDoorJoin3
namespace Go.Proofs.YtbpmhgcjefpigaaGreatDoor
open Go.RowKit Go.Shelf Go.WideShapes Go.Lib
set_option linter.unusedVariables false

def leT (a b : Tree) : Prop := ordT a b ≤ 0
theorem leT_trans {a b c : Tree} (ha : Known a) (hb : Known b) (hc : Known c) (h1 : leT a b) (h2 : leT b c) : leT a c := by
  unfold leT at *
  have h3 := ordT_three a b
  have h4 := ordT_three b c
  obtain ⟨h5, h6, h7⟩ := ordT_leads a b c ha hb hc
  unfold Three at h3 h4
  rcases h3 with e | e | e <;> rcases h4 with f | f | f <;> first | omega | (have := h5 e; omega) | (have := h6 f; omega) | (have := h7 (by omega); omega)
theorem leT_other {a b : Tree} (ha : Known a) (hb : Known b) (h : ¬ leT a b) : leT b a := by
  unfold leT at *
  have := ordT_turn a b ha hb
  omega
theorem leT_one {a b : Tree} (ha : checkN a = 0) (hb : checkN b = 0) (h : leT a b) (k : leT b a) : a = b := by
  unfold leT at *
  have := ordT_turn a b (known_check ha) (known_check hb)
  exact ord_one a (may_zero0 ha) b (may_zero0 hb) (by omega)
theorem insT_cons (u : Tree) (out : List Tree) (t : Tree) : insT (u :: out) t = if ordT u t ≤ 0 then u :: insT out t else t :: u :: out := by
  unfold insT upN
  rw [List.takeWhile_cons]
  by_cases h : ordT u t ≤ 0
  · simp [h]
  · simp [h]
theorem insT_perm (t : Tree) : ∀ (out : List Tree), (insT out t).Perm (t :: out)
  | [] => by simp [insT, upN]
  | u :: out => by
    rw [insT_cons]
    split
    · exact ((insT_perm t out).cons u).trans (.swap t u out)
    · exact .refl _
theorem insT_sorted {t : Tree} (ht : Known t) : ∀ {out : List Tree}, (∀ u ∈ out, Known u) → out.Pairwise leT → (insT out t).Pairwise leT
  | [], _, _ => by simp [insT, upN]
  | u :: out, hk, h => by
    rw [insT_cons]
    have hu := hk u (List.mem_cons_self ..)
    obtain ⟨h1, h2⟩ := List.pairwise_cons.1 h
    split
    · rename_i hle
      refine List.pairwise_cons.2 ⟨fun x hx => ?_, insT_sorted ht (fun x hx => hk x (List.mem_cons_of_mem _ hx)) h2⟩
      rcases insT_mem hx with g | g
      · exact h1 x g
      · exact g ▸ hle
    · rename_i hle
      refine List.pairwise_cons.2 ⟨fun x hx => ?_, h⟩
      have h0 := leT_other hu ht hle
      rcases List.mem_cons.1 hx with g | g
      · exact g ▸ h0
      · exact leT_trans ht hu (hk x hx) h0 (h1 x g)
theorem fold_perm : ∀ (ts acc : List Tree), (ts.foldl insT acc).Perm (ts ++ acc)
  | [], acc => .refl _
  | t :: r, acc => by
    rw [List.foldl_cons]
    exact (fold_perm r (insT acc t)).trans (((insT_perm t acc).append_left r).trans (List.perm_middle))
theorem srtL_perm (ts : List Tree) : (srtL ts).Perm ts := by
  have := fold_perm ts []
  rwa [List.append_nil] at this
theorem fold_sorted : ∀ (ts acc : List Tree), (∀ t ∈ ts, Known t) → (∀ t ∈ acc, Known t) → acc.Pairwise leT → (ts.foldl insT acc).Pairwise leT
  | [], acc, _, _, h => h
  | t :: r, acc, h1, h2, h => by
    rw [List.foldl_cons]
    have ht := h1 t (List.mem_cons_self ..)
    refine fold_sorted r _ (fun x hx => h1 x (List.mem_cons_of_mem _ hx)) (fun x hx => ?_) (insT_sorted ht h2 h)
    rcases insT_mem hx with g | g
    · exact h2 x g
    · exact g ▸ ht
theorem srtL_sorted {ts : List Tree} (h : ∀ t ∈ ts, Known t) : (srtL ts).Pairwise leT := fold_sorted ts [] h (by simp) .nil
/-- A list that holds the same values in order is the one. -/
theorem srtL_one {ts us : List Tree} (h : ∀ t ∈ ts, checkN t = 0) (hp : us.Perm ts) (hs : us.Pairwise leT) : us = srtL ts :=
  List.Perm.eq_of_pairwise (fun a b ha hb h1 h2 => leT_one (h a (hp.subset ha)) (h b ((srtL_perm ts).subset hb)) h1 h2) hs (srtL_sorted fun t ht => known_check (h t ht)) (hp.trans (srtL_perm ts).symm)
theorem srtL_turned {ts : List Tree} (h : ∀ t ∈ ts, checkN t = 0) : srtL ts.reverse = srtL ts := by
  refine srtL_one h ((srtL_perm _).trans (List.reverse_perm _)) (srtL_sorted fun t ht => known_check (h t (by simpa using ht)))
theorem srtL_length (ts : List Tree) : (srtL ts).length = ts.length := (srtL_perm ts).length_eq
theorem srtL_check {ts : List Tree} (h : ∀ t ∈ ts, checkN t = 0) : ∀ t ∈ srtL ts, checkN t = 0 := fun t ht => h t ((srtL_perm ts).subset ht)

/-! Each once. -/
theorem hasT_mem {out : List Tree} {t : Tree} (ho : ∀ u ∈ out, checkN u = 0) (ht : checkN t = 0) : hasT out t = true ↔ t ∈ out := by
  unfold hasT
  rw [List.contains_iff_mem, List.mem_map]
  constructor
  · rintro ⟨u, hu, e⟩
    exact tell_one (may_zero0 (ho u hu)) (may_zero0 ht) e ▸ hu
  · intro h
    exact ⟨t, h, rfl⟩
def onceStep (out : List Tree) (t : Tree) : List Tree := if hasT out t = true then out else out ++ [t]
theorem once_fold : ∀ (ts acc : List Tree), (∀ t ∈ ts, checkN t = 0) → (∀ t ∈ acc, checkN t = 0) → acc.Nodup → (ts.foldl onceStep acc).Nodup ∧ ∀ x, x ∈ ts.foldl onceStep acc ↔ x ∈ ts ∨ x ∈ acc
  | [], acc, _, _, h => ⟨h, fun x => by simp⟩
  | t :: r, acc, h1, h2, h => by
    rw [List.foldl_cons]
    have ht := h1 t (List.mem_cons_self ..)
    have hr : ∀ x ∈ r, checkN x = 0 := fun x hx => h1 x (List.mem_cons_of_mem _ hx)
    by_cases hh : hasT acc t = true
    · have e : onceStep acc t = acc := by unfold onceStep; rw [if_pos hh]
      rw [e]
      obtain ⟨g1, g2⟩ := once_fold r acc hr h2 h
      refine ⟨g1, fun x => ?_⟩
      rw [g2, List.mem_cons]
      have hm := (hasT_mem h2 ht).1 hh
      constructor
      · rintro (a | a)
        · exact .inl (.inr a)
        · exact .inr a
      · rintro ((a | a) | a)
        · exact .inr (a ▸ hm)
        · exact .inl a
        · exact .inr a
    · have e : onceStep acc t = acc ++ [t] := by unfold onceStep; rw [if_neg hh]
      rw [e]
      have hm : t ∉ acc := fun m => hh ((hasT_mem h2 ht).2 m)
      obtain ⟨g1, g2⟩ := once_fold r (acc ++ [t]) hr (fun x hx => by
        rcases List.mem_append.1 hx with g | g
        · exact h2 x g
        · simp only [List.mem_cons, List.not_mem_nil, or_false] at g
          exact g ▸ ht) (by
        rw [List.nodup_append]
        refine ⟨h, by simp, fun a ha b hb e => ?_⟩
        simp only [List.mem_cons, List.not_mem_nil, or_false] at hb
        exact hm (hb ▸ e ▸ ha))
      refine ⟨g1, fun x => ?_⟩
      rw [g2, List.mem_append, List.mem_singleton, List.mem_cons]
      constructor
      · rintro (a | a | a)
        · exact .inl (.inr a)
        · exact .inr a
        · exact .inl (.inl a)
      · rintro ((a | a) | a)
        · exact .inr (.inr a)
        · exact .inl a
        · exact .inr (.inl a)
theorem nodup_len : ∀ {a b : List Tree}, a.Nodup → (∀ x ∈ a, x ∈ b) → a.length ≤ b.length
  | [], _, _, _ => by simp
  | x :: r, b, h, hs => by
    obtain ⟨h1, h2⟩ := List.nodup_cons.1 h
    obtain ⟨l, m, rfl⟩ := List.append_of_mem (hs x (List.mem_cons_self ..))
    have := nodup_len (a := r) (b := l ++ m) h2 (fun y hy => by
      have := hs y (List.mem_cons_of_mem _ hy)
      simp only [List.mem_append, List.mem_cons] at this ⊢
      rcases this with g | g | g
      · exact .inl g
      · exact absurd (g ▸ hy) h1
      · exact .inr g)
    simp only [List.length_append, List.length_cons] at this ⊢
    omega
theorem outL_perm {ts us : List Tree} (h : ∀ t ∈ ts, checkN t = 0) (hp : us.Perm ts) : (outL us).length = (outL ts).length := by
  obtain ⟨a1, a2⟩ := once_fold ts [] h (by simp) .nil
  obtain ⟨b1, b2⟩ := once_fold us [] (fun t ht => h t (hp.subset ht)) (by simp) .nil
  have ha : outL ts = ts.foldl onceStep [] := rfl
  have hb : outL us = us.foldl onceStep [] := rfl
  rw [ha, hb]
  refine Nat.le_antisymm (nodup_len b1 fun x hx => ?_) (nodup_len a1 fun x hx => ?_)
  · rw [a2]; rw [b2] at hx
    exact .inl (hx.elim (fun g => hp.subset g) (fun g => by simp at g))
  · rw [b2]; rw [a2] at hx
    exact .inl (hx.elim (fun g => hp.symm.subset g) (fun g => by simp at g))
theorem outL_srtL {ts : List Tree} (h : ∀ t ∈ ts, checkN t = 0) : (outL (srtL ts)).length = (outL ts).length := outL_perm h (srtL_perm ts)
end Go.Proofs.YtbpmhgcjefpigaaGreatDoor

namespace Go.Proofs.YtbpmhgcjefpigaaGreatDoor
open Go.RowKit Go.Shelf Go.WideShapes Go.Lib
set_option linter.unusedVariables false
set_option linter.unusedSimpArgs false

section
variable {α : Type} [Inhabited α]
theorem sw_block (enc : α → List Value) (k : Nat) (w : World) (blk off m : Nat) (dk : Array α) (os : Array Obj) {q : Nat} (h : q ≠ blk) (hq : q < w.heap.size) : (sortWorldK enc k w blk off m dk os).heap[q]? = w.heap[q]? := by
  unfold sortWorldK
  rw [Go.Sort.heap_grow_old _ _ (by rw [Go.Sort.putRowK, Go.Sort.size_putRow]; exact hq)]
  unfold Go.Sort.putRowK Go.Sort.putRow Go.Sort.mapBlock
  simp only [Array.getElem?_modify]
  rw [if_neg (fun e => h e.symm)]
  rfl
theorem sw_size (enc : α → List Value) (k : Nat) (w : World) (blk off m : Nat) (dk : Array α) (os : Array Obj) : w.heap.size ≤ (sortWorldK enc k w blk off m dk os).heap.size := size_sortWorldK_c enc k w blk off m dk os
end

def Good (A g : Nat) (w : World) (e : Ent) : Prop := EntOk A (some g) w e ∧ checkN e.t = 0
abbrev EntT (A g : Nat) (w : World) := {e : Ent // Good A g w e}
def nullE (A : Nat) : Ent := ⟨.int .i64 0, .bool false, .int .i64 0, .string ⟨#[]⟩, .slice none 0 0, .slice none 0 0, .mk 0 false 0 ⟨#[]⟩ [] [], A, A⟩
theorem null_check : checkN (.mk 0 false 0 ⟨#[]⟩ [] []) = 0 := by decide +kernel
theorem nullE_good {A g : Nat} {w : World} (h1 : g < A) (h2 : A ≤ w.heap.size) : Good A g w (nullE A) := by
  refine ⟨⟨?_, Nat.le_refl _, Nat.le_refl _, h2, fun q hq => .inl ?_⟩, null_check⟩
  · simp only [nullE, Ent.val, LiesF]
    exact ⟨none, 0, none, 0, rfl, ⟨by decide, Nat.le_refl _, by decide, Nat.le_refl _, by decide⟩, .inl rfl, .inl trivial⟩
  · simp only [Option.some.injEq] at hq
    show q < A
    omega
theorem lies_cells {lo hi : Nat} {w : World} {e : Ent} (h : LiesF lo hi w e.val e.t) : ∀ v ∈ e.cells, v.oneCell' = true := by
  obtain ⟨c0, c1, c2, c3, c4, c5, ⟨k, b, n, s, ks, ts⟩, l, u⟩ := e
  simp only [Ent.val, LiesF] at h
  obtain ⟨ka, kc, la, lc, hv, -⟩ := h
  simp only [Value.agg.injEq, Array.mk.injEq, List.cons.injEq, and_true] at hv
  obtain ⟨rfl, rfl, rfl, rfl, rfl, rfl⟩ := hv
  intro v hv
  simp only [Ent.cells, List.mem_cons, List.not_mem_nil, or_false] at hv
  rcases hv with rfl | rfl | rfl | rfl | rfl | rfl <;> rfl
theorem swo_ord {A g : Nat} {w : World} : Go.Sort.SWO (ltOf fun x y : EntT A g w => ordT x.1.t y.1.t) := by
  refine ⟨fun x => ?_, fun x y z h1 h2 => ?_, fun x y z h1 h2 => ?_⟩
  · show decide (ordT x.1.t x.1.t < 0) = false
    rw [ordT_self _ (known_check x.2.2)]; rfl
  · simp only [ltOf, decide_eq_true_eq] at h1 h2 ⊢
    obtain ⟨h5, h6, h7⟩ := ordT_leads x.1.t y.1.t z.1.t (known_check x.2.2) (known_check y.2.2) (known_check z.2.2)
    have h3 := ordT_three x.1.t y.1.t
    have h4 := ordT_three y.1.t z.1.t
    unfold Three at h3 h4
    have := h7 (by omega)
    omega
  · simp only [ltOf, decide_eq_false_iff_not] at h1 h2 ⊢
    obtain ⟨h5, h6, h7⟩ := ordT_leads x.1.t y.1.t z.1.t (known_check x.2.2) (known_check y.2.2) (known_check z.2.2)
    have h3 := ordT_three x.1.t y.1.t
    have h4 := ordT_three y.1.t z.1.t
    unfold Three at h3 h4
    by_cases e : ordT x.1.t y.1.t = 0
    · rw [h5 e]; exact h2
    · by_cases f : ordT y.1.t z.1.t = 0
      · rw [h6 f]; exact h1
      · rw [h7 (by omega)]; exact h1

set_option maxHeartbeats 1000000 in
theorem sort_row {A g : Nat} {w : World} {es : List Ent} {cap : Nat} (hg : g < A) (hA : A ≤ w.heap.size) (hr : RowAt g w es) (hrm : Room w g es.length) (he : Ents A (some g) w es) (hc : ∀ e ∈ es, checkN e.t = 0) (hsz : es.length ≤ 1000000) :
    Calls Tryz.prog 85 #[.slice (some ⟨g, 0, none⟩) es.length cap, .func (.func 71) #[] #[]] w fun e w' => ∃ es', e = .returned (.tuple #[]) ∧ es'.map Ent.t = srtL (es.map Ent.t) ∧ RowAt g w' es' ∧ Ents A (some g) w' es' ∧ Below g w w' := by
  haveI : Inhabited (EntT A g w) := ⟨⟨nullE A, nullE_good hg hA⟩⟩
  have hgood : ∀ e ∈ es, Good A g w e := fun e h => ⟨he.ok e h, hc e h⟩
  obtain ⟨d, hd⟩ : ∃ d : Array (EntT A g w), d.toList.map Subtype.val = es := ⟨(es.attach.map fun e => (⟨e.1, hgood e.1 e.2⟩ : EntT A g w)).toArray, by simp [List.map_map, Function.comp_def]⟩
  have hds : d.size = es.length := by rw [← hd]; simp
  have hget : ∀ i, i < d.size → es[i]? = some (d[i]!).1 := fun i hi => by
    rw [← hd, List.getElem?_map, getElem!_pos d i hi]
    simp [hi]
  have hH : Go.Sort.HoldsK (fun e : EntT A g w => e.1.cells) 6 w g 0 d := by
    intro t ht
    rw [Go.Sort.size_flatK] at ht
    rw [Go.Sort.get_flatK _ _ _ _ ht]
    have hi : t / 6 < d.size := by omega
    have hm : t % 6 < 6 := by omega
    have hc6 : ((d[t / 6]!).1.cells)[t % 6]? = some (((d[t / 6]!).1.cells)[t % 6]!) := by
      rw [List.getElem?_eq_getElem (by exact hm), List.getElem!_eq_getElem?_getD, List.getElem?_eq_getElem (by exact hm)]; rfl
    have h1 := hr (t / 6) _ (hget _ hi) (t % 6) _ hc6
    rw [show t / 6 * 6 + t % 6 = t by omega] at h1
    rw [Nat.zero_add]
    exact ⟨h1, (hrm t (by omega)).2⟩
  have hcmp : CmpLays Tryz.prog 71 #[] (fun e : EntT A g w => e.1.cells) 6 (fun x y => ordT x.1.t y.1.t) g 0 d.size w := by
    intro m os dk hdk x y
    have hl : ∀ z : EntT A g w, Lies (sortWorldK (fun e : EntT A g w => e.1.cells) 6 w g 0 m dk os).heap.size (sortWorldK (fun e : EntT A g w => e.1.cells) 6 w g 0 m dk os) (.agg (z.1.cells).toArray) z.1.t := fun z => by
      have o := z.2.1
      have := o.keep (w' := sortWorldK (fun e : EntT A g w => e.1.cells) 6 w g 0 m dk os) (g' := some g) (fun b h1 h2 => sw_block _ _ _ _ _ _ _ _ (fun e => by have := o.row g rfl; omega) (Nat.lt_of_lt_of_le h2 o.upto)) (sw_size _ _ _ _ _ _ _ _) (.inl rfl)
      exact (this.lies.mono (Nat.le_refl _) this.upto).lie
    rw [Array.append_empty]
    refine (order_anyD x.1.t _ _ _ y.1.t _ (Nat.le_refl _) (hl x) (hl y)).mono ?_
    rintro e w' ⟨rfl, hb, hdr⟩
    exact ⟨rfl, grow_of hb hdr⟩
  have S := AnyQ.slices_SortFunc Tryz.laysSlK6_f85 6 Tryz.isAgg26 Tryz.sizeOf26 (fun e : EntT A g w => e.1.cells) (fun _ => rfl) (fun x => lies_cells x.2.1.lies) (fun x y => ordT x.1.t y.1.t) swo_ord 71 #[] g 0 cap d w (enters_of Tryz.func71 (by kernel_rfl) rfl) hcmp hH (by omega) (by omega)
  rw [hds] at S
  refine Calls.mono (show Calls Tryz.prog 85 _ w _ from S) ?_
  rintro e w' ⟨rfl, d', m, os, hp, hs, rfl⟩
  have hsz' : d'.size = d.size := hp.1
  have hperm : d'.toList.Perm d.toList := by
    have := hp.2.2
    rw [show d'.extract 0 es.length = d' by rw [← hds, ← hsz']; simp, show d.extract 0 es.length = d by rw [← hds]; simp] at this
    exact this
  have hpe : (d'.toList.map Subtype.val).Perm es := hd ▸ hperm.map _
  have hH' := holdsK_sortWorldK_c (fun e : EntT A g w => e.1.cells) 6 w g 0 d d' m os hH (by omega) hsz'
  refine ⟨d'.toList.map Subtype.val, rfl, ?_, ?_, ?_, ?_⟩
  · refine srtL_one (fun t ht => ?_) (hpe.map _) ?_
    · obtain ⟨e, he, rfl⟩ := List.mem_map.1 ht
      exact hc e he
    · rw [List.pairwise_iff_getElem]
      intro i j hi hj hij
      simp only [List.length_map, Array.length_toList] at hi hj
      have h1 := hs i j (Nat.zero_le _) hij (by omega)
      rw [getElem!_pos d' i hi, getElem!_pos d' j hj] at h1
      simp only [ltOf, decide_eq_false_iff_not] at h1
      simp only [List.getElem_map, Array.getElem_toList]
      have := ordT_turn _ _ (known_check d'[i].2.2) (known_check d'[j].2.2)
      unfold leT
      omega
  · intro i e hi q v hq
    rw [List.getElem?_map] at hi
    obtain ⟨x, hx, rfl⟩ := Option.map_eq_some_iff.1 hi
    have hil : i < d'.size := by have := (List.getElem?_eq_some_iff.1 hx).1; simpa using this
    have hxi : d'[i]! = x := by
      rw [getElem!_pos d' i hil]
      have := (List.getElem?_eq_some_iff.1 hx).2
      simpa using this
    have hq6 : q < 6 := by have := (List.getElem?_eq_some_iff.1 hq).1; simpa [Ent.cells] using this
    have h := (Go.Sort.HoldsK.cell hH' hil hq6).1
    rw [hxi, Nat.zero_add] at h
    rw [h]
    show some (x.1.cells[q]!) = some v
    rw [List.getElem!_eq_getElem?_getD, hq]; rfl
  · refine ⟨fun e h => ?_, hpe.symm.pairwise he.ap fun h => Ent.apart_symm h⟩
    have o := he.ok e (hpe.subset h)
    exact o.keep (fun b h1 h2 => sw_block _ _ _ _ _ _ _ _ (fun e => by have := o.row g rfl; omega) (Nat.lt_of_lt_of_le h2 o.upto)) (sw_size _ _ _ _ _ _ _ _) (.inl rfl)
  · exact ⟨rfl, rfl, rfl, sw_size _ _ _ _ _ _ _ _, fun k hk => sw_block _ _ _ _ _ _ _ _ (by omega) (by omega)⟩
end Go.Proofs.YtbpmhgcjefpigaaGreatDoor

namespace Go.Proofs.YtbpmhgcjefpigaaGreatDoor
open Go.RowKit Go.Shelf Go.WideShapes Go.Lib
set_option linter.unusedVariables false
set_option linter.unusedSimpArgs false

theorem Ents.mono {A A' : Nat} {g : Option Nat} {w : World} {es : List Ent} (h : Ents A g w es) (ha : A' ≤ A) : Ents A' g w es := ⟨fun e he => ⟨(h.ok e he).lies, Nat.le_trans ha (h.ok e he).start, (h.ok e he).le, (h.ok e he).upto, (h.ok e he).row⟩, h.ap⟩
/-- Copies in a row that begins at la. -/
def CopyRow (A : Nat) (w : World) (la : Option Addr) (es : List Ent) : Prop := es = [] ∨ ∃ g, la = some ⟨g, 0, none⟩ ∧ A ≤ g ∧ g < w.heap.size ∧ RowAt g w es ∧ Ents A (some g) w es
theorem CopyRow.lies {A B : Nat} {w : World} {la : Option Addr} {es : List Ent} (h : CopyRow A w la es) (hB : w.heap.size ≤ B) : ListLies B w la (es.map Ent.t) := by
  rcases h with rfl | ⟨g, e, h1, h2, h3, h4⟩
  · exact .inl rfl
  · exact .inr ⟨g, 0, e, by omega, RowAt.kids (A := A) (o := some g) (fun j e he q v hv => by rw [Nat.zero_add]; exact h3 j e he q v hv) h4.ok hB⟩
theorem refused_not {ts : List Tree} (h : (ts.any fun t => checkN t != 0) = false) : ∀ t ∈ ts, checkN t = 0 := fun t ht => by
  have := List.any_eq_false.1 h t ht
  simpa using this
theorem refused_so {ts : List Tree} (h : (ts.any fun t => checkN t != 0) = true) : ¬ ∀ t ∈ ts, checkN t = 0 := fun hc => by
  obtain ⟨t, ht, h⟩ := List.any_eq_true.1 h
  simp [hc t ht] at h
theorem totalL_bound : ∀ {ts : List Tree}, (∀ t ∈ ts, t.total ≤ 2000) → Tree.totalL ts ≤ 2000 * ts.length
  | [], _ => by simp [Tree.totalL]
  | t :: r, h => by
    have h0 := h t (List.mem_cons_self ..)
    have h1 := totalL_bound (ts := r) fun u hu => h u (List.mem_cons_of_mem _ hu)
    simp only [Tree.totalL, List.length_cons]
    omega
theorem totalL_small {ts : List Tree} (h : ∀ t ∈ ts, t.total ≤ 2000) (hl : ts.length ≤ 60) : Tree.totalL ts ≤ 1000000 := by
  have := totalL_bound h
  omega
theorem totalL_apps : ∀ (a b : List Tree), Tree.totalL (a ++ b) = Tree.totalL a + Tree.totalL b
  | [], b => by simp [Tree.totalL]
  | t :: r, b => by simp only [List.cons_append, Tree.totalL, totalL_apps r b]; omega
theorem totalL_turned : ∀ (ts : List Tree), Tree.totalL ts.reverse = Tree.totalL ts
  | [] => rfl
  | t :: r => by rw [List.reverse_cons, totalL_apps, totalL_turned r]; simp only [Tree.totalL]; omega
/-- What Sorted answers. -/
def SortedTo (ts : List Tree) (A : Nat) (e : Ending) (w' : World) : Prop :=
  ((∀ t ∈ ts, checkN t = 0) ∧ ∃ la lc es, e = .returned (.slice la ts.length lc) ∧ (ts.length ≤ lc ∧ lc ≤ maxLen) ∧ es.map Ent.t = srtL ts ∧ CopyRow A w' la es) ∨ ((¬ ∀ t ∈ ts, checkN t = 0) ∧ e = .returned (.slice none 0 0))

set_option maxRecDepth 100000 in
set_option maxHeartbeats 2000000 in
theorem sorted_any (ts : List Tree) (B : Nat) (la : Option Addr) (lc : Nat) (w : World) (hB : B ≤ w.heap.size) (hl : ListLies B w la ts) (h1 : ts.length ≤ lc) (h2 : lc ≤ maxLen) (htot : Tree.totalL ts ≤ 1000000) (hT : Tabs w) (hm : ∀ t ∈ ts, Modest t) :
    Calls Tryz.prog 46 #[.slice la ts.length lc] w fun e w' => SortedTo ts w.heap.size e w' ∧ Below w.heap.size w w' := by
  have HR := hidE (refused_any ts B la lc w hB hl h1 h2 hT hm)
  obtain ⟨r, hr⟩ : ∃ r, (ts.any fun t => checkN t != 0) = r := ⟨_, rfl⟩
  rw [hr] at HR
  have h2' := h2
  unfold maxLen at h2'
  cases r with
  | true =>
    have HBAD := hidE (refused_so hr)
    clear hr hl hT hm htot h2
    go_enter Tryz.func46, Tryz.ntmps46
    go_wp2_with fail
    refine HR.out.mono ?_
    rintro e w1 ⟨rfl, hb1⟩
    have HB1 := hidE hb1
    clear hb1
    go_wp2_with fail
    go_ret
    exact ⟨.inr ⟨HBAD.out, rfl⟩, HB1.out⟩
  | false =>
    have HOK := hidE (refused_not hr)
    cases la with
    | none =>
      have h0 : ts = [] := hl.elim id fun ⟨bl, off, e, _⟩ => by cases e
      subst h0
      clear hr hl hT hm htot h2
      go_enter Tryz.func46, Tryz.ntmps46
      go_wp2_with fail
      refine HR.out.mono ?_
      rintro e w1 ⟨rfl, hb1⟩
      have HB1 := hidE hb1
      clear hb1
      go_wp2_with fail
      refine (copies_nil 0 lc w1).mono ?_
      rintro e w2 ⟨rfl, rfl⟩
      go_wp2_with fail
      refine (Tryz.slices_SortFunc_none85 none 0 _ w2).mono ?_
      rintro e w3 ⟨rfl, rfl⟩
      go_wp2_with fail
      go_ret
      exact ⟨.inl ⟨HOK.out, none, 0, [], rfl, ⟨Nat.le_refl _, by unfold maxLen; omega⟩, rfl, .inl rfl⟩, HB1.out⟩
    | some a =>
      have HCP : Hid (∀ w1, Below w.heap.size w w1 → Calls Tryz.prog 61 #[.slice (some a) ts.length lc] w1 fun e w' => ∃ es, e = .returned (.slice (some ⟨w1.heap.size, 0, none⟩) ts.length ts.length) ∧ CopAt w1.heap.size w' ts es ∧ Room w' w1.heap.size ts.length ∧ w1.heap.size < w'.heap.size ∧ Below w1.heap.size w1 w') := fun w1 hb =>
        copies_someO ts (fun t _ => copy_anyF t) B a lc w1 (Nat.le_trans hB hb.size) (hl.below (hb.mono hB)) h1 h2 htot
      have HLEN : Hid (ts.length ≤ 1000000) := by have := totalL_len ts; show _ ≤ _; omega
      clear hr hl hT hm htot h2
      go_enter Tryz.func46, Tryz.ntmps46
      go_wp2_with fail
      refine HR.out.mono ?_
      rintro e w1 ⟨rfl, hb1⟩
      have HB1 := hidE hb1
      clear hb1
      go_wp2_with fail
      refine (HCP.out w1 HB1.out).mono ?_
      rintro e w2 ⟨es, rfl, hcop, hroom, hlt, hb2⟩
      have hel : es.length = ts.length := by have := congrArg List.length hcop.ts; simpa using this
      have HS := hidE (sort_row (cap := ts.length) (Nat.lt_succ_self _) hlt hcop.cells (by rw [hel]; exact hroom) hcop.ents (fun e he => HOK.out e.t (hcop.ts ▸ List.mem_map_of_mem he)) (by rw [hel]; exact HLEN.out))
      rw [hel] at HS
      have H2 := hidE (And.intro hcop (And.intro hlt hb2))
      clear hcop hroom hlt hb2
      go_wp2_with fail
      refine HS.out.mono ?_
      rintro e w3 ⟨es', rfl, hts, hrow, hents, hb3⟩
      have H3 := hidE (And.intro hts (And.intro hrow (And.intro hents hb3)))
      clear hts hrow hents hb3 HS
      go_wp2_with fail
      go_ret
      obtain ⟨hcop, hlt, hb2⟩ := H2.out
      obtain ⟨hts, hrow, hents, hb3⟩ := H3.out
      have hs1 := HB1.out.size
      refine ⟨.inl ⟨HOK.out, some ⟨w1.heap.size, 0, none⟩, ts.length, es', rfl, ⟨Nat.le_refl _, ?_⟩, by rw [hts, hcop.ts], .inr ⟨w1.heap.size, rfl, hs1, Nat.lt_of_lt_of_le hlt hb3.size, hrow, hents.mono (by omega)⟩⟩, (HB1.out.trans (hb2.mono hs1)).trans (hb3.mono hs1)⟩
      have := HLEN.out
      unfold maxLen; omega
end Go.Proofs.YtbpmhgcjefpigaaGreatDoor

namespace Go.Proofs.YtbpmhgcjefpigaaGreatDoor
open Go.RowKit Go.Shelf
set_option linter.unusedVariables false

attribute [local go_sem] Oper.semAt_some

/-- How deep the deepest of a row of values lies. -/
def deepL (l : List (Int × Tree)) : Int := (l.map fun x => x.1).foldl max 0
theorem deepL_snoc (l : List (Int × Tree)) (d : Int) (t : Tree) : deepL (l ++ [(d, t)]) = max (deepL l) d := by simp [deepL, List.foldl_append]
/-- What Size answers. -/
def sizeN (T : Tree) : Int := if checkN T = 0 then ((T.pre 1).length : Int) else 0
def sizeD (T : Tree) : Int := if checkN T = 0 then deepL (T.pre 1) else 0

set_option maxRecDepth 100000 in
set_option maxHeartbeats 1000000 in
theorem Size_any (v : Value) (T : Tree) (w : World) (hv : Lies w.heap.size w v T) (hT : Tabs w) (hh : T.height < 100000000) (hb : bytesOf (T.pre 1) < 4611686018427387904) (hlen : (T.pre 1).length < 1000000000) :
    Calls Tryz.prog 18 #[v] w fun e w' => e = .returned (.tuple #[.int .i64 (sizeN T), .int .i64 (sizeD T)]) ∧ Below w.heap.size w w' := by
  refine (callsIn_wide (n := 0)).1 ?_
  obtain ⟨F, hF⟩ : ∃ F, F = Fence.wide := ⟨_, rfl⟩
  rw [← hF]
  have hd : F.depth = none := by rw [hF]; rfl
  have hro : F.round = none := by rw [hF]; rfl
  have hfn : ∀ f, F.fn f := by rw [hF]; exact fun _ => trivial
  have HF : Hid (F = Fence.wide) := hF
  clear hF
  obtain ⟨k, b, n, s, ks, ts⟩ := T
  have hv0 := hv
  simp only [Lies] at hv
  obtain ⟨ka, kc, la, lc, rfl, ⟨hs1, hs2, hs3, hs4, hs5⟩, hk, ht⟩ := hv
  obtain ⟨W3, hW3⟩ : ∃ W3, ((w.alloc (.cells #[.int .i64 k, .bool b, .int .i64 n, .string s, .slice ka ks.length kc, .slice la ts.length lc] 26)).alloc (.cells #[.int .i64 0] 3)).alloc (.cells #[.int .i64 0] 3) = W3 := ⟨_, rfl⟩
  have hsz3 : W3.heap.size = w.heap.size + 3 := by rw [← hW3]; simp
  have p0 : W3.heap[w.heap.size]? = some (.cells #[.int .i64 k, .bool b, .int .i64 n, .string s, .slice ka ks.length kc, .slice la ts.length lc] 26 (0, 0)) := by rw [← hW3]; simp only [heap_alloc_at, World.size_alloc]; repeat (first | rw [if_pos trivial] | rw [if_pos (by omega)] | rw [if_neg (by omega)])
  have p1 : W3.heap[w.heap.size + 1]? = some (.cells #[.int .i64 0] 3 (0, 0)) := by rw [← hW3]; simp only [heap_alloc_at, World.size_alloc]; repeat (first | rw [if_pos trivial] | rw [if_pos (by omega)] | rw [if_neg (by omega)])
  have p2 : W3.heap[w.heap.size + 2]? = some (.cells #[.int .i64 0] 3 (0, 0)) := by rw [← hW3]; simp only [heap_alloc_at, World.size_alloc]; repeat (first | rw [if_pos trivial] | rw [if_pos (by omega)] | rw [if_neg (by omega)])
  have hb3 : Below w.heap.size w W3 := by rw [← hW3]; exact (((Below.refl _ w).alloc (Nat.le_refl _) _).alloc (by simp) _).alloc (by simp; omega) _
  have hck := check_any _ _ W3 ((hv0.below hb3).mono (by omega)) (hT.below hb3) hh hb
  have hco : ∀ (i : Nat) (v : Value), (#[Value.int .i64 k, .bool b, .int .i64 n, .string s, .slice ka ks.length kc, .slice la ts.length lc] : Array Value)[i]? = some v → ∀ (W : World) (bx : Nat), W.heap[bx]? = some (.cells #[.int .i64 k, .bool b, .int .i64 n, .string s, .slice ka ks.length kc, .slice la ts.length lc] 26 (0, 0)) → W.cell? ⟨bx, i, none⟩ = some v := by
    intro i v hi W bx hbx; unfold World.cell?; simp only [hbx]; simpa using hi
  have HW3 := hidE hW3
  clear hW3
  refine callsIn_of_wp_marks Tryz.func18 rfl (hfn _) ?_ hro
  simp only [Tryz.ntmps18, List.size_toArray, List.length_cons, List.length_nil, Nat.reduceAdd, Nat.reduceSub, Array.replicate_succ, Array.replicate_zero, List.push_toArray, List.append_toArray, List.nil_append, List.cons_append]
  gi_wp2_with fail
  rw [HW3.out]
  refine (in_wide HF.out hck).mono ?_
  rintro e W4 ⟨rfl, hb4⟩
  have q0 : W4.heap[w.heap.size]? = some (.cells #[.int .i64 k, .bool b, .int .i64 n, .string s, .slice ka ks.length kc, .slice la ts.length lc] 26 (0, 0)) := (hb4.block _ (by omega)).trans p0
  have q1 : Boxed W4 (w.heap.size + 1) 3 (.int .i64 0) := (hb4.block _ (by omega)).trans p1
  have q2 : Boxed W4 (w.heap.size + 2) 3 (.int .i64 0) := (hb4.block _ (by omega)).trans p2
  have hbw4 : Below w.heap.size w W4 := hb3.trans (hb4.mono (by omega))
  have hsz4 := hb4.size
  clear hck hb4 p0 p1 p2 hb3 HW3
  have c1 := q1.cell
  have f1 := q1.frozen
  have c2 := q2.cell
  have f2 := q2.frozen
  obtain ⟨cn, hcn⟩ : ∃ x, checkN (.mk k b n s ks ts) = x := ⟨_, rfl⟩
  rw [hcn]
  by_cases hc : cn = 0
  · have hc' : (cn != 0) = false := by simp [hc]
    have x0 := hco 0 _ rfl _ _ q0
    have x1 := hco 1 _ rfl _ _ q0
    have x2 := hco 2 _ rfl _ _ q0
    have x3 := hco 3 _ rfl _ _ q0
    have x4 := hco 4 _ rfl _ _ q0
    have x5 := hco 5 _ rfl _ _ q0
    have HN : Hid (sizeN (.mk k b n s ks ts) = ((Tree.mk k b n s ks ts).pre 1).length ∧ sizeD (.mk k b n s ks ts) = deepL ((Tree.mk k b n s ks ts).pre 1)) := by
      unfold sizeN sizeD; rw [hcn, if_pos hc, if_pos hc]; exact ⟨rfl, rfl⟩
    clear hcn hc
    gi_wp2_with (gi_at_call 59; refine (within_any (hfn _) hro _ _ _ _ _ _ _ _ _ _ _ _).mono ?_; rintro e w' ⟨rfl, rfl⟩)
    refine range_wp hro hd (gf := 87) (lb := #[.pointer (some ⟨W4.heap.size, 0, none⟩)]) rfl (hfn _) (enters_of Tryz.func87 (by kernel_rfl) rfl) ?_
    intro fn hfn0
    generalize hrec : Loop.mk _ _ _ _ _ _ _ _ = rec
    simp only [World.size_alloc]
    generalize hW0 : World.alloc _ (Obj.loop rec) = W0
    have hsz : W0.heap.size = W4.heap.size + 3 := by rw [← hW0]; simp
    have hW04 : ∀ i, i < W4.heap.size → W0.heap[i]? = W4.heap[i]? := fun i hi => by rw [← hW0, Below.heap_alloc _ _ _ (by simp; omega), Below.heap_alloc _ _ _ (by simp; omega), Below.heap_alloc _ _ _ hi]
    have b1 : W0.heap[w.heap.size + 1]? = some (.cells #[.int .i64 0] 3 (0, 0)) := (hW04 _ (by omega)).trans q1
    have b2 : W0.heap[w.heap.size + 2]? = some (.cells #[.int .i64 0] 3 (0, 0)) := (hW04 _ (by omega)).trans q2
    have b5 : W0.heap[W4.heap.size]? = some (.cells #[.int .i64 k, .bool b, .int .i64 n, .string s, .slice ka ks.length kc, .slice la ts.length lc] 26 (0, 0)) := by rw [← hW0]; simp only [heap_alloc_at, World.size_alloc]; repeat (first | rw [if_pos trivial] | rw [if_pos (by omega)] | rw [if_neg (by omega)])
    have b3 : W0.heap[W4.heap.size + 1]? = some (.deferred (some [])) := by rw [← hW0]; simp only [heap_alloc_at, World.size_alloc]; repeat (first | rw [if_pos trivial] | rw [if_pos (by omega)] | rw [if_neg (by omega)])
    have b4 : W0.heap[W4.heap.size + 2]? = some (.loop rec) := by rw [← hW0]; simp only [heap_alloc_at, World.size_alloc]; repeat (first | rw [if_pos trivial] | rw [if_pos (by omega)] | rw [if_neg (by omega)])
    have hbl : Below w.heap.size w W0 := by
      rw [← hW0]; exact ((hbw4.alloc (by omega) _).alloc (by simp; omega) _).alloc (by simp; omega) _
    clear hW0 hW04 q0 q1 q2 c1 f1 c2 f2 x0 x1 x2 x3 x4 x5 hbw4
    generalize hg4 : W4.heap.size = g at *
    clear hg4
    have R : Rounds F (g + 2) w.heap.size (g + 3) w ((Tree.mk k b n s ks ts).pre 1)
        (fun pre W => W.heap[g + 2]? = some (.loop rec) ∧ W.heap[g + 1]? = some (.deferred (some [])) ∧ W.heap[w.heap.size + 1]? = some (.cells #[.int .i64 (pre.length : Int)] 3 (0, 0)) ∧
          W.heap[w.heap.size + 2]? = some (.cells #[.int .i64 (deepL pre)] 3 (0, 0)) ∧ Below w.heap.size w W ∧ g + 3 ≤ W.heap.size)
        (fun W => False)
        (fun _ _ => False) := by
      refine ⟨?_, ?_, ?_⟩
      · rintro pre W ⟨_, _, _, _, h4, h5⟩
        exact ⟨h4, by omega, h5⟩
      · rintro pre W W' ⟨h1, h2, h3, h3', h4, h5⟩ hb
        exact ⟨(hb.block _ (by omega)).trans h1, (hb.block _ (by omega)).trans h2, (hb.block _ (by omega)).trans h3, (hb.block _ (by omega)).trans h3', h4.trans (hb.mono (by omega)), by have := hb.size; omega⟩
      · rintro m' pre d ⟨k', b', n', s', ks', us⟩ v W ⟨h1, h2, h3, h3', h4, h5⟩ hlv hpre
        simp only [Lies] at hlv
        obtain ⟨ka', kc', la', lc', rfl, ⟨g1, g2, g3, g4, g5⟩, hk', ht'⟩ := hlv
        have hpl : pre.length < 1000000000 := by
          obtain ⟨r, hr⟩ := hpre
          have := congrArg List.length hr
          simp only [List.length_append] at this
          omega
        have ea := congrArg Loop.assign hrec
        have eb := congrArg Loop.body hrec
        have et := congrArg Loop.tmps hrec
        have ep := congrArg Loop.params hrec
        have es := congrArg Loop.state hrec
        have ef := congrArg Loop.fn hrec
        have hr0 : asReady rec = rec := by rw [← hrec]; rfl
        dsimp only at ea eb et ep es ef
        clear hrec
        refine yield_round (hfn _) ea eb et ep h1 es.symm (by rw [← ep]; rfl) ?_
        clear ea eb et ep es
        gi_wp2_with fail
        refine ⟨h1, ?_⟩
        generalize hW2 : World.putObj _ _ _ = W2
        have a1 : W2.heap[g + 2]? = some (.loop (asBusy rec)) := by rw [← hW2]; exact World.putObj_heap_same (by omega)
        have a2 : Boxed W2 (w.heap.size + 1) 3 (.int .i64 (pre.length : Int)) := by rw [← hW2]; show _ = _; rw [World.putObj_heap_other (by omega)]; exact h3
        have a2' : Boxed W2 (w.heap.size + 2) 3 (.int .i64 (deepL pre)) := by rw [← hW2]; show _ = _; rw [World.putObj_heap_other (by omega)]; exact h3'
        have a3 : W2.heap[g + 1]? = some (.deferred (some [])) := by rw [← hW2, World.putObj_heap_other (by omega)]; exact h2
        have a5 : Below w.heap.size w W2 := by rw [← hW2]; exact (But.putObj _ _).below h4 (by omega)
        have a6 : W2.heap.size = W.heap.size := by rw [← hW2]; simp
        have a7 : Above (g + 3) W W2 := ⟨by omega, fun i hi hl => by rw [← hW2]; exact World.putObj_heap_other (by omega)⟩
        clear hW2 h1 h2 h3 h3'
        have cb := a2.cell
        have fb := a2.frozen
        have cd := a2'.cell
        have fd := a2'.frozen
        have HD := hidE (deepL_snoc pre d (.mk k' b' n' s' ks' us))
        gi_wp2_with fail
        generalize hV1 : W2.setCell ⟨w.heap.size + 1, 0, none⟩ (.int .i64 ((pre.length : Int) + 1)) = V1
        have k1 : Boxed V1 (w.heap.size + 1) 3 (.int .i64 ((pre.length : Int) + 1)) := hV1 ▸ a2.set _
        have k2 : ∀ i, i ≠ w.heap.size + 1 → V1.heap[i]? = W2.heap[i]? := fun i hi => hV1 ▸ Below.heap_setCell _ _ _ _ (by show i ≠ w.heap.size + 1; exact hi)
        have k3 : V1.heap.size = W2.heap.size := by rw [← hV1]; simp [World.setCell]
        have k4 : Below w.heap.size w V1 := hV1 ▸ a5.setCell (p := ⟨w.heap.size + 1, 0, none⟩) (by show _ ≤ w.heap.size + 1; omega) _
        have k5 : Boxed V1 (w.heap.size + 2) 3 (.int .i64 (deepL pre)) := (k2 _ (by omega)).trans a2'
        clear hV1
        generalize hV2 : V1.setCell ⟨w.heap.size + 1 + 1, 0, none⟩ (.int .i64 (max (deepL pre) d)) = V2
        have l1 : Boxed V2 (w.heap.size + 2) 3 (.int .i64 (max (deepL pre) d)) := hV2 ▸ k5.set _
        have l2 : ∀ i, i ≠ w.heap.size + 2 → V2.heap[i]? = V1.heap[i]? := fun i hi => hV2 ▸ Below.heap_setCell _ _ _ _ (by show i ≠ w.heap.size + 2; exact hi)
        have l3 : V2.heap.size = V1.heap.size := by rw [← hV2]; simp [World.setCell]
        have l4 : Below w.heap.size w V2 := hV2 ▸ k4.setCell (p := ⟨w.heap.size + 1 + 1, 0, none⟩) (by show _ ≤ w.heap.size + 1 + 1; omega) _
        have l5 : Boxed V2 (w.heap.size + 1) 3 (.int .i64 ((pre.length : Int) + 1)) := (l2 _ (by omega)).trans k1
        clear hV2
        refine ⟨(l2 _ (by omega)).trans ((k2 _ (by omega)).trans a1), .inl ⟨rfl, ⟨?_, ?_, ?_, ?_, ?_, ?_⟩, ?_⟩⟩
        · rw [hr0]; exact World.putObj_heap_same (by omega)
        · rw [World.putObj_heap_other (by omega)]; exact (l2 _ (by omega)).trans ((k2 _ (by omega)).trans a3)
        · rw [World.putObj_heap_other (by omega), List.length_append]; exact l5
        · rw [World.putObj_heap_other (by omega), HD.out]; exact l1
        · exact (But.putObj _ _).below l4 (by omega)
        · rw [World.putObj_size]; omega
        · refine a7.trans ⟨by rw [World.putObj_size]; omega, fun i hi hl => ?_⟩
          rw [World.putObj_heap_other (by omega)]; exact (l2 _ (by omega)).trans (k2 _ (by omega))
    refine (within1_any hd (hfn _) (hfn _) hro R _ g W0 hv0 ⟨b4, b3, b1, b2, hbl, by omega⟩ (by simp only [Tree.height] at hh; omega)
      (hco 0 _ rfl _ _ b5) (hco 1 _ rfl _ _ b5) (hco 2 _ rfl _ _ b5) (hco 3 _ rfl _ _ b5) (hco 4 _ rfl _ _ b5) (hco 5 _ rfl _ _ b5)).mono ?_
    rintro e W' (⟨⟨x, rfl⟩, ⟨h1, h2, h3, h3', h4, h5⟩ | hx⟩ | ⟨ch, _, hx⟩)
    · have hp : rec.pending = none := by rw [← hrec]
      have hst : rec.state ≠ .busy := by rw [← hrec]; simp
      clear hrec R b1 b2 b3 b4 b5 hbl hsz hco
      refine ⟨rec, h1, hst, ?_⟩
      simp only [hp]
      generalize hW5 : World.putObj _ _ _ = W5
      have d1 : Boxed W5 (w.heap.size + 1) 3 (.int .i64 (((Tree.mk k b n s ks ts).pre 1).length : Int)) := by rw [← hW5]; show _ = _; rw [World.putObj_heap_other (by omega)]; exact h3
      have d2 : Boxed W5 (w.heap.size + 2) 3 (.int .i64 (deepL ((Tree.mk k b n s ks ts).pre 1))) := by rw [← hW5]; show _ = _; rw [World.putObj_heap_other (by omega)]; exact h3'
      have hg5 : g + 3 ≤ W5.heap.size := by rw [← hW5, World.putObj_size]; exact h5
      have d3 : W5.heap[g + 1]? = some (.deferred (some [])) := by rw [← hW5, World.putObj_heap_other (by omega)]; exact h2
      have d4 : Below w.heap.size w W5 := by rw [← hW5]; exact (But.putObj _ _).below h4 (by omega)
      clear hW5 h1 h2 h3 h3' h4 hst hp
      generalize hpl : (((Tree.mk k b n s ks ts).pre 1).length : Int) = pl at *
      generalize hdl : deepL ((Tree.mk k b n s ks ts).pre 1) = dl at *
      have cb := d1.cell
      have fb := d1.frozen
      have cd := d2.cell
      have fd := d2.frozen
      clear hpl hdl
      have hmx : Tryz.prog.follows .mixedOrders = true := by kernel_rfl
      have HV : Hid (∀ V, V = ((W5.setCell ⟨w.heap.size + 1, 0, none⟩ (.int .i64 pl)).setCell ⟨w.heap.size + 1 + 1, 0, none⟩ (.int .i64 dl)).drew → V.heap[g + 1]? = some (.deferred (some [])) ∧ Below w.heap.size w (V.putObj (g + 1) (.deferred none)) ∧
          (V.putObj (g + 1) (.deferred none)).cell? ⟨w.heap.size + 1, 0, none⟩ = some (.int .i64 pl) ∧ (V.putObj (g + 1) (.deferred none)).cell? ⟨w.heap.size + 1 + 1, 0, none⟩ = some (.int .i64 dl)) := by
        rintro V rfl
        generalize hV1 : W5.setCell ⟨w.heap.size + 1, 0, none⟩ (.int .i64 pl) = V1
        have k1 : Boxed V1 (w.heap.size + 1) 3 (.int .i64 pl) := hV1 ▸ d1.set _
        have k2 : ∀ i, i ≠ w.heap.size + 1 → V1.heap[i]? = W5.heap[i]? := fun i hi => hV1 ▸ Below.heap_setCell _ _ _ _ (by show i ≠ w.heap.size + 1; exact hi)
        have k4 : Below w.heap.size w V1 := hV1 ▸ d4.setCell (p := ⟨w.heap.size + 1, 0, none⟩) (by show _ ≤ w.heap.size + 1; omega) _
        have k5 : Boxed V1 (w.heap.size + 2) 3 (.int .i64 dl) := (k2 _ (by omega)).trans d2
        clear hV1
        generalize hV2 : V1.setCell ⟨w.heap.size + 1 + 1, 0, none⟩ (.int .i64 dl) = V2
        have l1 : Boxed V2 (w.heap.size + 2) 3 (.int .i64 dl) := hV2 ▸ k5.set _
        have l2 : ∀ i, i ≠ w.heap.size + 2 → V2.heap[i]? = V1.heap[i]? := fun i hi => hV2 ▸ Below.heap_setCell _ _ _ _ (by show i ≠ w.heap.size + 2; exact hi)
        have l4 : Below w.heap.size w V2 := hV2 ▸ k4.setCell (p := ⟨w.heap.size + 1 + 1, 0, none⟩) (by show _ ≤ w.heap.size + 1 + 1; omega) _
        have l5 : Boxed V2 (w.heap.size + 1) 3 (.int .i64 pl) := (l2 _ (by omega)).trans k1
        clear hV2
        have m1 : Boxed (V2.drew.putObj (g + 1) (.deferred none)) (w.heap.size + 1) 3 (.int .i64 pl) := (World.putObj_heap_other (by omega)).trans l5
        have m2 : Boxed (V2.drew.putObj (g + 1) (.deferred none)) (w.heap.size + 2) 3 (.int .i64 dl) := (World.putObj_heap_other (by omega)).trans l1
        exact ⟨(l2 _ (by omega)).trans ((k2 _ (by omega)).trans d3), (But.putObj _ _).below l4.drew (by omega), m1.cell, m2.cell⟩
      gi_wp2_with fail
      gi_region_o
      all_goals
        gi_wp2_with fail
        obtain ⟨z0, z3, z1, z2⟩ := HV.out _ rfl
        show LeavesInM _ _ _ _ _ _ [_] .returning _
        refine ⟨by simp, .inl ⟨_, _, rfl, run_takeDeferred z0, ?_⟩⟩
        refine ⟨.tuple #[.int .i64 pl, .int .i64 dl], ?_, by rw [HN.out.1, HN.out.2], z3⟩
        simp [results, Tryz.results18, go_sem, z1, z2]
    · exact hx.elim
    · exact hx.elim
  · have hc' : (cn != 0) = true := by simp [hc]
    have HN : Hid (sizeN (.mk k b n s ks ts) = 0 ∧ sizeD (.mk k b n s ks ts) = 0) := by
      unfold sizeN sizeD; rw [hcn, if_neg hc, if_neg hc]; exact ⟨rfl, rfl⟩
    clear hcn hc
    gi_wp2_with fail
    generalize hV1 : W4.setCell ⟨w.heap.size + 1, 0, none⟩ (.int .i64 0) = V1
    have k1 : Boxed V1 (w.heap.size + 1) 3 (.int .i64 0) := hV1 ▸ q1.set _
    have k2 : ∀ i, i ≠ w.heap.size + 1 → V1.heap[i]? = W4.heap[i]? := fun i hi => hV1 ▸ Below.heap_setCell _ _ _ _ (by show i ≠ w.heap.size + 1; exact hi)
    have k4 : Below w.heap.size w V1 := hV1 ▸ hbw4.setCell (p := ⟨w.heap.size + 1, 0, none⟩) (by show _ ≤ w.heap.size + 1; omega) _
    have k5 : Boxed V1 (w.heap.size + 2) 3 (.int .i64 0) := (k2 _ (by omega)).trans q2
    generalize hV2 : V1.setCell ⟨w.heap.size + 1 + 1, 0, none⟩ (.int .i64 0) = V2
    have l1 : Boxed V2 (w.heap.size + 2) 3 (.int .i64 0) := hV2 ▸ k5.set _
    have l2 : ∀ i, i ≠ w.heap.size + 2 → V2.heap[i]? = V1.heap[i]? := fun i hi => hV2 ▸ Below.heap_setCell _ _ _ _ (by show i ≠ w.heap.size + 2; exact hi)
    have l4 : Below w.heap.size w V2 := hV2 ▸ k4.setCell (p := ⟨w.heap.size + 1 + 1, 0, none⟩) (by show _ ≤ w.heap.size + 1 + 1; omega) _
    have l5 : Boxed V2 (w.heap.size + 1) 3 (.int .i64 0) := (l2 _ (by omega)).trans k1
    have z1 := l5.cell
    have z2 : V2.cell? ⟨w.heap.size + 1 + 1, 0, none⟩ = some (.int .i64 0) := l1.cell
    refine ⟨.tuple #[.int .i64 0, .int .i64 0], ?_, by rw [HN.out.1, HN.out.2], l4⟩
    simp [results, Tryz.results18, go_sem, z1, z2]
end Go.Proofs.YtbpmhgcjefpigaaGreatDoor

