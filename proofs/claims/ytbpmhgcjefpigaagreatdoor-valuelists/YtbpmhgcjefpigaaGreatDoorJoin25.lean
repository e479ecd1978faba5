/- Values in order: there is one way to put them so. slices.SortFunc of copies in a row, by their order. -/
import Derived.Test.YtbpmhgcjefpigaaGreatDoorRsort
import Derived.Test.YtbpmhgcjefpigaaGreatDoorJoin20
import Derived.Test.YtbpmhgcjefpigaaGreatDoorJoin21
namespace Go.Proofs.YtbpmhgcjefpigaaGreatDoor
open Go.RowKit Go.Shelf Go.WideShapes Go.Lib
set_option linter.unusedVariables false
def leT (a b : Tree) : Prop := ordT a b ≤ 0
theorem leT_trans {a b c : Tree} (ha : Known a) (hb : Known b) (hc : Known c) (h1 : leT a b) (h2 : leT b c) : leT a c := by
 unfold leT at *
 have h3 := ordT_three a b
 have h4 := ordT_three b c
 obtain ⟨h5, h6, h7⟩ := ordT_leads a b c ha hb hc
 unfold Three at h3 h4
 rcases h3 with e | e | e <;> rcases h4 with f | f | f <;> first | omega | (have := h5 e; omega) | (have := h6 f; omega) | (have := h7 (by omega); omega)
theorem leT_other {a b : Tree} (ha : Known a) (hb : Known b) (h : ¬ leT a b) : leT b a := by
 unfold leT at *
 have := ordT_turn a b ha hb
 omega
theorem leT_one {a b : Tree} (ha : checkN a = 0) (hb : checkN b = 0) (h : leT a b) (k : leT b a) : a = b := by
 unfold leT at *
 have := ordT_turn a b (known_check ha) (known_check hb)
 exact ord_one a (may_zero0 ha) b (may_zero0 hb) (by omega)
theorem insT_cons (u : Tree) (out : List Tree) (t : Tree) : insT (u :: out) t = if ordT u t ≤ 0 then u :: insT out t else t :: u :: out := by
 unfold insT upN
 rw [List.takeWhile_cons]
 by_cases h : ordT u t ≤ 0
 ·simp [h]
 ·simp [h]
theorem insT_perm (t : Tree) : ∀ (out : List Tree), (insT out t).Perm (t :: out)
 | [] => by simp [insT, upN]
 | u :: out => by
  rw [insT_cons]
  split
  ·exact ((insT_perm t out).cons u).trans (.swap t u out)
  ·exact .refl _
theorem insT_sorted {t : Tree} (ht : Known t) : ∀ {out : List Tree}, (∀ u ∈ out, Known u) → out.Pairwise leT → (insT out t).Pairwise leT
 | [], _, _ => by simp [insT, upN]
 | u :: out, hk, h => by
  rw [insT_cons]
  have hu := hk u (List.mem_cons_self ..)
  obtain ⟨h1, h2⟩ := List.pairwise_cons.1 h
  split
  ·rename_i hle
   refine List.pairwise_cons.2 ⟨fun x hx => ?_, insT_sorted ht (fun x hx => hk x (List.mem_cons_of_mem _ hx)) h2⟩
   rcases insT_mem hx with g | g
   ·exact h1 x g
   ·exact g ▸ hle
  ·rename_i hle
   refine List.pairwise_cons.2 ⟨fun x hx => ?_, h⟩
   have h0 := leT_other hu ht hle
   rcases List.mem_cons.1 hx with g | g
   ·exact g ▸ h0
   ·exact leT_trans ht hu (hk x hx) h0 (h1 x g)
theorem fold_perm : ∀ (ts acc : List Tree), (ts.foldl insT acc).Perm (ts ++ acc)
 | [], acc => .refl _
 | t :: r, acc => by
  rw [List.foldl_cons]
  exact (fold_perm r (insT acc t)).trans (((insT_perm t acc).append_left r).trans (List.perm_middle))
theorem srtL_perm (ts : List Tree) : (srtL ts).Perm ts := by
 have := fold_perm ts []
 rwa [List.append_nil] at this
theorem fold_sorted : ∀ (ts acc : List Tree), (∀ t ∈ ts, Known t) → (∀ t ∈ acc, Known t) → acc.Pairwise leT → (ts.foldl insT acc).Pairwise leT
 | [], acc, _, _, h => h
 | t :: r, acc, h1, h2, h => by
  rw [List.foldl_cons]
  have ht := h1 t (List.mem_cons_self ..)
  refine fold_sorted r _ (fun x hx => h1 x (List.mem_cons_of_mem _ hx)) (fun x hx => ?_) (insT_sorted ht h2 h)
  rcases insT_mem hx with g | g
  ·exact h2 x g
  ·exact g ▸ ht
theorem srtL_sorted {ts : List Tree} (h : ∀ t ∈ ts, Known t) : (srtL ts).Pairwise leT := fold_sorted ts [] h (by simp) .nil
theorem srtL_one {ts us : List Tree} (h : ∀ t ∈ ts, checkN t = 0) (hp : us.Perm ts) (hs : us.Pairwise leT) : us = srtL ts :=
 List.Perm.eq_of_pairwise (fun a b ha hb h1 h2 => leT_one (h a (hp.subset ha)) (h b ((srtL_perm ts).subset hb)) h1 h2) hs (srtL_sorted fun t ht => known_check (h t ht)) (hp.trans (srtL_perm ts).symm)
theorem srtL_length (ts : List Tree) : (srtL ts).length = ts.length := (srtL_perm ts).length_eq
end Go.Proofs.YtbpmhgcjefpigaaGreatDoor

namespace Go.Proofs.YtbpmhgcjefpigaaGreatDoor
open Go.RowKit Go.Shelf Go.WideShapes Go.Lib
set_option linter.unusedVariables false
set_option linter.unusedSimpArgs false
section
variable {α : Type} [Inhabited α]
theorem sw_block (enc : α → List Value) (k : Nat) (w : World) (blk off m : Nat) (dk : Array α) (os : Array Obj) {q : Nat} (h : q ≠ blk) (hq : q < w.heap.size) : (sortWorldK enc k w blk off m dk os).heap[q]? = w.heap[q]? := by
 unfold sortWorldK
 rw [Go.Sort.heap_grow_old _ _ (by rw [Go.Sort.putRowK, Go.Sort.size_putRow]; exact hq)]
 unfold Go.Sort.putRowK Go.Sort.putRow Go.Sort.mapBlock
 simp only [Array.getElem?_modify]
 rw [if_neg (fun e => h e.symm)]
 rfl
theorem sw_size (enc : α → List Value) (k : Nat) (w : World) (blk off m : Nat) (dk : Array α) (os : Array Obj) : w.heap.size ≤ (sortWorldK enc k w blk off m dk os).heap.size := size_sortWorldK_c enc k w blk off m dk os
end
def Good (A g : Nat) (w : World) (e : Ent) : Prop := EntOk A (some g) w e ∧ checkN e.t = 0
abbrev EntT (A g : Nat) (w : World) := {e : Ent // Good A g w e}
def nullE (A : Nat) : Ent := ⟨.int .i64 0, .bool false, .int .i64 0, .string ⟨#[]⟩, .slice none 0 0, .slice none 0 0, .mk 0 false 0 ⟨#[]⟩ [] [], A, A⟩
theorem null_check : checkN (.mk 0 false 0 ⟨#[]⟩ [] []) = 0 := by decide +kernel
theorem nullE_good {A g : Nat} {w : World} (h1 : g < A) (h2 : A ≤ w.heap.size) : Good A g w (nullE A) := by
 refine ⟨⟨?_, Nat.le_refl _, Nat.le_refl _, h2, fun q hq => .inl ?_⟩, null_check⟩
 ·simp only [nullE, Ent.val, LiesF]
  exact ⟨none, 0, none, 0, rfl, ⟨by decide, Nat.le_refl _, by decide, Nat.le_refl _, by decide⟩, .inl rfl, .inl trivial⟩
 ·simp only [Option.some.injEq] at hq
  show q < A
  omega
theorem lies_cells {lo hi : Nat} {w : World} {e : Ent} (h : LiesF lo hi w e.val e.t) : ∀ v ∈ e.cells, v.oneCell' = true := by
 obtain ⟨c0, c1, c2, c3, c4, c5, ⟨k, b, n, s, ks, ts⟩, l, u⟩ := e
 simp only [Ent.val, LiesF] at h
 obtain ⟨ka, kc, la, lc, hv, -⟩ := h
 simp only [Value.agg.injEq, Array.mk.injEq, List.cons.injEq, and_true] at hv
 obtain ⟨rfl, rfl, rfl, rfl, rfl, rfl⟩ := hv
 intro v hv
 simp only [Ent.cells, List.mem_cons, List.not_mem_nil, or_false] at hv
 rcases hv with rfl | rfl | rfl | rfl | rfl | rfl <;> rfl
theorem swo_ord {A g : Nat} {w : World} : Go.Sort.SWO (ltOf fun x y : EntT A g w => ordT x.1.t y.1.t) := by
 refine ⟨fun x => ?_, fun x y z h1 h2 => ?_, fun x y z h1 h2 => ?_⟩
 ·show decide (ordT x.1.t x.1.t < 0) = false
  rw [ordT_self _ (known_check x.2.2)]; rfl
 ·simp only [ltOf, decide_eq_true_eq] at h1 h2 ⊢
  obtain ⟨h5, h6, h7⟩ := ordT_leads x.1.t y.1.t z.1.t (known_check x.2.2) (known_check y.2.2) (known_check z.2.2)
  have h3 := ordT_three x.1.t y.1.t
  have h4 := ordT_three y.1.t z.1.t
  unfold Three at h3 h4
  have := h7 (by omega)
  omega
 ·simp only [ltOf, decide_eq_false_iff_not] at h1 h2 ⊢
  obtain ⟨h5, h6, h7⟩ := ordT_leads x.1.t y.1.t z.1.t (known_check x.2.2) (known_check y.2.2) (known_check z.2.2)
  have h3 := ordT_three x.1.t y.1.t
  have h4 := ordT_three y.1.t z.1.t
  unfold Three at h3 h4
  by_cases e : ordT x.1.t y.1.t = 0
  ·rw [h5 e]; exact h2
  ·by_cases f : ordT y.1.t z.1.t = 0
   ·rw [h6 f]; exact h1
   ·rw [h7 (by omega)]; exact h1
set_option maxHeartbeats 1000000 in
theorem sort_row {A g : Nat} {w : World} {es : List Ent} {cap : Nat} (hg : g < A) (hA : A ≤ w.heap.size) (hr : RowAt g w es) (hrm : Room w g es.length) (he : Ents A (some g) w es) (hc : ∀ e ∈ es, checkN e.t = 0) (hsz : es.length ≤ 1000000) :
  Calls Tryz.prog 85 #[.slice (some ⟨g, 0, none⟩) es.length cap, .func (.func 71) #[] #[]] w fun e w' => ∃ es', e = .returned (.tuple #[]) ∧ es'.map Ent.t = srtL (es.map Ent.t) ∧ RowAt g w' es' ∧ Ents A (some g) w' es' ∧ Below g w w' := by
 haveI : Inhabited (EntT A g w) := ⟨⟨nullE A, nullE_good hg hA⟩⟩
 have hgood : ∀ e ∈ es, Good A g w e := fun e h => ⟨he.ok e h, hc e h⟩
 obtain ⟨d, hd⟩ : ∃ d : Array (EntT A g w), d.toList.map Subtype.val = es := ⟨(es.attach.map fun e => (⟨e.1, hgood e.1 e.2⟩ : EntT A g w)).toArray, by simp [List.map_map, Function.comp_def]⟩
 have hds : d.size = es.length := by rw [← hd]; simp
 have hget : ∀ i, i < d.size → es[i]? = some (d[i]!).1 := fun i hi => by
  rw [← hd, List.getElem?_map, getElem!_pos d i hi]
  simp [hi]
 have hH : Go.Sort.HoldsK (fun e : EntT A g w => e.1.cells) 6 w g 0 d := by
  intro t ht
  rw [Go.Sort.size_flatK] at ht
  rw [Go.Sort.get_flatK _ _ _ _ ht]
  have hi : t / 6 < d.size := by omega
  have hm : t % 6 < 6 := by omega
  have hc6 : ((d[t / 6]!).1.cells)[t % 6]? = some (((d[t / 6]!).1.cells)[t % 6]!) := by
   rw [List.getElem?_eq_getElem (by exact hm), List.getElem!_eq_getElem?_getD, List.getElem?_eq_getElem (by exact hm)]; rfl
  have h1 := hr (t / 6) _ (hget _ hi) (t % 6) _ hc6
  rw [show t / 6 * 6 + t % 6 = t by omega] at h1
  rw [Nat.zero_add]
  exact ⟨h1, (hrm t (by omega)).2⟩
 have hcmp : CmpLays Tryz.prog 71 #[] (fun e : EntT A g w => e.1.cells) 6 (fun x y => ordT x.1.t y.1.t) g 0 d.size w := by
  intro m os dk hdk x y
  have hl : ∀ z : EntT A g w, Lies (sortWorldK (fun e : EntT A g w => e.1.cells) 6 w g 0 m dk os).heap.size (sortWorldK (fun e : EntT A g w => e.1.cells) 6 w g 0 m dk os) (.agg (z.1.cells).toArray) z.1.t := fun z => by
   have o := z.2.1
   have := o.keep (w' := sortWorldK (fun e : EntT A g w => e.1.cells) 6 w g 0 m dk os) (g' := some g) (fun b h1 h2 => sw_block _ _ _ _ _ _ _ _ (fun e => by have := o.row g rfl; omega) (Nat.lt_of_lt_of_le h2 o.upto)) (sw_size _ _ _ _ _ _ _ _) (.inl rfl)
   exact (this.lies.mono (Nat.le_refl _) this.upto).lie
  rw [Array.append_empty]
  refine (order_anyD x.1.t _ _ _ y.1.t _ (Nat.le_refl _) (hl x) (hl y)).mono ?_
  rintro e w' ⟨rfl, hb, hdr⟩
  exact ⟨rfl, grow_of hb hdr⟩
 have S := AnyQ.slices_SortFunc Tryz.laysSlK6_f85 6 Tryz.isAgg26 Tryz.sizeOf26 (fun e : EntT A g w => e.1.cells) (fun _ => rfl) (fun x => lies_cells x.2.1.lies) (fun x y => ordT x.1.t y.1.t) swo_ord 71 #[] g 0 cap d w (enters_of Tryz.func71 (by kernel_rfl) rfl) hcmp hH (by omega) (by omega)
 rw [hds] at S
 refine Calls.mono (show Calls Tryz.prog 85 _ w _ from S) ?_
 rintro e w' ⟨rfl, d', m, os, hp, hs, rfl⟩
 have hsz' : d'.size = d.size := hp.1
 have hperm : d'.toList.Perm d.toList := by
  have := hp.2.2
  rw [show d'.extract 0 es.length = d' by rw [← hds, ← hsz']; simp, show d.extract 0 es.length = d by rw [← hds]; simp] at this
  exact this
 have hpe : (d'.toList.map Subtype.val).Perm es := hd ▸ hperm.map _
 have hH' := holdsK_sortWorldK_c (fun e : EntT A g w => e.1.cells) 6 w g 0 d d' m os hH (by omega) hsz'
 refine ⟨d'.toList.map Subtype.val, rfl, ?_, ?_, ?_, ?_⟩
 ·refine srtL_one (fun t ht => ?_) (hpe.map _) ?_
  ·obtain ⟨e, he, rfl⟩ := List.mem_map.1 ht
   exact hc e he
  ·rw [List.pairwise_iff_getElem]
   intro i j hi hj hij
   simp only [List.length_map, Array.length_toList] at hi hj
   have h1 := hs i j (Nat.zero_le _) hij (by omega)
   rw [getElem!_pos d' i hi, getElem!_pos d' j hj] at h1
   simp only [ltOf, decide_eq_false_iff_not] at h1
   simp only [List.getElem_map, Array.getElem_toList]
   have := ordT_turn _ _ (known_check d'[i].2.2) (known_check d'[j].2.2)
   unfold leT
   omega
 ·intro i e hi q v hq
  rw [List.getElem?_map] at hi
  obtain ⟨x, hx, rfl⟩ := Option.map_eq_some_iff.1 hi
  have hil : i < d'.size := by have := (List.getElem?_eq_some_iff.1 hx).1; simpa using this
  have hxi : d'[i]! = x := by
   rw [getElem!_pos d' i hil]
   have := (List.getElem?_eq_some_iff.1 hx).2
   simpa using this
  have hq6 : q < 6 := by have := (List.getElem?_eq_some_iff.1 hq).1; simpa [Ent.cells] using this
  have h := (Go.Sort.HoldsK.cell hH' hil hq6).1
  rw [hxi, Nat.zero_add] at h
  rw [h]
  show some (x.1.cells[q]!) = some v
  rw [List.getElem!_eq_getElem?_getD, hq]; rfl
 ·refine ⟨fun e h => ?_, hpe.symm.pairwise he.ap fun h => Ent.apart_symm h⟩
  have o := he.ok e (hpe.subset h)
  exact o.keep (fun b h1 h2 => sw_block _ _ _ _ _ _ _ _ (fun e => by have := o.row g rfl; omega) (Nat.lt_of_lt_of_le h2 o.upto)) (sw_size _ _ _ _ _ _ _ _) (.inl rfl)
 ·exact ⟨rfl, rfl, rfl, sw_size _ _ _ _ _ _ _ _, fun k hk => sw_block _ _ _ _ _ _ _ _ (by omega) (by omega)⟩
end Go.Proofs.YtbpmhgcjefpigaaGreatDoor

