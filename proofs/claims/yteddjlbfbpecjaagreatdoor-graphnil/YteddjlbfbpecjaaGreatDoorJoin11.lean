/- The numbers that a map has, in order. Whatever order a region draws, where its last operation comes behind all others and writes: facts about the values of the others, then the last one. -/
import Derived.Test.YteddjlbfbpecjaaGreatDoorJoin10
import Derived.Test.YteddjlbfbpecjaaGreatDoorShelf4
import Derived.Shelf.SlIterI.Nil
import Derived.Test.YteddjlbfbpecjaaGreatDoorWrites
namespace Go.Proofs.YteddjlbfbpecjaaGreatDoor
open Go.RowKit Go.Shelf Go.Maps Go.WideElems
set_option linter.unusedVariables false
set_option linter.unusedSimpArgs false
/-- What stands under a number does not matter here. -/
def RAny : Value → Option (DataW Unit × List MemPlace) := fun _ => some (.nil, [])
theorem mi_fit {ar : Array MapEntry} {clock : Nat} {es : List (Int × Value)} (h : ar.toList.map (fun e => (e.key, e.val)) = es.map (fun p => (Value.int .i64 p.1, p.2))) (hs : ∀ p ∈ es, I64 p.1) (hS : MapKept.Stamped ar clock) (hm : es.length ≤ maxLen) : Fit Tryz.prog 2 RAny ar clock := by
  refine ⟨?_, hS, fun x hx => ?_⟩
  · have := congrArg List.length h
    simp at this
    omega
  · obtain ⟨l, hl⟩ := mi_keys h hs x hx
    exact ⟨(l, .nil), by simp [rd, hl, RAny]⟩
theorem mi_rg {ar : Array MapEntry} {es : List (Int × Value)} (h : ar.toList.map (fun e => (e.key, e.val)) = es.map (fun p => (Value.int .i64 p.1, p.2))) (hs : ∀ p ∈ es, I64 p.1) : ar.toList.map (rg Tryz.prog 2 RAny) = es.map fun p => (Lit.int .i64 p.1, DataW.nil) := by
  have e1 : ar.toList.map (rg Tryz.prog 2 RAny) = (ar.toList.map (fun e => (e.key, e.val))).map (fun q => rg Tryz.prog 2 RAny ⟨q.1, q.2, 0⟩) := by
    rw [List.map_map]
    apply List.map_congr_left
    intro x _
    simp [rg, rd]
  rw [e1, h, List.map_map]
  apply List.map_congr_left
  intro p hp
  have := keyOf_int_mk (P := Tryz.prog) Tryz.underlying2 (hs p hp)
  simp [rg, rd, this, RAny]
theorem insert_perm (x : Lit × DataW Unit) : ∀ l, (DataW.insert x l).Perm (x :: l)
  | [] => List.Perm.refl _
  | y :: r => by
    unfold DataW.insert
    split
    · exact List.Perm.refl _
    · exact ((insert_perm x r).cons y).trans (List.Perm.swap x y r)
theorem inserts_perm : ∀ l : List (Lit × DataW Unit), (l.foldr DataW.insert []).Perm l
  | [] => List.Perm.refl _
  | x :: r => (insert_perm x _).trans ((inserts_perm r).cons x)
/-- The map's data: its numbers alone. -/
def dataI (es : List (Int × Value)) : DataW Unit := .map ((es.map fun p => (Lit.int .i64 p.1, DataW.nil)).foldr DataW.insert [])
theorem dataI_keys (es : List (Int × Value)) : (intKeys (dataI es)).Perm (es.map (·.1)) := by
  have h := (inserts_perm (es.map fun p => (Lit.int .i64 p.1, DataW.nil))).map (fun p => Go.intOf p.1)
  simpa [dataI, intKeys, Function.comp_def, Go.intOf] using h
theorem dataI_size (es : List (Int × Value)) : Maps.size (dataI es) = es.length := by
  have h := (inserts_perm (es.map fun p => (Lit.int .i64 p.1, DataW.nil))).length_eq
  simpa [dataI, Maps.size] using h
theorem mi_owns {w : World} {b : Nat} {es : List (Int × Value)} (h : MI w b es) (hm : es.length ≤ maxLen) : w.ownsMap Tryz.prog 2 RAny b es.length (dataI es) := by
  obtain ⟨ar, clock, h1, h2, h3, hS⟩ := h
  refine ⟨ar, clock, h1, mi_fit h2 h3 hS hm, ?_, ?_⟩
  · have := congrArg List.length h2
    simp at this
    omega
  · rw [mi_rg h2 h3]; rfl
theorem Tryz.sortsI (m : Nat) : AnyZI.SortsIn Tryz.prog Tryz.sortedI_ren Fence.wide m :=
  ⟨fun blk off cap ss W hH hblk hsz => callsIn_wide.2 (Tryz.slices_Sort_int blk off cap ss W hH hblk hsz), fun p cap W => callsIn_wide.2 (Tryz.slices_Sort_int_none p cap W)⟩
/-- Numbers in order. -/
def sortI (zs : List Int) : List Int := zs.mergeSort fun x y => decide (x ≤ y)
theorem sortI_perm {xs ys : List Int} (h : xs.Perm ys) : sortI xs = sortI ys := by
  have tr : ∀ a b c : Int, decide (a ≤ b) = true → decide (b ≤ c) = true → decide (a ≤ c) = true := fun a b c h1 h2 => by simp at *; omega
  have tt : ∀ a b : Int, (decide (a ≤ b) || decide (b ≤ a)) = true := fun a b => by simp; omega
  refine List.Perm.eq_of_pairwise (le := fun a b => decide (a ≤ b) = true) ?_ (List.pairwise_mergeSort tr tt xs) (List.pairwise_mergeSort tr tt ys) (((List.mergeSort_perm _ _).trans h).trans (List.mergeSort_perm _ _).symm)
  intro a b _ _ h1 h2
  simp at h1 h2
  omega
set_option maxRecDepth 100000 in
set_option maxHeartbeats 1000000 in
theorem numbersN_any {w : World} {b : Nat} {es : List (Int × Value)} (h : MI w b es) (hm : es.length ≤ 1000000) : Calls Tryz.prog 111 #[.map (some b)] w fun e w' => ∃ v, e = .returned v ∧ w'.ownsRow w.heap.size 2 1 v es.length ((sortI (es.map (·.1))).map (Value.int .i64)) ∧ Below w.heap.size w w' := by
  have hown := mi_owns h (by unfold maxLen; omega)
  have hsz := dataI_size es
  have hky := dataI_keys es
  generalize dataI es = D0 at hown hsz hky
  refine (callsIn_wide (n := 6)).1 ?_
  have hbl := hown.lt
  have hseq : SeqGives Fence.wide 2 Tryz.prog 188 #[.pointer (some ⟨w.heap.size, 0, none⟩)] encZ (fun ss => ss.Perm (intKeys D0)) (Maps.size D0) (w.alloc (.cells #[.map (some b)] 68)) :=
    AnyZI.keys_gives (ρ := Tryz.keysN_ren) { Tryz.keysN with } Fence.wide _ trivial rfl (by omega) w.heap.size b es.length D0 _ (by simp) (by simp) (by
      obtain ⟨es', clock, hb, Ft, hs, hD⟩ := hown
      exact ⟨es', clock, (Below.heap_alloc _ _ b hbl).trans hb, Ft, hs, hD⟩)
  have cK : ∀ mb W, CallsIn Fence.wide 5 Tryz.prog 155 #[.map mb] W fun e w' => e = .returned (.func (.func 188) #[] #[.pointer (some ⟨W.heap.size, 0, none⟩)]) ∧ w' = W.alloc (.cells #[.map mb] 68) := fun mb W => AnyZI.keys_in Tryz.keysN Fence.wide 5 trivial rfl mb W
  have cS := AnyZI.sorted_in Tryz.sortedI Fence.wide 5 trivial trivial trivial trivial rfl (by omega) (Tryz.sortsI _) (enters_of Tryz.func127 (by kernel_rfl) rfl) 188 #[.pointer (some ⟨w.heap.size, 0, none⟩)] trivial (enters_of Tryz.func188 (by kernel_rfl) rfl) _ _ (by rw [hsz]; unfold maxLen; omega) (by rw [hsz]; omega) _ hseq
  change CallsIn _ _ Tryz.prog 154 _ _ _ at cS
  have hfK : Fence.wide.fn 155 := trivial
  have hfS : Fence.wide.fn 154 := trivial
  refine callsIn_of_wp Tryz.func111 rfl trivial ?_ rfl
  simp only [Tryz.ntmps111, List.size_toArray, List.length_cons, List.length_nil, Nat.reduceAdd, Nat.reduceSub, Array.replicate_succ, Array.replicate_zero, List.push_toArray, List.append_toArray, List.nil_append, List.cons_append]
  gi_wp2_with (first
    | (gi_at_call 155; refine (cK _ _).mono ?_; rintro e w' ⟨rfl, rfl⟩)
    | (gi_at_call 154; refine cS.mono ?_; rintro e w' ⟨v, ss, rfl, hS, hrow, hnil, hb⟩))
  go_ret
  have hp : ss.Perm (es.map (·.1)) := hS.trans hky
  refine ⟨v, rfl, ?_, ((Below.refl _ w).alloc (Nat.le_refl _) _).trans (hb.mono (by simp))⟩
  have hl : ss.length = es.length := by rw [hp.length_eq, List.length_map]
  rw [← sortI_perm hp, ← hl]
  exact ownsRow_base_a hrow (by simp)
set_option maxRecDepth 100000 in
set_option maxHeartbeats 1000000 in
theorem numbersR_any {w : World} {b : Nat} {es : List (Int × Value)} (h : MI w b es) (hm : es.length ≤ 1000000) : Calls Tryz.prog 112 #[.map (some b)] w fun e w' => ∃ v, e = .returned v ∧ w'.ownsRow w.heap.size 2 1 v es.length ((sortI (es.map (·.1))).map (Value.int .i64)) ∧ Below w.heap.size w w' := by
  have hown := mi_owns h (by unfold maxLen; omega)
  have hsz := dataI_size es
  have hky := dataI_keys es
  generalize dataI es = D0 at hown hsz hky
  refine (callsIn_wide (n := 6)).1 ?_
  have hbl := hown.lt
  have hseq : SeqGives Fence.wide 2 Tryz.prog 189 #[.pointer (some ⟨w.heap.size, 0, none⟩)] encZ (fun ss => ss.Perm (intKeys D0)) (Maps.size D0) (w.alloc (.cells #[.map (some b)] 69)) :=
    AnyZI.keys_gives (ρ := Tryz.keysR_ren) { Tryz.keysR with } Fence.wide _ trivial rfl (by omega) w.heap.size b es.length D0 _ (by simp) (by simp) (by
      obtain ⟨es', clock, hb, Ft, hs, hD⟩ := hown
      exact ⟨es', clock, (Below.heap_alloc _ _ b hbl).trans hb, Ft, hs, hD⟩)
  have cK : ∀ mb W, CallsIn Fence.wide 5 Tryz.prog 156 #[.map mb] W fun e w' => e = .returned (.func (.func 189) #[] #[.pointer (some ⟨W.heap.size, 0, none⟩)]) ∧ w' = W.alloc (.cells #[.map mb] 69) := fun mb W => AnyZI.keys_in Tryz.keysR Fence.wide 5 trivial rfl mb W
  have cS := AnyZI.sorted_in Tryz.sortedI Fence.wide 5 trivial trivial trivial trivial rfl (by omega) (Tryz.sortsI _) (enters_of Tryz.func127 (by kernel_rfl) rfl) 189 #[.pointer (some ⟨w.heap.size, 0, none⟩)] trivial (enters_of Tryz.func189 (by kernel_rfl) rfl) _ _ (by rw [hsz]; unfold maxLen; omega) (by rw [hsz]; omega) _ hseq
  change CallsIn _ _ Tryz.prog 154 _ _ _ at cS
  have hfK : Fence.wide.fn 156 := trivial
  have hfS : Fence.wide.fn 154 := trivial
  refine callsIn_of_wp Tryz.func112 rfl trivial ?_ rfl
  simp only [Tryz.ntmps112, List.size_toArray, List.length_cons, List.length_nil, Nat.reduceAdd, Nat.reduceSub, Array.replicate_succ, Array.replicate_zero, List.push_toArray, List.append_toArray, List.nil_append, List.cons_append]
  gi_wp2_with (first
    | (gi_at_call 156; refine (cK _ _).mono ?_; rintro e w' ⟨rfl, rfl⟩)
    | (gi_at_call 154; refine cS.mono ?_; rintro e w' ⟨v, ss, rfl, hS, hrow, hnil, hb⟩))
  go_ret
  have hp : ss.Perm (es.map (·.1)) := hS.trans hky
  refine ⟨v, rfl, ?_, ((Below.refl _ w).alloc (Nat.le_refl _) _).trans (hb.mono (by simp))⟩
  have hl : ss.length = es.length := by rw [hp.length_eq, List.length_map]
  rw [← sortI_perm hp, ← hl]
  exact ownsRow_base_a hrow (by simp)
end Go.Proofs.YteddjlbfbpecjaaGreatDoor

namespace Go.Proofs.YteddjlbfbpecjaaGreatDoor
open Go.RowKit
set_option linter.unusedVariables false
variable {P : Program} {ops : Array Oper} {Q : Exit → Act → World → Prop}
theorem act_ext {base a b : Act} (ha : Same ops base a) (hb : Same ops base b) (h : ∀ i, i < ops.size → val ops a i = val ops b i) : a = b := by
  obtain ⟨d1, s1, o1⟩ := ha
  obtain ⟨d2, s2, o2⟩ := hb
  have ht : a.tmps = b.tmps := by
    apply Array.ext (by rw [s1, s2])
    intro t h1 h2
    by_cases hs : ∃ i, i < ops.size ∧ slotOf ops i = some t
    · obtain ⟨i, hi, hsl⟩ := hs
      have := h i hi
      rw [val_eq hsl, val_eq hsl] at this
      simpa [Act.eval, Array.getD_eq_getD_getElem?, h1, h2] using this
    · have hs' : ∀ i, i < ops.size → slotOf ops i ≠ some t := fun i hi e => hs ⟨i, hi, e⟩
      have := (o1 t hs').trans (o2 t hs').symm
      simpa [h1, h2] using this
  cases a; cases b
  simp only at ht d1 d2
  subst ht
  rw [d1, d2]
theorem facts_last {A : Nat → List Nat} {F : Nat → Value → World → Prop} {base : Act} {w0 : World} {id : Nat} (k : Nat) (hk : k + 1 = ops.size) (hkn : slotOf ops k = none)
    (hm : P.follows .mixedOrders = true) (hok : writesOk ops base.tmps.size A = true) (hdst : ∀ i, i < k → ∃ d, slotOf ops i = some d) (hAk : ∀ i, i < k → i ∈ A k)
    (hmono : ∀ i v w w', F i v w → Below w.heap.size w w' → F i v w')
    (hop : ∀ i, i < k → ∀ a w, Same ops base a → Below w0.heap.size w0 w → (∀ j ∈ A i, F j (val ops a j) w) → Does P ops Q F i a w)
    (hlast : ∀ a w, Same ops base a → Below w0.heap.size w0 w → (∀ i, i < k → F i (val ops a i) w) → wpOp P ops Q k (fun a' w' => (∃ v, a' = a.put (slotOf ops k) v) ∧ Q .normal a w') a w) :
    (Code.region id ops true).wp P Q base w0 := by
  refine writes_rule (A := A) (G := fun _ _ => True) (S := fun l vs w => (l k = false → Below w0.heap.size w0 w ∧ ∀ i, l i = true → i < ops.size → F i (vs i) w) ∧ (l k = true → ∀ b, Same ops base b → (∀ i, i < ops.size → i ≠ k → val ops b i = vs i) → Q .normal b w)) hm hok ⟨fun _ => ⟨(Below.refl _ _).drew, fun i h => (by cases h)⟩, fun h => (by cases h)⟩ ?_ ?_
  · rintro i hi l a w hS hli hcl hA ⟨hF0, hK⟩
    have hlk : l k = false := by
      cases h : l k with
      | false => rfl
      | true =>
        by_cases e : i = k
        · rw [e, h] at hli; cases hli
        · have := hcl k h i (hAk i (by omega)); rw [hli] at this; cases this
    obtain ⟨hB, hF⟩ := hF0 hlk
    by_cases e : i = k
    · subst e
      refine wpOp_mono ?_ (hlast a w hS hB fun j hj => hF j (hA j (hAk j hj)).1 (by omega))
      rintro a' w' ⟨⟨v, rfl⟩, hq⟩
      refine ⟨v, rfl, trivial, fun h => ?_, fun _ b hSb hv => ?_⟩
      · rw [upd_same] at h; cases h
      · have : b = a := act_ext hSb hS fun j hj => by
          by_cases ej : j = i
          · subst ej; unfold val; rw [hkn]
          · rw [hv j hj ej, upd_other _ _ ej]
        rw [this]; exact hq
    · have hik : i < k := by omega
      have hlt : ∀ j ∈ A i, j < ops.size := by
        have key : ∀ n i, i < n → i < ops.size → ∀ j ∈ A i, j < ops.size := by
          intro n
          induction n with
          | zero => intro i h; omega
          | succ n ih =>
            intro i h hi j hj
            obtain ⟨o, _, _, _, hlt, _, hAA⟩ := laid_of hok i hi
            obtain ⟨e, he, hb, hor⟩ := hAA j hj
            have h1 := hlt e he hb
            rcases hor with rfl | h2
            · omega
            · exact ih e.on (by omega) (by omega) j h2
        exact key (i + 1) i (by omega) hi
      refine wpOp_mono ?_ (hop i hik a w hS hB (fun j hj => hF j (hA j hj).1 (hlt j hj)))
      rintro a' w' ⟨v, rfl, hFi, hb⟩
      obtain ⟨d, hd⟩ := hdst i hik
      obtain ⟨o, ho, hs, hdn, _, _, _⟩ := laid_of hok i hi
      have hsz : d < a.tmps.size := by rw [hS.2.1]; exact hdn d (hs ▸ hd)
      have hv := val_put ho (hs ▸ hd : o.dst = some d) hsz v
      refine ⟨v, rfl, trivial, fun h => ⟨hB.trans (hb.mono hB.size), fun j hj hjs => ?_⟩, fun h => ?_⟩
      · by_cases ej : j = i
        · subst ej; rw [upd_same, hv]; exact hFi
        · rw [upd_other _ _ ej] at hj ⊢
          exact hmono _ _ _ _ (hF j hj hjs) hb
      · rw [upd_other _ _ (Ne.symm e), hlk] at h; cases h
  · rintro l a w hS hall ⟨hF, hK⟩
    exact hK (hall k (by omega)).1 a hS fun _ _ _ => rfl
/-- The last operation: its run. -/
theorem last_value {k : Nat} {o : Oper} {a : Act} {w w' : World} {v : Value} (ho : ops[k]? = some o) (hw : Region.wanted o (yielded ops a.tmps) = true)
    (hr : (execOp a.eval o).run P w = .ok (.value v) w') (hq : Q .normal a w') : wpOp P ops Q k (fun a' w' => (∃ v, a' = a.put (slotOf ops k) v) ∧ Q .normal a w') a w := by
  unfold wpOp
  simp only [ho, hw, if_true]
  refine .inl ?_
  unfold Oper.wp
  rw [hr, Oper.upon_value]
  exact ⟨⟨v, by simp [slotOf, ho]⟩, hq⟩
theorem last_skip {k : Nat} {o : Oper} {a : Act} {w w' : World} (ho : ops[k]? = some o) (hw : Region.wanted o (yielded ops a.tmps) = true)
    (hr : (execOp a.eval o).run P w = .ok .skip w') (hq : Q .normal a w') : wpOp P ops Q k (fun a' w' => (∃ v, a' = a.put (slotOf ops k) v) ∧ Q .normal a w') a w := by
  unfold wpOp
  simp only [ho, hw, if_true]
  refine .inl ?_
  unfold Oper.wp
  rw [hr, Oper.upon_skip]
  exact ⟨⟨undef, by simp [slotOf, ho]⟩, hq⟩
/-- The slots that a region writes are among these. -/
def slotsIn (ops : Array Oper) (ds : List Nat) : Bool := (List.range ops.size).all fun i => match slotOf ops i with | some d => ds.contains d | none => true
theorem fold_set {f : Nat → Value} : ∀ (ds : List Nat) (T : Array Value) (k : Nat), (ds.foldl (fun t d => t.setIfInBounds d (f d)) T)[k]? = if k ∈ ds ∧ k < T.size then some (f k) else T[k]?
  | [], T, k => by simp
  | d :: ds, T, k => by
    rw [List.foldl_cons, fold_set ds, Array.size_setIfInBounds]
    by_cases h1 : k ∈ ds ∧ k < T.size
    · rw [if_pos h1, if_pos ⟨List.mem_cons_of_mem _ h1.1, h1.2⟩]
    · rw [if_neg h1]
      by_cases h2 : k = d
      · subst h2
        by_cases h3 : k < T.size
        · rw [if_pos ⟨List.mem_cons_self, h3⟩, Array.getElem?_setIfInBounds_self_of_lt h3]
        · rw [if_neg (fun h => h3 h.2)]
          rw [Array.getElem?_eq_none (by simpa using h3), Array.getElem?_eq_none (by simpa using h3)]
      · rw [Array.getElem?_setIfInBounds_ne (Ne.symm h2)]
        rw [if_neg (fun h => h1 ⟨(List.mem_cons.1 h.1).resolve_left h2, h.2⟩)]
theorem fold_size {f : Nat → Value} : ∀ (ds : List Nat) (T : Array Value), (ds.foldl (fun t d => t.setIfInBounds d (f d)) T).size = T.size
  | [], T => rfl
  | d :: ds, T => by rw [List.foldl_cons, fold_size ds, Array.size_setIfInBounds]
/-- The frame behind a region: the frame ahead, with the region's slots set. -/
theorem same_put {base c : Act} (h : Same ops base c) (ds : List Nat) (hds : slotsIn ops ds = true) : c = ⟨ds.foldl (fun t d => t.setIfInBounds d (c.eval (.tmp d))) base.tmps, base.defers⟩ := by
  obtain ⟨tm, df⟩ := c
  obtain ⟨h1, h2, h3⟩ := h
  simp only at h1 h2 h3
  subst h1
  congr 1
  apply Array.ext_getElem?
  intro k
  rw [fold_set]
  by_cases hk : k ∈ ds ∧ k < base.tmps.size
  · rw [if_pos hk]
    have hk' : k < tm.size := by omega
    simp [Act.eval, Array.getD_eq_getD_getElem?, hk']
  · rw [if_neg hk]
    by_cases hz : k < base.tmps.size
    · exact h3 k fun i hi e => by
        have := List.all_eq_true.1 hds i (List.mem_range.2 hi)
        rw [e] at this
        exact hk ⟨by simpa using this, hz⟩
    · rw [Array.getElem?_eq_none (by omega), Array.getElem?_eq_none (by omega)]
end Go.Proofs.YteddjlbfbpecjaaGreatDoor

