/- A region that draws its order, with two operations that make memory one behind the other and a third one beside them: what only reads is taken first, then the three orders meet in one state. A row behind a row of the call's own, however many. -/
import Derived.Test.YthfilnflgahcjaaGreatDoorJoin2
import Derived.Test.YthfilnflgahcjaaGreatDoorJoin4
namespace Go.Proofs.YthfilnflgahcjaaGreatDoor
open Go.RowKit
section
variable {P : Program} {ops : Array Oper} {md : Region.Mode} {Q : Exit → Act → World → Prop} {S : World → Prop}
def OnlyN (K : Act → World → Prop) : Exit → Act → World → Prop := fun e a w => e = .normal ∧ K a w
theorem onlyN_pan {K : Act → World → Prop} {oi : Oper} {v : Value} : ∀ c (a : Act) w, OnlyN K (.panic c) (a.put oi.dst v) w → OnlyN K (.panic c) a w := fun _ _ _ h => by cases h.1
def readsB (md : Region.Mode) (ops : Array Oper) : List Nat → Array Bool → Bool
  | [], _ => true
  | i :: r, listed => (Region.ready md ops listed).contains i && (Region.free md ops listed i && readsB md ops r (listed.setIfInBounds i true))
def afterL : List Nat → Array Bool → Array Bool
  | [], listed => listed
  | i :: r, listed => afterL r (listed.setIfInBounds i true)
theorem segH {L : List Oper} {w : World} {K : Act → Prop} {R : Act → World → Prop} (hs : Region.noSelect L.toArray = true) {n : Nat} : ∀ (A : List Nat) (listed : Array Bool) (a : Act), reads L A = true → readsB md L.toArray A listed = true →
    (∀ a, K a → wpAnyH P md L.toArray (OnlyN R) (upS w) n (afterL A listed) a w) → wpQuiet P L.toArray (upC w) K (pickL L A) a → wpAnyH P md L.toArray (OnlyN R) (upS w) (n + A.length) listed a w
  | [], _, a, _, _, hK, h => hK a h
  | i :: A, listed, a, hr, hb, hK, h => by
    simp only [reads, List.all_cons, Bool.and_eq_true] at hr
    obtain ⟨h1, h2⟩ := hr
    simp only [readsB, Bool.and_eq_true] at hb
    obtain ⟨b1, b2, b3⟩ := hb
    cases ho : nthL L i with
    | none => rw [ho] at h1; cases h1
    | some o =>
      rw [ho] at h1
      simp only [pickL, ho, wpQuiet] at h
      have hi : L.toArray[i]? = some o := by rw [List.getElem?_toArray, ← nthL_get, ho]
      rw [List.length_cons, ← Nat.add_assoc]
      by_cases hw : Region.wanted o (yielded L.toArray a.tmps) = true
      · rw [if_pos hw] at h
        obtain ⟨v, h3, h4⟩ := h
        refine wpAnyH_take hi hs b2 b1 onlyN_pan (.inl ⟨hw, fun x hx => ?_⟩) (Below.refl _ _) (segH hs A _ _ h2 b3 hK h4)
        have h5 := h3 x ⟨⟨x, hx⟩, rfl⟩
        unfold Oper.quietAt at h5
        generalize hres : (execOp a.eval o).run P x = res at h5
        cases res with
        | halt y z => simp only [Oper.quietUpon] at h5
        | ok n z =>
          obtain ⟨u, rfl⟩ := read_value h1 hres
          simp only [Oper.quietUpon] at h5
          rw [h5.1, h5.2]
      · rw [if_neg hw] at h
        exact wpAnyH_take hi hs b2 b1 onlyN_pan (.inr ⟨by simpa using hw, rfl⟩) (Below.refl _ _) (segH hs A _ _ h2 b3 hK h)
/-- One operation, by itself. -/
def wpOne (P : Program) (L : List Oper) (i : Nat) (K : Act → World → Prop) (a : Act) (w : World) : Prop :=
  wpList P L.toArray (OnlyN K) (pickL L [i]) a w
theorem one_op {L : List Oper} {i : Nat} {a : Act} {w : World} {K K' : Act → World → Prop} (hn : (nthL L i).isSome = true) (hK : ∀ a w', K a w' → K' a w') (h : wpOne P L i K a w) : wpOp P L.toArray Q i K' a w := by
  refine wpOp_noQ ?_
  unfold wpOne at h
  cases ho : nthL L i with
  | none => rw [ho] at hn; cases hn
  | some o =>
    have hi : L.toArray[i]? = some o := by rw [List.getElem?_toArray, ← nthL_get, ho]
    simp only [pickL, ho, wpList] at h
    unfold wpOp
    simp only [hi]
    split
    · rename_i hw
      rw [if_pos hw] at h
      rcases h with h | ⟨_, _, _, h, _⟩
      · exact .inl (Oper.wp_mono (fun a' w' h' => hK a' w' h'.2) (oper_only h))
      · cases h
    · rename_i hw
      rw [if_neg hw] at h
      exact hK _ _ h.2
def wpTail (P : Program) (L : List Oper) (B : World → Prop) (Q : Exit → Act → World → Prop) : List Nat → Act → World → Prop
  | [], a, w => Q .normal a w
  | i :: r, a, w => wpOne P L i (fun a' w' => B w' ∧ wpTail P L B Q r a' w') a w
def tailB (md : Region.Mode) (L : List Oper) : List Nat → Array Bool → Bool
  | [], listed => (Region.ready md L.toArray listed).isEmpty
  | i :: r, listed => (Region.ready md L.toArray listed == [i]) && ((nthL L i).isSome && tailB md L r (listed.setIfInBounds i true))
theorem tailH {L : List Oper} : ∀ (T : List Nat) (listed : Array Bool) (a : Act) (w : World), tailB md L T listed = true → wpTail P L S Q T a w → wpAnyH P md L.toArray (OnlyN fun a w => Q .normal a w) S T.length listed a w
  | [], listed, a, w, hb, h => wpAnyH_done (by simpa [tailB] using hb) ⟨rfl, h⟩ 0
  | i :: r, listed, a, w, hb, h => by
    simp only [tailB, Bool.and_eq_true, beq_iff_eq] at hb
    obtain ⟨b1, b2, b3⟩ := hb
    refine wpAnyH_all b1 (by simp) fun j hj => ?_
    obtain rfl : j = i := by simpa using hj
    exact one_op b2 (fun a' w' h' => ⟨h'.1, tailH r _ a' w' b3 h'.2⟩) h
/-- Two one behind the other, and a third one beside them, in the three orders; then what is left. -/
def TriH (P : Program) (L : List Oper) (B : World → Prop) (Q : Exit → Act → World → Prop) (i j k : Nat) (T : List Nat) (w : World) (a : Act) : Prop :=
  ∃ I : Value → Value → Value → World → Prop,
    let F := fun (a3 : Act) (w3 : World) => B w3 ∧ ∃ x y z, a3 = ((a.put ((nthL L i).bind Oper.dst) x).put ((nthL L j).bind Oper.dst) y).put ((nthL L k).bind Oper.dst) z ∧ I x y z w3
    wpOne P L i (fun a1 w1 => B w1 ∧ wpOne P L j (fun a2 w2 => B w2 ∧ wpOne P L k F a2 w2) a1 w1 ∧ wpOne P L k (fun a2 w2 => B w2 ∧ wpOne P L j F a2 w2) a1 w1) a w ∧
    wpOne P L k (fun a1 w1 => B w1 ∧ wpOne P L i (fun a2 w2 => B w2 ∧ wpOne P L j F a2 w2) a1 w1) a w ∧
    ∀ x y z w3, B w3 → I x y z w3 → wpTail P L B Q T (((a.put ((nthL L i).bind Oper.dst) x).put ((nthL L j).bind Oper.dst) y).put ((nthL L k).bind Oper.dst) z) w3
def triB (L : List Oper) (A : List Nat) (i j k : Nat) (T : List Nat) : Bool :=
  let l0 := afterL A (Array.replicate L.length false)
  let rd := fun l => Region.ready .any L.toArray l
  let s := fun (l : Array Bool) (x : Nat) => l.setIfInBounds x true
  Region.noSelect L.toArray && (reads L A && (readsB .any L.toArray A (Array.replicate L.length false) && ((T.length + 1 + 1 + 1 + A.length == L.length) &&
    ((nthL L i).isSome && ((nthL L j).isSome && ((nthL L k).isSome &&
    ((rd l0 == [i, k]) && ((rd (s l0 i) == [j, k]) && ((rd (s (s l0 i) j) == [k]) && ((rd (s (s l0 i) k) == [j]) && ((rd (s l0 k) == [i]) && ((rd (s (s l0 k) i) == [j]) &&
    (((s (s (s l0 i) k) j) == (s (s (s l0 i) j) k)) && (((s (s (s l0 k) i) j) == (s (s (s l0 i) j) k)) && tailB .any L T (s (s (s l0 i) j) k)))))))))))))))
theorem wp_tri {id : Nat} {L : List Oper} {a : Act} {w : World} (A : List Nat) (i j k : Nat) (T : List Nat) (hm : P.follows .mixedOrders = true) (hB : triB L A i j k T = true)
    (h : wpQuiet P L.toArray (upC w.drew) (TriH P L (upS w.drew) Q i j k T w.drew) (pickL L A) a) : (Code.region id L.toArray true).wp P Q a w := by
  simp only [triB, Bool.and_eq_true, beq_iff_eq] at hB
  obtain ⟨h1, h2, h3, h4, n1, n2, n3, r1, r2, r3, r4, r5, r6, e1, e2, h5⟩ := hB
  refine Code.wp_mono (Q := OnlyN fun a w => Q .normal a w) (fun e a w q => by rw [q.1]; exact q.2) (wp_region_held (S := upS w.drew) hm ?_)
  have h7 := segH (P := P) (md := .any) (R := fun a w => Q .normal a w) (n := T.length + 1 + 1 + 1) h1 A (Array.replicate L.length false) a h2 h3 ?_ h
  · rw [h4] at h7; simpa using h7
  · rintro a' ⟨I, o1, o3, oe⟩
    have fin : ∀ (l : Array Bool), l = (((afterL A (Array.replicate L.length false)).setIfInBounds i true).setIfInBounds j true).setIfInBounds k true → ∀ a3 w3, (upS w.drew w3 ∧ ∃ x y z, a3 = ((a'.put ((nthL L i).bind Oper.dst) x).put ((nthL L j).bind Oper.dst) y).put ((nthL L k).bind Oper.dst) z ∧ I x y z w3) → upS w.drew w3 ∧ wpAnyH P .any L.toArray (OnlyN fun a w => Q .normal a w) (upS w.drew) T.length l a3 w3 := by
      rintro _ rfl a3 w3 ⟨hw, x, y, z, rfl, hI⟩
      exact ⟨hw, tailH T _ _ _ h5 (oe x y z w3 hw hI)⟩
    have one : ∀ {m n : Nat} {l : Array Bool} {b : Act} {v : World} {K : Act → World → Prop}, Region.ready .any L.toArray l = [m] → (nthL L m).isSome = true → wpOne P L m K b v → (∀ b' v', K b' v' → upS w.drew v' ∧ wpAnyH P .any L.toArray (OnlyN fun a w => Q .normal a w) (upS w.drew) n (l.setIfInBounds m true) b' v') → wpAnyH P .any L.toArray (OnlyN fun a w => Q .normal a w) (upS w.drew) (n + 1) l b v := by
      intro m n l b v K hr hn ho hK
      refine wpAnyH_all hr (by simp) fun q hq => ?_
      obtain rfl : q = m := by simpa using hq
      exact one_op hn hK ho
    refine wpAnyH_all r1 (by simp) fun q hq => ?_
    rcases List.mem_cons.1 hq with rfl | hq
    · refine one_op n1 ?_ o1
      rintro a1 w1 ⟨hb, p1, p2⟩
      refine ⟨hb, wpAnyH_all r2 (by simp) fun q hq => ?_⟩
      rcases List.mem_cons.1 hq with rfl | hq
      · exact one_op n2 (fun a2 w2 h' => ⟨h'.1, one r3 n3 h'.2 (fin _ rfl)⟩) p1
      · obtain rfl : q = k := by simpa using hq
        exact one_op n3 (fun a2 w2 h' => ⟨h'.1, one r4 n2 h'.2 (fin _ e1)⟩) p2
    · obtain rfl : q = k := by simpa using hq
      exact one_op n3 (fun a1 w1 h' => ⟨h'.1, one r5 n1 h'.2 fun a2 w2 h'' => ⟨h''.1, one r6 n2 h''.2 (fin _ e2)⟩⟩) o3
end
end Go.Proofs.YthfilnflgahcjaaGreatDoor

namespace Go.Proofs.YthfilnflgahcjaaGreatDoor
open Go.RowKit Go.Shelf
set_option linter.unusedVariables false
set_option linter.unusedSimpArgs false
theorem run_append_nothing {w : World} {base t ty e size c : Nat} {i : TypeInfo} (ht : Tryz.prog.underlying t = some (.slice e)) (hi : Tryz.prog.info? e = some i) (v : Value) (n : Nat) (xs : List Value) (hown : w.ownsRow base e size v n xs) :
    (Builtin.append_ #[t, t] ty #[v, .slice none 0 c]).run Tryz.prog w = .ok v w := by
  rcases hown.2 with ⟨rfl, rfl⟩ | ⟨g, cap, cur, rfl, _, _, hnc, _⟩
  · simp [Builtin.append_, run_underlying ht, sizeOf, typeInfo, hi, Builtin.lenOf, Builtin.firstCells]
  · simp [Builtin.append_, run_underlying ht, sizeOf, typeInfo, hi, Builtin.lenOf, Builtin.firstCells, hnc, storeCells]
theorem append_many {α : Type} {t e ty k bytes base B : Nat} {z : Value} (hE : ElemIs t e k bytes z) {enc : α → List Value} (hk : ∀ x, (enc x).length = k) (h1 : ∀ x, ∀ u ∈ enc x, u.oneCell' = true) {v vs : Value} {xs ys : List α} {w : World} (hown : ORow e k enc base w v xs) (hs : SRow k enc B w vs ys) (hn : xs.length + ys.length ≤ 1000000) (hb : base ≤ w.heap.size) :
    ∃ v' w', (Builtin.append_ #[t, t] ty #[v, vs]).run Tryz.prog w = .ok v' w' ∧ ORow e k enc base w' v' (xs ++ ys) ∧ Below base w w' ∧ (∀ g, some g ≠ v.ownBlock → g < w.heap.size → w'.heap[g]? = w.heap[g]?) := by
  obtain ⟨ht, i0, hi, hz, hsize, hby, hzs, hk0, hbb⟩ := hE
  obtain ⟨a, c, rfl, l1, l2, hc⟩ := hs
  cases a with
  | none =>
    have hy : ys = [] := by
      rcases hc with hc | ⟨bl, off, e1, _⟩
      · exact hc
      · cases e1
    subst hy
    refine ⟨v, w, run_append_nothing ht hi v _ _ hown, by simpa using hown, Below.refl _ _, fun _ _ _ => rfl⟩
  | some ad =>
    have hlen : ((ys.map enc).flatten).length = ys.length * k := by
      rw [sflat_len (k := k) (ys.map enc) (fun c hc => by obtain ⟨y, _, rfl⟩ := List.mem_map.1 hc; exact hk y), List.length_map]
    obtain ⟨v', w', q1, q2, q3, _⟩ := run_append_own (P := Tryz.prog) (w := w) base t ty e i0 z k bytes ht hi hz hsize hby hzs hk0 v xs.length _ hown ad ys.length c ((ys.map enc).flatten) hlen (fun j u hu => by
      rcases hc with hc | ⟨bl, off, e1, hbl, hcell⟩
      · subst hc; simp at hu
      · obtain rfl := Option.some.inj e1
        have hadd : (⟨bl, off, none⟩ : Addr).add j = ⟨bl, off + j, none⟩ := by unfold Addr.add; split <;> simp_all
        rw [hadd]
        have hj : j < ys.length * k := by rw [← hlen]; exact (List.getElem?_eq_some_iff.1 hu).1
        obtain ⟨q, r, hqr, hr⟩ : ∃ q r, j = q * k + r ∧ r < k := ⟨j / k, j % k, by rw [Nat.mul_comm]; exact (Nat.div_add_mod j k).symm, Nat.mod_lt _ hk0⟩
        subst hqr
        have hq : q < ys.length := by
          rcases Nat.lt_or_ge q ys.length with h | h
          · exact h
          · have := Nat.mul_le_mul_right k h; omega
        have e2 := sflat_at (ys.map enc) q r (enc ys[q]) (fun c hc => by obtain ⟨y, _, rfl⟩ := List.mem_map.1 hc; exact hk y) (by rw [List.getElem?_map, List.getElem?_eq_getElem hq]; rfl) hr
        rw [e2] at hu
        have := hcell q ys[q] (List.getElem?_eq_getElem hq) r u hu
        rw [← Nat.add_assoc]; exact this) (fun u hu => by
      obtain ⟨cs, h2, h3⟩ := List.mem_flatten.1 hu
      obtain ⟨y, _, rfl⟩ := List.mem_map.1 h2
      exact h1 y u h3) (by unfold maxLen; omega) (Nat.le_trans (Nat.mul_le_mul hn hbb) (by decide)) hb
    refine ⟨v', w', q1, ?_, (Below.refl base w).grown q3 hb fun q h => (hown.lt q h).1, fun g hg hl => q3.block g hl hg⟩
    unfold ORow
    rw [List.length_append, List.map_append, List.flatten_append]
    exact q2
/-- A row that was just made. -/
theorem orow_new {α : Type} {e k base : Nat} {enc : α → List Value} (hk : ∀ x, (enc x).length = k) (w : World) (xs : List α) (cs : Array Value) (hcs : cs.toList = (xs.map enc).flatten) (hl : xs.length ≤ 1000000) (hb : base ≤ w.heap.size) :
    ORow e k enc base (w.alloc (.cells cs e)) (.slice (some ⟨w.heap.size, 0, none⟩) xs.length xs.length) xs := by
  unfold ORow
  rw [← hcs]
  refine World.ownsRow_lit w cs xs.length hb (by unfold maxLen; omega) ?_
  rw [← Array.length_toList, hcs, sflat_len (k := k) (xs.map enc) (fun c hc => by obtain ⟨y, _, rfl⟩ := List.mem_map.1 hc; exact hk y), List.length_map]
/-- The first ones of a row. -/
theorem SRow.take {α : Type} {k : Nat} {enc : α → List Value} {B : Nat} {w : World} {a : Option Addr} {l c : Nat} {xs ys : List α} (h : SRow k enc B w (.slice a l c) (xs ++ ys)) : SRow k enc B w (.slice a xs.length c) xs := by
  obtain ⟨a0, c0, e1, h2, h3, h4⟩ := h
  injection e1 with q1 q2 q3
  subst q1 q3
  rw [List.length_append] at h2
  refine ⟨a, c, rfl, by omega, h3, ?_⟩
  rcases h4 with h4 | ⟨bl, off, e2, hl, hc⟩
  · left; exact (List.append_eq_nil_iff.1 h4).1
  · right; exact ⟨bl, off, e2, hl, fun i x hx j u hu => hc i x (by rw [List.getElem?_append_left (List.getElem?_eq_some_iff.1 hx).1]; exact hx) j u hu⟩
end Go.Proofs.YthfilnflgahcjaaGreatDoor

