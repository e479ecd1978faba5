/- A row behind a row of the call's own, however many. -/
import Derived.Test.YthfilnflgahcjaaGreatDoorJoin4
namespace Go.Proofs.YthfilnflgahcjaaGreatDoor
open Go.RowKit Go.Shelf
set_option linter.unusedVariables false
set_option linter.unusedSimpArgs false
theorem run_append_nothing {w : World} {base t ty e size c : Nat} {i : TypeInfo} (ht : Tryz.prog.underlying t = some (.slice e)) (hi : Tryz.prog.info? e = some i) (v : Value) (n : Nat) (xs : List Value) (hown : w.ownsRow base e size v n xs) :
    (Builtin.append_ #[t, t] ty #[v, .slice none 0 c]).run Tryz.prog w = .ok v w := by
  rcases hown.2 with ⟨rfl, rfl⟩ | ⟨g, cap, cur, rfl, _, _, hnc, _⟩
  · simp [Builtin.append_, run_underlying ht, sizeOf, typeInfo, hi, Builtin.lenOf, Builtin.firstCells]
  · simp [Builtin.append_, run_underlying ht, sizeOf, typeInfo, hi, Builtin.lenOf, Builtin.firstCells, hnc, storeCells]
theorem append_many {α : Type} {t e ty k bytes base B : Nat} {z : Value} (hE : ElemIs t e k bytes z) {enc : α → List Value} (hk : ∀ x, (enc x).length = k) (h1 : ∀ x, ∀ u ∈ enc x, u.oneCell' = true) {v vs : Value} {xs ys : List α} {w : World} (hown : ORow e k enc base w v xs) (hs : SRow k enc B w vs ys) (hn : xs.length + ys.length ≤ 1000000) (hb : base ≤ w.heap.size) :
    ∃ v' w', (Builtin.append_ #[t, t] ty #[v, vs]).run Tryz.prog w = .ok v' w' ∧ ORow e k enc base w' v' (xs ++ ys) ∧ Below base w w' ∧ (∀ g, some g ≠ v.ownBlock → g < w.heap.size → w'.heap[g]? = w.heap[g]?) := by
  obtain ⟨ht, i0, hi, hz, hsize, hby, hzs, hk0, hbb⟩ := hE
  obtain ⟨a, c, rfl, l1, l2, hc⟩ := hs
  cases a with
  | none =>
    have hy : ys = [] := by
      rcases hc with hc | ⟨bl, off, e1, _⟩
      · exact hc
      · cases e1
    subst hy
    refine ⟨v, w, run_append_nothing ht hi v _ _ hown, by simpa using hown, Below.refl _ _, fun _ _ _ => rfl⟩
  | some ad =>
    have hlen : ((ys.map enc).flatten).length = ys.length * k := by
      rw [sflat_len (k := k) (ys.map enc) (fun c hc => by obtain ⟨y, _, rfl⟩ := List.mem_map.1 hc; exact hk y), List.length_map]
    obtain ⟨v', w', q1, q2, q3, _⟩ := run_append_own (P := Tryz.prog) (w := w) base t ty e i0 z k bytes ht hi hz hsize hby hzs hk0 v xs.length _ hown ad ys.length c ((ys.map enc).flatten) hlen (fun j u hu => by
      rcases hc with hc | ⟨bl, off, e1, hbl, hcell⟩
      · subst hc; simp at hu
      · obtain rfl := Option.some.inj e1
        have hadd : (⟨bl, off, none⟩ : Addr).add j = ⟨bl, off + j, none⟩ := by unfold Addr.add; split <;> simp_all
        rw [hadd]
        have hj : j < ys.length * k := by rw [← hlen]; exact (List.getElem?_eq_some_iff.1 hu).1
        obtain ⟨q, r, hqr, hr⟩ : ∃ q r, j = q * k + r ∧ r < k := ⟨j / k, j % k, by rw [Nat.mul_comm]; exact (Nat.div_add_mod j k).symm, Nat.mod_lt _ hk0⟩
        subst hqr
        have hq : q < ys.length := by
          rcases Nat.lt_or_ge q ys.length with h | h
          · exact h
          · have := Nat.mul_le_mul_right k h; omega
        have e2 := sflat_at (ys.map enc) q r (enc ys[q]) (fun c hc => by obtain ⟨y, _, rfl⟩ := List.mem_map.1 hc; exact hk y) (by rw [List.getElem?_map, List.getElem?_eq_getElem hq]; rfl) hr
        rw [e2] at hu
        have := hcell q ys[q] (List.getElem?_eq_getElem hq) r u hu
        rw [← Nat.add_assoc]; exact this) (fun u hu => by
      obtain ⟨cs, h2, h3⟩ := List.mem_flatten.1 hu
      obtain ⟨y, _, rfl⟩ := List.mem_map.1 h2
      exact h1 y u h3) (by unfold maxLen; omega) (Nat.le_trans (Nat.mul_le_mul hn hbb) (by decide)) hb
    refine ⟨v', w', q1, ?_, (Below.refl base w).grown q3 hb fun q h => (hown.lt q h).1, fun g hg hl => q3.block g hl hg⟩
    unfold ORow
    rw [List.length_append, List.map_append, List.flatten_append]
    exact q2
/-- A row that was just made. -/
theorem orow_new {α : Type} {e k base : Nat} {enc : α → List Value} (hk : ∀ x, (enc x).length = k) (w : World) (xs : List α) (cs : Array Value) (hcs : cs.toList = (xs.map enc).flatten) (hl : xs.length ≤ 1000000) (hb : base ≤ w.heap.size) :
    ORow e k enc base (w.alloc (.cells cs e)) (.slice (some ⟨w.heap.size, 0, none⟩) xs.length xs.length) xs := by
  unfold ORow
  rw [← hcs]
  refine World.ownsRow_lit w cs xs.length hb (by unfold maxLen; omega) ?_
  rw [← Array.length_toList, hcs, sflat_len (k := k) (xs.map enc) (fun c hc => by obtain ⟨y, _, rfl⟩ := List.mem_map.1 hc; exact hk y), List.length_map]
/-- The first ones of a row. -/
theorem SRow.take {α : Type} {k : Nat} {enc : α → List Value} {B : Nat} {w : World} {a : Option Addr} {l c : Nat} {xs ys : List α} (h : SRow k enc B w (.slice a l c) (xs ++ ys)) : SRow k enc B w (.slice a xs.length c) xs := by
  obtain ⟨a0, c0, e1, h2, h3, h4⟩ := h
  injection e1 with q1 q2 q3
  subst q1 q3
  rw [List.length_append] at h2
  refine ⟨a, c, rfl, by omega, h3, ?_⟩
  rcases h4 with h4 | ⟨bl, off, e2, hl, hc⟩
  · left; exact (List.append_eq_nil_iff.1 h4).1
  · right; exact ⟨bl, off, e2, hl, fun i x hx j u hu => hc i x (by rw [List.getElem?_append_left (List.getElem?_eq_some_iff.1 hx).1]; exact hx) j u hu⟩
end Go.Proofs.YthfilnflgahcjaaGreatDoor
