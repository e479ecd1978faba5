/- Words that are handed in: where they lie. -/
import Derived.Test.YtbjcdpenfijfoaaGreatDoorPpr0
import Derived.OpenShut
import Derived.SizedLaws
import Derived.ProofKit
import Derived.SliceStrings
import Derived.Deep.Slices
namespace Go.Proofs.YtbjcdpenfijfoaaGreatDoor
open Go.ChangeShapes Go.WideShapes Go.ChangeAt Go.RowKit Go.Shelf Go.Deep
set_option linter.unusedVariables false
set_option linter.unusedSimpArgs false
theorem cells33 : Tryz.prog.cellsOf 33 = 4 := by kernel_rfl
theorem cells30 : Tryz.prog.cellsOf 30 = 1 := by kernel_rfl
theorem cells31 : Tryz.prog.cellsOf 31 = 1 := by kernel_rfl
theorem cells9' : Tryz.prog.cellsOf 9 = 1 := by kernel_rfl
theorem cells3 : Tryz.prog.cellsOf 3 = 1 := by kernel_rfl
theorem cells4_of : ∀ (l : List W4) (P : Nat → Value → Prop), (∀ i x, l[i]? = some x → P (i * 4) (.int .i64 x.k) ∧ P (i * 4 + 1) (.int .i64 x.i) ∧ P (i * 4 + 2) (.string x.t) ∧ P (i * 4 + 3) (.int .u64 x.n)) → ∀ j u, (cells4 l)[j]? = some u → P j u
  | [], P, h, j, u, hj => by simp [cells4] at hj
  | x :: l, P, h, j, u, hj => by
    have e : cells4 (x :: l) = x.cells ++ cells4 l := rfl
    rw [e] at hj
    obtain ⟨h0, h1, h2, h3⟩ := h 0 x rfl
    match j, hj with
    | 0, hj => simp [W4.cells] at hj; subst hj; exact h0
    | 1, hj => simp [W4.cells] at hj; subst hj; exact h1
    | 2, hj => simp [W4.cells] at hj; subst hj; exact h2
    | 3, hj => simp [W4.cells] at hj; subst hj; exact h3
    | j + 4, hj =>
      rw [List.getElem?_append_right (by simp [W4.cells])] at hj
      have hs : x.cells.length = 4 := rfl
      rw [hs, Nat.add_sub_cancel] at hj
      exact cells4_of l (fun n v => P (n + 4) v) (fun i y hy => by
        have := h (i + 1) y (by simpa using hy)
        have e1 : (i + 1) * 4 = i * 4 + 4 := by omega
        rw [e1] at this
        obtain ⟨g0, g1, g2, g3⟩ := this
        exact ⟨g0, by rwa [Nat.add_right_comm] at g1, by rwa [Nat.add_right_comm] at g2, by rwa [Nat.add_right_comm] at g3⟩) j u hj
section
variable {H : Type} {enc : TypeId × Value → H} {W : World}
set_option maxRecDepth 100000 in
theorem open_word {fuel : Nat} {cs : List Value} {y : DataW H × List MemPlace} (h : DataW.trod enc Tryz.prog W 0 (fun _ => true) true fuel 33 cs = some y) : ∃ x : W4, cs = x.cells ∧ 0 ≤ x.n ∧ x.n < 18446744073709551616 := by
  obtain ⟨xs, n, hfu, hx, hl, hlen, hf⟩ := DataW.trod_struct Tryz.underlying33 h
  rw [cells33] at hl
  match cs, hl with
  | [v0, v1, v2, v3], _ =>
    match xs, hlen with
    | [y0, y1, y2, y3], _ =>
      have f0 : DataW.trod enc Tryz.prog W 0 (fun _ => true) true n 30 [v0] = some y0 := by simpa [cells30] using hf 0 { name := "Kind", type := 30, offset := 0, embedded := false, tag := "", pkgPath := "", byteOffset := 0 } rfl
      have f1 : DataW.trod enc Tryz.prog W 0 (fun _ => true) true n 3 [v1] = some y1 := by simpa [cells3] using hf 1 { name := "At", type := 3, offset := 1, embedded := false, tag := "", pkgPath := "", byteOffset := 8 } rfl
      have f2 : DataW.trod enc Tryz.prog W 0 (fun _ => true) true n 9 [v2] = some y2 := by simpa [cells9'] using hf 2 { name := "Text", type := 9, offset := 2, embedded := false, tag := "", pkgPath := "", byteOffset := 16 } rfl
      have f3 : DataW.trod enc Tryz.prog W 0 (fun _ => true) true n 31 [v3] = some y3 := by simpa [cells31] using hf 3 { name := "Number", type := 31, offset := 3, embedded := false, tag := "", pkgPath := "", byteOffset := 32 } rfl
      obtain ⟨k, e0, _, _⟩ := DataW.trod_int Tryz.underlying30 f0
      obtain ⟨i, e1, _, _⟩ := DataW.trod_int Tryz.underlying3 f1
      obtain ⟨s, e2, _, _⟩ := DataW.trod_string Tryz.underlying9 f2
      obtain ⟨m, e3, _, wf⟩ := DataW.trod_int Tryz.underlying31 f3
      simp only [List.cons.injEq, and_true] at e0 e1 e2 e3
      subst e0 e1 e2 e3
      refine ⟨⟨k, i, s, m⟩, rfl, ?_⟩
      have hm : IntKind.u64.min ≤ m ∧ m ≤ IntKind.u64.max := by simpa [Lit.wf] using wf
      rw [show IntKind.u64.min = 0 by decide, show IntKind.u64.max = 18446744073709551615 by decide] at hm
      show 0 ≤ m ∧ m < _
      omega
theorem open_words {fuel : Nat} {cs : List Value} {d : DataW H} {p : List MemPlace} (h : DataW.trod enc Tryz.prog W 0 (fun _ => true) true fuel 23 cs = some (d, p)) :
    ∃ v xs, cs = [v] ∧ Lie4 W.heap.size W v xs ∧ ∀ x ∈ xs, 0 ≤ x.n ∧ x.n < 18446744073709551616 := by
  rcases DataW.trod_slice Tryz.underlying23 h with ⟨rfl, _⟩ | ⟨a, len, cap, elems, rest, n, hfu, rfl, hx, _, hl, hm, hlen, hel, _, _⟩
  · exact ⟨_, [], rfl, ⟨none, 0, rfl, Nat.le_refl _, by decide, .inl rfl⟩, fun x hx => by simp at hx⟩
  · have hc : ∀ i, i < len → ∃ x : W4, (W.cell? ((a.add (i * 4)).add 0) = some (.int .i64 x.k) ∧ W.cell? ((a.add (i * 4)).add 1) = some (.int .i64 x.i) ∧ W.cell? ((a.add (i * 4)).add 2) = some (.string x.t) ∧ W.cell? ((a.add (i * 4)).add 3) = some (.int .u64 x.n)) ∧ 0 ≤ x.n ∧ x.n < 18446744073709551616 := by
      intro i hi
      have key := hel i hi
      rw [cells33, List.getElem?_eq_getElem (by omega)] at key
      obtain ⟨cs', h1, h2⟩ := Option.bind_eq_some_iff.1 key
      obtain ⟨_, hl4, hcell⟩ := World.cells?_some h1
      obtain ⟨x, rfl, hn⟩ := open_word h2
      exact ⟨x, ⟨hcell 0 (by simp [W4.cells]), hcell 1 (by simp [W4.cells]), hcell 2 (by simp [W4.cells]), hcell 3 (by simp [W4.cells])⟩, hn⟩
    have : Inhabited W4 := ⟨⟨0, 0, ⟨#[]⟩, 0⟩⟩
    obtain ⟨f, hf⟩ := choose_lt hc
    have hlt : ((List.range len).map f).length = len := by simp
    refine ⟨_, (List.range len).map f, rfl, ⟨some a, cap, by rw [hlt], by omega, ?_, ?_⟩, ?_⟩
    · unfold maxLen at hm; omega
    · by_cases h0 : len = 0
      · left; subst h0; rfl
      · right
        obtain ⟨bl, off, spot⟩ := a
        obtain ⟨c0, _⟩ := (hf 0 (by omega)).1
        have hspot : spot = none := by simpa [Addr.add] using World.cell?_spot c0
        subst hspot
        refine ⟨bl, off, rfl, lt_of_cell c0, cells4_of _ (fun j u => W.cell? ⟨bl, off + j, none⟩ = some u) ?_⟩
        intro i x hix
        rw [List.getElem?_map] at hix
        obtain ⟨j, hj, rfl⟩ := Option.map_eq_some_iff.1 hix
        rw [List.getElem?_eq_some_iff] at hj
        obtain ⟨hji, hjj⟩ := hj
        simp only [List.length_range, List.getElem_range] at hji hjj
        subst hjj
        obtain ⟨c0, c1, c2, c3⟩ := (hf _ hji).1
        rw [Lib.add_plain, Lib.add_plain] at c0 c1 c2 c3
        exact ⟨c0, by rw [← Nat.add_assoc]; exact c1, by rw [← Nat.add_assoc]; exact c2, by rw [← Nat.add_assoc]; exact c3⟩
    · intro x hx
      obtain ⟨j, hj, rfl⟩ := List.mem_map.1 hx
      exact (hf j (List.mem_range.1 hj)).2
end
end Go.Proofs.YtbjcdpenfijfoaaGreatDoor
