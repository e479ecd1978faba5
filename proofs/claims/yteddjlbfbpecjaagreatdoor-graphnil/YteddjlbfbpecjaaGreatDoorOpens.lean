/- A value, and a list of values, that is handed in: where it lies, as a tree. -/
import Derived.Test.YteddjlbfbpecjaaGreatDoorJoin5
import Derived.OpenShut
import Derived.SizedLaws
import Derived.ProofKit
import Derived.SliceStrings
import Derived.Deep.Slices
namespace Go.Proofs.YteddjlbfbpecjaaGreatDoor
open Go.ChangeShapes Go.WideShapes Go.ChangeAt Go.RowKit Go.Shelf Go.Deep
set_option linter.unusedVariables false

theorem cells60 : Tryz.prog.cellsOf 60 = 6 := by kernel_rfl
theorem cells58 : Tryz.prog.cellsOf 58 = 1 := by kernel_rfl
theorem cells44 : Tryz.prog.cellsOf 44 = 1 := by kernel_rfl
theorem cells57 : Tryz.prog.cellsOf 57 = 1 := by kernel_rfl
theorem cells9 : Tryz.prog.cellsOf 9 = 1 := by kernel_rfl
theorem cells4 : Tryz.prog.cellsOf 4 = 1 := by kernel_rfl
theorem cells2 : Tryz.prog.cellsOf 2 = 1 := by kernel_rfl
theorem bytes60 : Tryz.prog.bytesOf 60 = 88 := by kernel_rfl
theorem bytes9 : Tryz.prog.bytesOf 9 = 16 := by kernel_rfl

section
variable {H : Type} {enc : TypeId × Value → H} {W : World}

theorem weightsAll_mem {e : TypeId} {d : DataW H} : ∀ {l : List (DataW H)}, d ∈ l → ∀ {x : Nat}, x ∈ d.weights Tryz.prog e → x ∈ DataW.weightsAll Tryz.prog e l
  | a :: r, h, x, hx => by
    rw [DataW.weightsAll, List.mem_append]
    rcases List.mem_cons.1 h with rfl | h
    · exact .inl hx
    · exact .inr (weightsAll_mem h hx)

theorem kids_of {B bl : Nat} {w : World} : ∀ (l : List Tree) (off : Nat), (∀ (i : Nat) (t : Tree), l[i]? = some t → ∃ v0 v1 v2 v3 v4 v5, (w.cell? ⟨bl, off + i * 6, none⟩ = some v0 ∧ w.cell? ⟨bl, off + i * 6 + 1, none⟩ = some v1 ∧ w.cell? ⟨bl, off + i * 6 + 2, none⟩ = some v2 ∧ w.cell? ⟨bl, off + i * 6 + 3, none⟩ = some v3 ∧
      w.cell? ⟨bl, off + i * 6 + 4, none⟩ = some v4 ∧ w.cell? ⟨bl, off + i * 6 + 5, none⟩ = some v5) ∧ Lies B w (.agg #[v0, v1, v2, v3, v4, v5]) t) → KidsLie B w bl off l
  | [], off, h => by simp only [KidsLie]
  | t :: l, off, h => by
    rw [KidsLie]
    refine ⟨?_, kids_of l (off + 6) fun i u hu => ?_⟩
    · have := h 0 t rfl
      simpa using this
    · have := h (i + 1) u (by simpa using hu)
      have e : off + (i + 1) * 6 = off + 6 + i * 6 := by omega
      rwa [e] at this

theorem sane_of : ∀ (l : List Tree), (∀ t ∈ l, Sane t) → SaneL l
  | [], _ => by simp only [SaneL]
  | t :: l, h => by
    rw [SaneL]
    exact ⟨h t (by simp), sane_of l fun u hu => h u (by simp [hu])⟩

/-- What is said of a value that is read. -/
def Opens (enc : TypeId × Value → H) (W : World) (fuel : Nat) : Prop := ∀ (cs : List Value) (d : DataW H) (p : List MemPlace), DataW.trod enc Tryz.prog W 0 (fun _ => true) true fuel 60 cs = some (d, p) →
  (∀ x ∈ d.weights Tryz.prog 60, x ≤ reachBytes) → ∃ T, Lies W.heap.size W (.agg cs.toArray) T ∧ Sane T

theorem open_list_value {fuel : Nat} (ih : ∀ m, m < fuel → Opens enc W m) {cs : List Value} {d : DataW H} {p : List MemPlace} (h : DataW.trod enc Tryz.prog W 0 (fun _ => true) true fuel 58 cs = some (d, p))
    (hw : ∀ x ∈ d.weights Tryz.prog 58, x ≤ reachBytes) :
    ∃ (la : Option Addr) (lc : Nat) (ts : List Tree), cs = [.slice la ts.length lc] ∧ ts.length ≤ lc ∧ lc ≤ maxLen ∧ ts.length ≤ 140737488355328 ∧ ListLies W.heap.size W la ts ∧ SaneL ts := by
  rcases DataW.trod_slice Tryz.underlying58 h with ⟨rfl, _⟩ | ⟨a, len, cap, elems, rest, n, hfu, rfl, hx, _, hl, hm, hlen, hel, _, _⟩
  · exact ⟨none, 0, [], rfl, Nat.le_refl _, by unfold maxLen; omega, by simp, .inl rfl, by simp only [SaneL]⟩
  · simp only [Prod.mk.injEq] at hx
    obtain ⟨rfl, _⟩ := hx
    simp only [DataW.weights, Tryz.underlying58, List.mem_cons, List.mem_append] at hw
    have hsz : len ≤ 140737488355328 := by
      have := hw _ (.inl rfl)
      rw [bytes60, List.length_map, List.length_map, hlen] at this
      unfold reachBytes at this
      omega
    have hc : ∀ i, i < len → ∃ t : Tree, (∃ v0 v1 v2 v3 v4 v5, (W.cell? ((a.add (i * 6)).add 0) = some v0 ∧ W.cell? ((a.add (i * 6)).add 1) = some v1 ∧ W.cell? ((a.add (i * 6)).add 2) = some v2 ∧ W.cell? ((a.add (i * 6)).add 3) = some v3 ∧ W.cell? ((a.add (i * 6)).add 4) = some v4 ∧ W.cell? ((a.add (i * 6)).add 5) = some v5) ∧
        Lies W.heap.size W (.agg #[v0, v1, v2, v3, v4, v5]) t) ∧ Sane t := by
      intro i hi
      have key := hel i hi
      rw [cells60, List.getElem?_eq_getElem (by omega)] at key
      obtain ⟨cs', h1, h2⟩ := Option.bind_eq_some_iff.1 key
      obtain ⟨_, hl6, hcell⟩ := World.cells?_some h1
      match cs', hl6 with
      | [v0, v1, v2, v3, v4, v5], _ =>
        obtain ⟨T, hT, hS⟩ := ih n (by omega) _ _ _ h2 (fun x hx => hw x (.inr (.inl (weightsAll_mem (List.mem_map.2 ⟨_, List.getElem_mem (by omega), rfl⟩) hx))))
        exact ⟨T, ⟨v0, v1, v2, v3, v4, v5, ⟨hcell 0 (by omega), hcell 1 (by omega), hcell 2 (by omega), hcell 3 (by omega), hcell 4 (by omega), hcell 5 (by omega)⟩, hT⟩, hS⟩
    have : Inhabited Tree := ⟨.mk 0 false 0 ⟨#[]⟩ [] []⟩
    obtain ⟨f, hf⟩ := choose_lt hc
    have hlt : ((List.range len).map f).length = len := by simp
    refine ⟨some a, cap, (List.range len).map f, by rw [hlt], by omega, hm, by omega, ?_, ?_⟩
    · by_cases h0 : len = 0
      · left; subst h0; rfl
      · right
        obtain ⟨bl, off, spot⟩ := a
        obtain ⟨v0, _, _, _, _, _, ⟨c0, _⟩, _⟩ := (hf 0 (by omega)).1
        have hspot : spot = none := by simpa [Addr.add] using World.cell?_spot c0
        subst hspot
        refine ⟨bl, off, rfl, lt_of_cell c0, kids_of _ _ ?_⟩
        intro i t hit
        rw [List.getElem?_map] at hit
        obtain ⟨j, hj, rfl⟩ := Option.map_eq_some_iff.1 hit
        rw [List.getElem?_eq_some_iff] at hj
        obtain ⟨hji, hjj⟩ := hj
        simp only [List.length_range, List.getElem_range] at hji hjj
        subst hjj
        obtain ⟨v0, v1, v2, v3, v4, v5, ⟨c0, c1, c2, c3, c4, c5⟩, hv⟩ := (hf _ hji).1
        rw [add_plain, add_plain] at c0 c1 c2 c3 c4 c5
        exact ⟨v0, v1, v2, v3, v4, v5, ⟨c0, c1, c2, c3, c4, c5⟩, hv⟩
    · refine sane_of _ fun t ht => ?_
      obtain ⟨j, hj, rfl⟩ := List.mem_map.1 ht
      exact (hf j (List.mem_range.1 hj)).2

set_option maxRecDepth 100000 in
theorem open_value : ∀ fuel, Opens enc W fuel := by
  intro fuel
  induction fuel using Nat.strongRecOn with
  | _ fuel ih =>
    intro cs d p h hw
    obtain ⟨xs, n, hfu, hx, hl, hlen, hf⟩ := DataW.trod_struct Tryz.underlying60 h
    rw [cells60] at hl
    match cs, hl with
    | [v0, v1, v2, v3, v4, v5], _ =>
      match xs, hlen with
      | [y0, y1, y2, y3, y4, y5], _ =>
        simp only [Prod.mk.injEq] at hx
        obtain ⟨rfl, _⟩ := hx
        have f0 : DataW.trod enc Tryz.prog W 0 (fun _ => true) true n 57 [v0] = some y0 := by simpa [cells57] using hf 0 { name := "Kind", type := 57, offset := 0, embedded := false, tag := "", pkgPath := "", byteOffset := 0 } rfl
        have f1 : DataW.trod enc Tryz.prog W 0 (fun _ => true) true n 4 [v1] = some y1 := by simpa [cells4] using hf 1 { name := "Bool", type := 4, offset := 1, embedded := false, tag := "", pkgPath := "", byteOffset := 8 } rfl
        have f2 : DataW.trod enc Tryz.prog W 0 (fun _ => true) true n 2 [v2] = some y2 := by simpa [cells2] using hf 2 { name := "Int", type := 2, offset := 2, embedded := false, tag := "", pkgPath := "", byteOffset := 16 } rfl
        have f3 : DataW.trod enc Tryz.prog W 0 (fun _ => true) true n 9 [v3] = some y3 := by simpa [cells9] using hf 3 { name := "Text", type := 9, offset := 3, embedded := false, tag := "", pkgPath := "", byteOffset := 24 } rfl
        have f4 : DataW.trod enc Tryz.prog W 0 (fun _ => true) true n 44 [v4] = some y4 := by simpa [cells44] using hf 4 { name := "Keys", type := 44, offset := 4, embedded := false, tag := "", pkgPath := "", byteOffset := 40 } rfl
        have f5 : DataW.trod enc Tryz.prog W 0 (fun _ => true) true n 58 [v5] = some y5 := by simpa [cells58] using hf 5 { name := "List", type := 58, offset := 5, embedded := false, tag := "", pkgPath := "", byteOffset := 64 } rfl
        obtain ⟨k, e0, _, _⟩ := DataW.trod_int Tryz.underlying57 f0
        obtain ⟨b, e1, _⟩ := DataW.trod_bool Tryz.underlying4 f1
        obtain ⟨m, e2, _, _⟩ := DataW.trod_int Tryz.underlying2 f2
        obtain ⟨s, e3, e3', hs⟩ := DataW.trod_string Tryz.underlying9 f3
        simp only [List.cons.injEq, and_true] at e0 e1 e2 e3
        subst e0 e1 e2 e3
        have hwe : ∀ x, (x ∈ y3.1.weights Tryz.prog 9 ∨ x ∈ y4.1.weights Tryz.prog 44 ∨ x ∈ y5.1.weights Tryz.prog 58) → x ≤ reachBytes := by
          intro x hx
          apply hw x
          simp only [DataW.weights, Tryz.underlying60, List.map_cons, List.map_nil, DataW.weightsEach, List.mem_append]
          rcases hx with h | h | h
          · exact .inr (.inr (.inr (.inl h)))
          · exact .inr (.inr (.inr (.inr (.inl h))))
          · exact .inr (.inr (.inr (.inr (.inr (.inl h)))))
        have hs2 : s.size ≤ 140737488355328 := by
          have := hwe s.size (.inl (by rw [e3']; simp [DataW.weights]))
          unfold reachBytes at this
          omega
        obtain ⟨la, lc, ts, e5, g1, g2, g3, g4, g5⟩ := open_list_value (fun m hm => ih m (by omega)) f5 (fun x hx => hwe x (.inr (.inr hx)))
        simp only [List.cons.injEq, and_true] at e5
        subst e5
        rcases open_strings Tryz.underlying44 Tryz.underlying9 cells9 f4 with ⟨e4, _⟩ | ⟨a, len, cap, ss, e4, _, hlc, hcm, hss, hx4, hcell, hsz⟩
        · simp only [List.cons.injEq, and_true] at e4
          subst e4
          refine ⟨.mk k b m s [] ts, ?_, ?_⟩
          · rw [Lies]
            exact ⟨none, 0, la, lc, rfl, ⟨hs, by simp, by unfold maxLen; omega, g1, g2⟩, .inl rfl, g4⟩
          · rw [Sane]
            exact ⟨hs2, by simp, g3, by simp, g5⟩
        · simp only [List.cons.injEq, and_true] at e4
          subst e4
          simp only [if_true] at hss
          have e : (ss.take len).length = len := by simp; omega
          have hwk : len ≤ 140737488355328 ∧ ∀ y ∈ ss.take len, y.size ≤ 140737488355328 := by
            rw [hx4] at hwe
            simp only [DataW.weights, Tryz.underlying44, List.mem_cons, List.mem_append] at hwe
            refine ⟨?_, fun y hy => ?_⟩
            · have := hwe _ (.inr (.inl (.inl rfl)))
              rw [bytes9] at this
              unfold reachBytes strs at this
              simp only [List.length_map, e] at this
              omega
            · have := hwe y.size (.inr (.inl (.inr (.inl (weightsAll_mem (d := .lit (.string y.data.toList)) (by unfold strs; exact List.mem_map.2 ⟨y, hy, rfl⟩) (by simp [DataW.weights]))))))
              unfold reachBytes at this
              omega
          refine ⟨.mk k b m s (ss.take len) ts, ?_, ?_⟩
          · rw [Lies]
            refine ⟨some a, cap, la, lc, by rw [e], ⟨hs, by omega, hcm, g1, g2⟩, ?_, g4⟩
            by_cases h0 : len = 0
            · left; subst h0; simp
            · right
              obtain ⟨bk, off, spot⟩ := a
              have c0 := hcell 0 (by omega)
              have hspot : spot = none := by simpa [Addr.add] using World.cell?_spot c0
              subst hspot
              refine ⟨bk, off, rfl, lt_of_cell c0, fun i hi => ?_⟩
              rw [e] at hi
              have hg : (ss.take len).getD i ⟨#[]⟩ = ss.getD i ByteArray.empty := by
                rw [List.getD_eq_getElem?_getD, List.getElem?_take_of_lt hi, List.getD_eq_getElem?_getD]; rfl
              rw [hg, ← add_plain]
              refine ⟨hcell i (by omega), ?_⟩
              rw [List.getD_eq_getElem?_getD, List.getElem?_eq_getElem (by omega)]
              exact hsz _ (List.getElem_mem _)
          · rw [Sane]
            exact ⟨hs2, by omega, g3, hwk.2, g5⟩
end
end Go.Proofs.YteddjlbfbpecjaaGreatDoor
