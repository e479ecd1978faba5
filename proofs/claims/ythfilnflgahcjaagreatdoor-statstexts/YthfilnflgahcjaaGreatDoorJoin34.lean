/- Counts, and what is asked of them, handed in: where they lie. Counts handed in: how long their names may be, too. -/
import Derived.Test.YthfilnflgahcjaaGreatDoorJoin33
import Derived.OpenShut
import Derived.SizedLaws
import Derived.ProofKit
import Derived.SliceStrings
import Derived.Deep.Slices
namespace Go.Proofs.YthfilnflgahcjaaGreatDoor
open Go.ChangeShapes Go.WideShapes Go.ChangeAt Go.RowKit Go.Shelf Go.Deep
set_option linter.unusedVariables false
set_option linter.unusedSimpArgs false
theorem cells28 : Tryz.prog.cellsOf 28 = 1 := by kernel_rfl
theorem cells29 : Tryz.prog.cellsOf 29 = 1 := by kernel_rfl
theorem cells30 : Tryz.prog.cellsOf 30 = 1 := by kernel_rfl
theorem cells31 : Tryz.prog.cellsOf 31 = 1 := by kernel_rfl
theorem cells43 : Tryz.prog.cellsOf 43 = 1 := by kernel_rfl
theorem cells44 : Tryz.prog.cellsOf 44 = 1 := by kernel_rfl
theorem cells33 : Tryz.prog.cellsOf 33 = 6 := by kernel_rfl
theorem cells46 : Tryz.prog.cellsOf 46 = 5 := by kernel_rfl
section
variable {H : Type} {enc : TypeId × Value → H} {W : World}
theorem weightsAll_mem {e : TypeId} {d : DataW H} : ∀ {l : List (DataW H)}, d ∈ l → ∀ {x : Nat}, x ∈ d.weights Tryz.prog e → x ∈ DataW.weightsAll Tryz.prog e l
  | a :: r, h, x, hx => by
    rw [DataW.weightsAll, List.mem_append]
    rcases List.mem_cons.1 h with rfl | h
    · exact .inl hx
    · exact .inr (weightsAll_mem h hx)
/-- A row that is handed in. -/
theorem open_row {α : Type} [Inhabited α] {st et k bytes : Nat} {en : α → List Value} {ok : α → Prop} (hu : Tryz.prog.underlying st = some (.slice et)) (hk : Tryz.prog.cellsOf et = k) (hby : Tryz.prog.bytesOf et = bytes) (hb0 : 0 < bytes) (hk0 : 0 < k) (hlen : ∀ x, (en x).length = k)
    (elem : ∀ fuel cs y, DataW.trod enc Tryz.prog W 0 (fun _ => true) true fuel et cs = some y → ∃ x : α, cs = en x ∧ ok x)
    {fuel : Nat} {cs : List Value} {d : DataW H} {p : List MemPlace} (h : DataW.trod enc Tryz.prog W 0 (fun _ => true) true fuel st cs = some (d, p)) (hw : ∀ x ∈ d.weights Tryz.prog st, x ≤ reachBytes) :
    ∃ v xs, cs = [v] ∧ SRow k en W.heap.size W v xs ∧ (∀ x ∈ xs, ok x) ∧ xs.length ≤ 140737488355328 := by
  rcases DataW.trod_slice hu h with ⟨rfl, _⟩ | ⟨a, len, cap, elems, rest, n, hfu, rfl, hx, _, hl, hm, hln, hel, _, _⟩
  · exact ⟨_, [], rfl, srow_nil k en _ _, fun x hx => by simp at hx, by simp⟩
  · simp only [Prod.mk.injEq] at hx
    obtain ⟨rfl, _⟩ := hx
    have hsz : len ≤ 140737488355328 := by
      have h1 := hw (((elems.map (·.1)).length + (rest.map (·.1)).length) * bytes) (by
        simp only [DataW.weights, hu, List.mem_cons, List.mem_append]
        exact .inl (by rw [hby]))
      rw [List.length_map, hln, Nat.add_mul] at h1
      unfold reachBytes at h1
      have h2 : len ≤ len * bytes := Nat.le_mul_of_pos_right len hb0
      omega
    have hc : ∀ i, i < len → ∃ x : α, (∀ j u, (en x)[j]? = some u → W.cell? ((a.add (i * k)).add j) = some u) ∧ ok x := by
      intro i hi
      have key := hel i hi
      rw [hk, List.getElem?_eq_getElem (by omega)] at key
      obtain ⟨cs', h1, h2⟩ := Option.bind_eq_some_iff.1 key
      obtain ⟨_, hl4, hcell⟩ := World.cells?_some h1
      obtain ⟨x, rfl, hx⟩ := elem _ _ _ h2
      refine ⟨x, fun j u hj => ?_, hx⟩
      obtain ⟨hj1, hj2⟩ := List.getElem?_eq_some_iff.1 hj
      rw [← hj2]
      rw [hcell j (by rw [hlen] at hj1; exact hj1)]
      exact List.getElem?_eq_getElem hj1
    obtain ⟨f, hf⟩ := choose_lt hc
    have hlt : ((List.range len).map f).length = len := by simp
    refine ⟨_, (List.range len).map f, rfl, ⟨some a, cap, by rw [hlt], by omega, ?_, ?_⟩, ?_, by omega⟩
    · unfold maxLen at hm; omega
    · by_cases h0 : len = 0
      · left; subst h0; rfl
      · right
        obtain ⟨bl, off, spot⟩ := a
        obtain ⟨u0, hu0⟩ : ∃ u, (en (f 0))[0]? = some u := ⟨_, List.getElem?_eq_getElem (by rw [hlen]; exact hk0)⟩
        have c0 := (hf 0 (by omega)).1 0 u0 hu0
        have hspot : spot = none := by simpa [Addr.add] using World.cell?_spot c0
        subst hspot
        rw [add_plain, add_plain] at c0
        refine ⟨bl, off, rfl, lt_of_cell c0, ?_⟩
        intro i x hix j u hj
        rw [List.getElem?_map] at hix
        obtain ⟨q, hq, rfl⟩ := Option.map_eq_some_iff.1 hix
        rw [List.getElem?_eq_some_iff] at hq
        obtain ⟨hji, hjj⟩ := hq
        simp only [List.length_range, List.getElem_range] at hji hjj
        subst hjj
        have c0 := (hf _ hji).1 j u hj
        rw [add_plain, add_plain] at c0
        exact c0
    · intro x hx
      obtain ⟨j, hj, rfl⟩ := List.mem_map.1 hx
      exact (hf j (List.mem_range.1 hj)).2
theorem open_str {fuel : Nat} {cs : List Value} {y : DataW H × List MemPlace} (h : DataW.trod enc Tryz.prog W 0 (fun _ => true) true fuel 9 cs = some y) : ∃ x : ByteArray, cs = strE x ∧ okS x := by
  obtain ⟨s, e2, _, h2⟩ := DataW.trod_string Tryz.underlying9 h
  exact ⟨s, e2, h2⟩
theorem open_int {fuel : Nat} {cs : List Value} {y : DataW H × List MemPlace} (h : DataW.trod enc Tryz.prog W 0 (fun _ => true) true fuel 2 cs = some y) : ∃ x : Int, cs = intE x ∧ W64 x := by
  obtain ⟨z, e, _, wf⟩ := DataW.trod_int Tryz.underlying2 h
  exact ⟨z, e, wf⟩
set_option maxRecDepth 100000 in
theorem open_lab {fuel : Nat} {cs : List Value} {y : DataW H × List MemPlace} (h : DataW.trod enc Tryz.prog W 0 (fun _ => true) true fuel 42 cs = some y) : ∃ x : ByteArray × Int, cs = labC x ∧ okL x := by
  obtain ⟨xs, n, hfu, hx, hl, hlen, hf⟩ := DataW.trod_struct Tryz.underlying42 h
  rw [cells42] at hl
  match cs, hl with
  | [v0, v1], _ =>
    match xs, hlen with
    | [y0, y1], _ =>
      have f0 : DataW.trod enc Tryz.prog W 0 (fun _ => true) true n 9 [v0] = some y0 := by simpa [cells9] using hf 0 { name := "Label", type := 9, offset := 0, embedded := false, tag := "", pkgPath := "", byteOffset := 0 } rfl
      have f1 : DataW.trod enc Tryz.prog W 0 (fun _ => true) true n 2 [v1] = some y1 := by simpa [cells2] using hf 1 { name := "Nodes", type := 2, offset := 1, embedded := false, tag := "", pkgPath := "", byteOffset := 16 } rfl
      obtain ⟨s, e0, hs⟩ := open_str f0
      obtain ⟨z, e1, hz⟩ := open_int f1
      simp only [strE, intE, List.cons.injEq, and_true] at e0 e1
      subst e0 e1
      exact ⟨(s, z), rfl, hs, hz⟩
set_option maxRecDepth 100000 in
theorem open_typ {fuel : Nat} {cs : List Value} {y : DataW H × List MemPlace} (h : DataW.trod enc Tryz.prog W 0 (fun _ => true) true fuel 62 cs = some y) : ∃ x : ByteArray × Int, cs = labC x ∧ okL x := by
  obtain ⟨xs, n, hfu, hx, hl, hlen, hf⟩ := DataW.trod_struct Tryz.underlying62 h
  rw [cells62] at hl
  match cs, hl with
  | [v0, v1], _ =>
    match xs, hlen with
    | [y0, y1], _ =>
      have f0 : DataW.trod enc Tryz.prog W 0 (fun _ => true) true n 9 [v0] = some y0 := by simpa [cells9] using hf 0 { name := "Type", type := 9, offset := 0, embedded := false, tag := "", pkgPath := "", byteOffset := 0 } rfl
      have f1 : DataW.trod enc Tryz.prog W 0 (fun _ => true) true n 2 [v1] = some y1 := by simpa [cells2] using hf 1 { name := "Rels", type := 2, offset := 1, embedded := false, tag := "", pkgPath := "", byteOffset := 16 } rfl
      obtain ⟨s, e0, hs⟩ := open_str f0
      obtain ⟨z, e1, hz⟩ := open_int f1
      simp only [strE, intE, List.cons.injEq, and_true] at e0 e1
      subst e0 e1
      exact ⟨(s, z), rfl, hs, hz⟩
set_option maxRecDepth 100000 in
theorem open_end {fuel : Nat} {cs : List Value} {y : DataW H × List MemPlace} (h : DataW.trod enc Tryz.prog W 0 (fun _ => true) true fuel 64 cs = some y) : ∃ x : EndR, cs = endC x ∧ okE x := by
  obtain ⟨xs, n, hfu, hx, hl, hlen, hf⟩ := DataW.trod_struct Tryz.underlying64 h
  rw [cells64] at hl
  match cs, hl with
  | [v0, v1, v2, v3], _ =>
    match xs, hlen with
    | [y0, y1, y2, y3], _ =>
      have f0 : DataW.trod enc Tryz.prog W 0 (fun _ => true) true n 9 [v0] = some y0 := by simpa [cells9] using hf 0 { name := "Type", type := 9, offset := 0, embedded := false, tag := "", pkgPath := "", byteOffset := 0 } rfl
      have f1 : DataW.trod enc Tryz.prog W 0 (fun _ => true) true n 9 [v1] = some y1 := by simpa [cells9] using hf 1 { name := "Label", type := 9, offset := 1, embedded := false, tag := "", pkgPath := "", byteOffset := 16 } rfl
      have f2 : DataW.trod enc Tryz.prog W 0 (fun _ => true) true n 4 [v2] = some y2 := by simpa [cells4] using hf 2 { name := "Out", type := 4, offset := 2, embedded := false, tag := "", pkgPath := "", byteOffset := 32 } rfl
      have f3 : DataW.trod enc Tryz.prog W 0 (fun _ => true) true n 2 [v3] = some y3 := by simpa [cells2] using hf 3 { name := "Rels", type := 2, offset := 3, embedded := false, tag := "", pkgPath := "", byteOffset := 40 } rfl
      obtain ⟨s, e0, hs⟩ := open_str f0
      obtain ⟨t, e1, ht⟩ := open_str f1
      obtain ⟨b, e2, _⟩ := DataW.trod_bool Tryz.underlying4 f2
      obtain ⟨z, e3, hz⟩ := open_int f3
      simp only [strE, intE, List.cons.injEq, and_true] at e0 e1 e2 e3
      subst e0 e1 e2 e3
      exact ⟨(s, t, b, z), rfl, hs, ht, hz⟩
set_option maxRecDepth 100000 in
theorem open_key {fuel : Nat} {cs : List Value} {y : DataW H × List MemPlace} (h : DataW.trod enc Tryz.prog W 0 (fun _ => true) true fuel 66 cs = some y) : ∃ x : KeyR, cs = keyC x ∧ okK x := by
  obtain ⟨xs, n, hfu, hx, hl, hlen, hf⟩ := DataW.trod_struct Tryz.underlying66 h
  rw [cells66] at hl
  match cs, hl with
  | [v0, v1, v2, v3], _ =>
    match xs, hlen with
    | [y0, y1, y2, y3], _ =>
      have f0 : DataW.trod enc Tryz.prog W 0 (fun _ => true) true n 9 [v0] = some y0 := by simpa [cells9] using hf 0 { name := "Label", type := 9, offset := 0, embedded := false, tag := "", pkgPath := "", byteOffset := 0 } rfl
      have f1 : DataW.trod enc Tryz.prog W 0 (fun _ => true) true n 9 [v1] = some y1 := by simpa [cells9] using hf 1 { name := "Key", type := 9, offset := 1, embedded := false, tag := "", pkgPath := "", byteOffset := 16 } rfl
      have f2 : DataW.trod enc Tryz.prog W 0 (fun _ => true) true n 2 [v2] = some y2 := by simpa [cells2] using hf 2 { name := "Nodes", type := 2, offset := 2, embedded := false, tag := "", pkgPath := "", byteOffset := 32 } rfl
      have f3 : DataW.trod enc Tryz.prog W 0 (fun _ => true) true n 2 [v3] = some y3 := by simpa [cells2] using hf 3 { name := "Values", type := 2, offset := 3, embedded := false, tag := "", pkgPath := "", byteOffset := 40 } rfl
      obtain ⟨s, e0, hs⟩ := open_str f0
      obtain ⟨t, e1, ht⟩ := open_str f1
      obtain ⟨z1, e2, h1⟩ := open_int f2
      obtain ⟨z2, e3, h2⟩ := open_int f3
      simp only [strE, intE, List.cons.injEq, and_true] at e0 e1 e2 e3
      subst e0 e1 e2 e3
      exact ⟨(s, t, z1, z2), rfl, hs, ht, h1, h2⟩
set_option maxRecDepth 100000 in
theorem open_stats {fuel : Nat} {cs : List Value} {d : DataW H} {p : List MemPlace} (h : DataW.trod enc Tryz.prog W 0 (fun _ => true) true fuel 33 cs = some (d, p)) (hw : ∀ x ∈ d.weights Tryz.prog 33, x ≤ reachBytes) :
    ∃ (s : StatP) (vl vt ve vk : Value), cs = [.int .i64 s.nodes, .int .i64 s.rels, vl, vt, ve, vk] ∧ StatO W.heap.size W vl vt ve vk s := by
  obtain ⟨xs, n, hfu, hx, hl, hlen, hf⟩ := DataW.trod_struct Tryz.underlying33 h
  rw [cells33] at hl
  match cs, hl with
  | [v0, v1, v2, v3, v4, v5], _ =>
    match xs, hlen with
    | [(y0, z0), (y1, z1), (y2, z2), (y3, z3), (y4, z4), (y5, z5)], _ =>
      simp only [Prod.mk.injEq] at hx
      obtain ⟨rfl, _⟩ := hx
      have f0 : DataW.trod enc Tryz.prog W 0 (fun _ => true) true n 2 [v0] = some (y0, z0) := by simpa [cells2] using hf 0 { name := "Nodes", type := 2, offset := 0, embedded := false, tag := "", pkgPath := "", byteOffset := 0 } rfl
      have f1 : DataW.trod enc Tryz.prog W 0 (fun _ => true) true n 2 [v1] = some (y1, z1) := by simpa [cells2] using hf 1 { name := "Rels", type := 2, offset := 1, embedded := false, tag := "", pkgPath := "", byteOffset := 8 } rfl
      have f2 : DataW.trod enc Tryz.prog W 0 (fun _ => true) true n 28 [v2] = some (y2, z2) := by simpa [cells28] using hf 2 { name := "Labels", type := 28, offset := 2, embedded := false, tag := "", pkgPath := "", byteOffset := 16 } rfl
      have f3 : DataW.trod enc Tryz.prog W 0 (fun _ => true) true n 29 [v3] = some (y3, z3) := by simpa [cells29] using hf 3 { name := "Types", type := 29, offset := 3, embedded := false, tag := "", pkgPath := "", byteOffset := 40 } rfl
      have f4 : DataW.trod enc Tryz.prog W 0 (fun _ => true) true n 30 [v4] = some (y4, z4) := by simpa [cells30] using hf 4 { name := "Ends", type := 30, offset := 4, embedded := false, tag := "", pkgPath := "", byteOffset := 64 } rfl
      have f5 : DataW.trod enc Tryz.prog W 0 (fun _ => true) true n 31 [v5] = some (y5, z5) := by simpa [cells31] using hf 5 { name := "Keys", type := 31, offset := 5, embedded := false, tag := "", pkgPath := "", byteOffset := 88 } rfl
      have hws : ∀ x, x ∈ y2.weights Tryz.prog 28 ∨ x ∈ y3.weights Tryz.prog 29 ∨ x ∈ y4.weights Tryz.prog 30 ∨ x ∈ y5.weights Tryz.prog 31 → x ≤ reachBytes := fun x hx => hw x (by
        simp only [DataW.weights, Tryz.underlying33, List.map_cons, List.map_nil, DataW.weightsEach, List.mem_append]
        rcases hx with hx | hx | hx | hx <;> simp [hx])
      obtain ⟨n1, e0, _⟩ := open_int f0
      obtain ⟨n2, e1, _⟩ := open_int f1
      obtain ⟨u2, l2, e2, r2, o2, m2⟩ := open_row (en := labC) (ok := okL) Tryz.underlying28 cells42 (by kernel_rfl : Tryz.prog.bytesOf 42 = 24) (by decide) (by decide) (fun _ => rfl) (fun _ _ _ h => open_lab h) f2 (fun x hx => hws x (.inl hx))
      obtain ⟨u3, l3, e3, r3, o3, m3⟩ := open_row (en := labC) (ok := okL) Tryz.underlying29 cells62 (by kernel_rfl : Tryz.prog.bytesOf 62 = 24) (by decide) (by decide) (fun _ => rfl) (fun _ _ _ h => open_typ h) f3 (fun x hx => hws x (.inr (.inl hx)))
      obtain ⟨u4, l4, e4, r4, o4, m4⟩ := open_row (en := endC) (ok := okE) Tryz.underlying30 cells64 (by kernel_rfl : Tryz.prog.bytesOf 64 = 48) (by decide) (by decide) (fun _ => rfl) (fun _ _ _ h => open_end h) f4 (fun x hx => hws x (.inr (.inr (.inl hx))))
      obtain ⟨u5, l5, e5, r5, o5, m5⟩ := open_row (en := keyC) (ok := okK) Tryz.underlying31 cells66 (by kernel_rfl : Tryz.prog.bytesOf 66 = 48) (by decide) (by decide) (fun _ => rfl) (fun _ _ _ h => open_key h) f5 (fun x hx => hws x (.inr (.inr (.inr hx))))
      simp only [intE, List.cons.injEq, and_true] at e0 e1 e2 e3 e4 e5
      subst e0 e1 e2 e3 e4 e5
      exact ⟨⟨n1, n2, l2, l3, l4, l5⟩, _, _, _, _, rfl, ⟨r2, r3, r4, r5, fun x hx => (o2 x hx).1, fun x hx => (o3 x hx).1, o4, o5, Nat.le_trans m2 (by decide), Nat.le_trans m3 (by decide), Nat.le_trans m4 (by decide), Nat.le_trans m5 (by decide)⟩⟩
set_option maxRecDepth 100000 in
theorem open_ask {fuel : Nat} {cs : List Value} {d : DataW H} {p : List MemPlace} (h : DataW.trod enc Tryz.prog W 0 (fun _ => true) true fuel 46 cs = some (d, p)) (hw : ∀ x ∈ d.weights Tryz.prog 46, x ≤ reachBytes) :
    ∃ (key : ByteArray) (dir : Int) (ls ts : List ByteArray) (ns : List Int) (vls vts vns : Value), cs = [vls, vts, .string key, .int .i64 dir, vns] ∧ SRow 1 strE W.heap.size W vls ls ∧ SRow 1 strE W.heap.size W vts ts ∧ SRow 1 intE W.heap.size W vns ns ∧ okS key ∧ (∀ x ∈ ls, okS x) ∧ ∀ x ∈ ts, okS x := by
  obtain ⟨xs, n, hfu, hx, hl, hlen, hf⟩ := DataW.trod_struct Tryz.underlying46 h
  rw [cells46] at hl
  match cs, hl with
  | [v0, v1, v2, v3, v4], _ =>
    match xs, hlen with
    | [(y0, z0), (y1, z1), (y2, z2), (y3, z3), (y4, z4)], _ =>
      simp only [Prod.mk.injEq] at hx
      obtain ⟨rfl, _⟩ := hx
      have f0 : DataW.trod enc Tryz.prog W 0 (fun _ => true) true n 43 [v0] = some (y0, z0) := by simpa [cells43] using hf 0 { name := "Labels", type := 43, offset := 0, embedded := false, tag := "", pkgPath := "", byteOffset := 0 } rfl
      have f1 : DataW.trod enc Tryz.prog W 0 (fun _ => true) true n 43 [v1] = some (y1, z1) := by simpa [cells43] using hf 1 { name := "Types", type := 43, offset := 1, embedded := false, tag := "", pkgPath := "", byteOffset := 24 } rfl
      have f2 : DataW.trod enc Tryz.prog W 0 (fun _ => true) true n 9 [v2] = some (y2, z2) := by simpa [cells9] using hf 2 { name := "Key", type := 9, offset := 2, embedded := false, tag := "", pkgPath := "", byteOffset := 48 } rfl
      have f3 : DataW.trod enc Tryz.prog W 0 (fun _ => true) true n 3 [v3] = some (y3, z3) := by simpa [cells3] using hf 3 { name := "Dir", type := 3, offset := 3, embedded := false, tag := "", pkgPath := "", byteOffset := 64 } rfl
      have f4 : DataW.trod enc Tryz.prog W 0 (fun _ => true) true n 44 [v4] = some (y4, z4) := by simpa [cells44] using hf 4 { name := "Numbers", type := 44, offset := 4, embedded := false, tag := "", pkgPath := "", byteOffset := 72 } rfl
      have hws : ∀ x, x ∈ y0.weights Tryz.prog 43 ∨ x ∈ y1.weights Tryz.prog 43 ∨ x ∈ y4.weights Tryz.prog 44 → x ≤ reachBytes := fun x hx => hw x (by
        simp only [DataW.weights, Tryz.underlying46, List.map_cons, List.map_nil, DataW.weightsEach, List.mem_append]
        rcases hx with hx | hx | hx <;> simp [hx])
      obtain ⟨u0, l0, e0, r0, o0, m0⟩ := open_row (en := strE) (ok := okS) Tryz.underlying43 cells9 (by kernel_rfl : Tryz.prog.bytesOf 9 = 16) (by decide) (by decide) (fun _ => rfl) (fun _ _ _ h => open_str h) f0 (fun x hx => hws x (.inl hx))
      obtain ⟨u1, l1, e1, r1, o1, m1⟩ := open_row (en := strE) (ok := okS) Tryz.underlying43 cells9 (by kernel_rfl : Tryz.prog.bytesOf 9 = 16) (by decide) (by decide) (fun _ => rfl) (fun _ _ _ h => open_str h) f1 (fun x hx => hws x (.inr (.inl hx)))
      obtain ⟨k, e2, hk⟩ := open_str f2
      obtain ⟨z, e3, _⟩ := DataW.trod_int Tryz.underlying3 f3
      obtain ⟨u4, l4, e4, r4, o4, m4⟩ := open_row (en := intE) (ok := W64) Tryz.underlying44 cells2 (by kernel_rfl : Tryz.prog.bytesOf 2 = 8) (by decide) (by decide) (fun _ => rfl) (fun _ _ _ h => open_int h) f4 (fun x hx => hws x (.inr (.inr hx)))
      simp only [strE, List.cons.injEq, and_true] at e0 e1 e2 e3 e4
      subst e0 e1 e2 e3 e4
      exact ⟨k, z, l0, l1, l4, _, _, _, rfl, r0, r1, r4, hk, o0, o1⟩
end
end Go.Proofs.YthfilnflgahcjaaGreatDoor

namespace Go.Proofs.YthfilnflgahcjaaGreatDoor
open Go.ChangeShapes Go.WideShapes Go.ChangeAt Go.RowKit Go.Shelf Go.Deep
set_option linter.unusedVariables false
set_option linter.unusedSimpArgs false
def okL2 (x : ByteArray × Int) : Prop := okL x ∧ x.1.size ≤ reachBytes
def okE2 (x : EndR) : Prop := okE x ∧ x.1.size ≤ reachBytes ∧ x.2.1.size ≤ reachBytes
def okK2 (x : KeyR) : Prop := okK x ∧ x.1.size ≤ reachBytes ∧ x.2.1.size ≤ reachBytes
/-- Counts whose numbers are numbers, and whose names may lie in a memory. -/
structure StatZ (s : StatP) : Prop where
  n : W64 s.nodes
  r : W64 s.rels
  l : ∀ x ∈ s.labels, W64 x.2 ∧ x.1.size ≤ reachBytes
  t : ∀ x ∈ s.types, W64 x.2 ∧ x.1.size ≤ reachBytes
  e : ∀ x ∈ s.ends, W64 x.2.2.2 ∧ x.1.size ≤ reachBytes ∧ x.2.1.size ≤ reachBytes
  k : ∀ x ∈ s.keys, (W64 x.2.2.1 ∧ W64 x.2.2.2) ∧ x.1.size ≤ reachBytes ∧ x.2.1.size ≤ reachBytes
section
variable {H : Type} {enc : TypeId × Value → H} {W : World}
/-- A row that is handed in. -/
theorem open_row2 {α : Type} [Inhabited α] {st et k bytes : Nat} {en : α → List Value} {ok : α → Prop} (hu : Tryz.prog.underlying st = some (.slice et)) (hk : Tryz.prog.cellsOf et = k) (hby : Tryz.prog.bytesOf et = bytes) (hb0 : 0 < bytes) (hk0 : 0 < k) (hlen : ∀ x, (en x).length = k)
    (elem : ∀ fuel cs y, DataW.trod enc Tryz.prog W 0 (fun _ => true) true fuel et cs = some y → (∀ x ∈ y.1.weights Tryz.prog et, x ≤ reachBytes) → ∃ x : α, cs = en x ∧ ok x)
    {fuel : Nat} {cs : List Value} {d : DataW H} {p : List MemPlace} (h : DataW.trod enc Tryz.prog W 0 (fun _ => true) true fuel st cs = some (d, p)) (hw : ∀ x ∈ d.weights Tryz.prog st, x ≤ reachBytes) :
    ∃ v xs, cs = [v] ∧ SRow k en W.heap.size W v xs ∧ (∀ x ∈ xs, ok x) ∧ xs.length ≤ 140737488355328 := by
  rcases DataW.trod_slice hu h with ⟨rfl, _⟩ | ⟨a, len, cap, elems, rest, n, hfu, rfl, hx, _, hl, hm, hln, hel, _, _⟩
  · exact ⟨_, [], rfl, srow_nil k en _ _, fun x hx => by simp at hx, by simp⟩
  · simp only [Prod.mk.injEq] at hx
    obtain ⟨rfl, _⟩ := hx
    have hsz : len ≤ 140737488355328 := by
      have h1 := hw (((elems.map (·.1)).length + (rest.map (·.1)).length) * bytes) (by
        simp only [DataW.weights, hu, List.mem_cons, List.mem_append]
        exact .inl (by rw [hby]))
      rw [List.length_map, hln, Nat.add_mul] at h1
      unfold reachBytes at h1
      have h2 : len ≤ len * bytes := Nat.le_mul_of_pos_right len hb0
      omega
    have hc : ∀ i, i < len → ∃ x : α, (∀ j u, (en x)[j]? = some u → W.cell? ((a.add (i * k)).add j) = some u) ∧ ok x := by
      intro i hi
      have key := hel i hi
      rw [hk, List.getElem?_eq_getElem (by omega)] at key
      obtain ⟨cs', h1, h2⟩ := Option.bind_eq_some_iff.1 key
      obtain ⟨_, hl4, hcell⟩ := World.cells?_some h1
      obtain ⟨x, rfl, hx⟩ := elem _ _ _ h2 fun z hz => hw z (by
        simp only [DataW.weights, hu, List.mem_cons, List.mem_append]
        exact .inr (.inl (weightsAll_mem (List.mem_map_of_mem (List.getElem_mem _)) hz)))
      refine ⟨x, fun j u hj => ?_, hx⟩
      obtain ⟨hj1, hj2⟩ := List.getElem?_eq_some_iff.1 hj
      rw [← hj2]
      rw [hcell j (by rw [hlen] at hj1; exact hj1)]
      exact List.getElem?_eq_getElem hj1
    obtain ⟨f, hf⟩ := choose_lt hc
    have hlt : ((List.range len).map f).length = len := by simp
    refine ⟨_, (List.range len).map f, rfl, ⟨some a, cap, by rw [hlt], by omega, ?_, ?_⟩, ?_, by omega⟩
    · unfold maxLen at hm; omega
    · by_cases h0 : len = 0
      · left; subst h0; rfl
      · right
        obtain ⟨bl, off, spot⟩ := a
        obtain ⟨u0, hu0⟩ : ∃ u, (en (f 0))[0]? = some u := ⟨_, List.getElem?_eq_getElem (by rw [hlen]; exact hk0)⟩
        have c0 := (hf 0 (by omega)).1 0 u0 hu0
        have hspot : spot = none := by simpa [Addr.add] using World.cell?_spot c0
        subst hspot
        rw [add_plain, add_plain] at c0
        refine ⟨bl, off, rfl, lt_of_cell c0, ?_⟩
        intro i x hix j u hj
        rw [List.getElem?_map] at hix
        obtain ⟨q, hq, rfl⟩ := Option.map_eq_some_iff.1 hix
        rw [List.getElem?_eq_some_iff] at hq
        obtain ⟨hji, hjj⟩ := hq
        simp only [List.length_range, List.getElem_range] at hji hjj
        subst hjj
        have c0 := (hf _ hji).1 j u hj
        rw [add_plain, add_plain] at c0
        exact c0
    · intro x hx
      obtain ⟨j, hj, rfl⟩ := List.mem_map.1 hx
      exact (hf j (List.mem_range.1 hj)).2
theorem open_str2 {fuel : Nat} {cs : List Value} {y : DataW H × List MemPlace} (h : DataW.trod enc Tryz.prog W 0 (fun _ => true) true fuel 9 cs = some y) : ∃ x : ByteArray, cs = strE x ∧ okS x ∧ x.size ∈ y.1.weights Tryz.prog 9 := by
  obtain ⟨s, e2, hy, h2⟩ := DataW.trod_string Tryz.underlying9 h
  refine ⟨s, e2, h2, ?_⟩
  rw [hy]
  simp [DataW.weights]
set_option maxRecDepth 100000 in
theorem open_lab2 {fuel : Nat} {cs : List Value} {y : DataW H × List MemPlace} (h : DataW.trod enc Tryz.prog W 0 (fun _ => true) true fuel 42 cs = some y) (hw : ∀ x ∈ y.1.weights Tryz.prog 42, x ≤ reachBytes) : ∃ x : ByteArray × Int, cs = labC x ∧ okL2 x := by
  obtain ⟨xs, n, hfu, hx, hl, hlen, hf⟩ := DataW.trod_struct Tryz.underlying42 h
  rw [cells42] at hl
  match cs, hl with
  | [v0, v1], _ =>
    match xs, hlen with
    | [y0, y1], _ =>
      subst hx
      have f0 : DataW.trod enc Tryz.prog W 0 (fun _ => true) true n 9 [v0] = some y0 := by simpa [cells9] using hf 0 { name := "Label", type := 9, offset := 0, embedded := false, tag := "", pkgPath := "", byteOffset := 0 } rfl
      have f1 : DataW.trod enc Tryz.prog W 0 (fun _ => true) true n 2 [v1] = some y1 := by simpa [cells2] using hf 1 { name := "Nodes", type := 2, offset := 1, embedded := false, tag := "", pkgPath := "", byteOffset := 16 } rfl
      obtain ⟨s0, e0, h0, m0⟩ := open_str2 f0
      obtain ⟨s1, e1, h1⟩ := open_int f1
      have q0 := hw _ (show s0.size ∈ _ by simp only [DataW.weights, Tryz.underlying42, List.map_cons, List.map_nil, DataW.weightsEach, List.mem_append]; simp [m0])
      simp only [strE, intE, List.cons.injEq, and_true] at e0 e1
      subst e0 e1
      exact ⟨(s0, s1), rfl, ⟨h0, h1⟩, q0⟩
set_option maxRecDepth 100000 in
theorem open_typ2 {fuel : Nat} {cs : List Value} {y : DataW H × List MemPlace} (h : DataW.trod enc Tryz.prog W 0 (fun _ => true) true fuel 62 cs = some y) (hw : ∀ x ∈ y.1.weights Tryz.prog 62, x ≤ reachBytes) : ∃ x : ByteArray × Int, cs = labC x ∧ okL2 x := by
  obtain ⟨xs, n, hfu, hx, hl, hlen, hf⟩ := DataW.trod_struct Tryz.underlying62 h
  rw [cells62] at hl
  match cs, hl with
  | [v0, v1], _ =>
    match xs, hlen with
    | [y0, y1], _ =>
      subst hx
      have f0 : DataW.trod enc Tryz.prog W 0 (fun _ => true) true n 9 [v0] = some y0 := by simpa [cells9] using hf 0 { name := "Type", type := 9, offset := 0, embedded := false, tag := "", pkgPath := "", byteOffset := 0 } rfl
      have f1 : DataW.trod enc Tryz.prog W 0 (fun _ => true) true n 2 [v1] = some y1 := by simpa [cells2] using hf 1 { name := "Rels", type := 2, offset := 1, embedded := false, tag := "", pkgPath := "", byteOffset := 16 } rfl
      obtain ⟨s0, e0, h0, m0⟩ := open_str2 f0
      obtain ⟨s1, e1, h1⟩ := open_int f1
      have q0 := hw _ (show s0.size ∈ _ by simp only [DataW.weights, Tryz.underlying62, List.map_cons, List.map_nil, DataW.weightsEach, List.mem_append]; simp [m0])
      simp only [strE, intE, List.cons.injEq, and_true] at e0 e1
      subst e0 e1
      exact ⟨(s0, s1), rfl, ⟨h0, h1⟩, q0⟩
set_option maxRecDepth 100000 in
theorem open_end2 {fuel : Nat} {cs : List Value} {y : DataW H × List MemPlace} (h : DataW.trod enc Tryz.prog W 0 (fun _ => true) true fuel 64 cs = some y) (hw : ∀ x ∈ y.1.weights Tryz.prog 64, x ≤ reachBytes) : ∃ x : EndR, cs = endC x ∧ okE2 x := by
  obtain ⟨xs, n, hfu, hx, hl, hlen, hf⟩ := DataW.trod_struct Tryz.underlying64 h
  rw [cells64] at hl
  match cs, hl with
  | [v0, v1, v2, v3], _ =>
    match xs, hlen with
    | [y0, y1, y2, y3], _ =>
      subst hx
      have f0 : DataW.trod enc Tryz.prog W 0 (fun _ => true) true n 9 [v0] = some y0 := by simpa [cells9] using hf 0 { name := "Type", type := 9, offset := 0, embedded := false, tag := "", pkgPath := "", byteOffset := 0 } rfl
      have f1 : DataW.trod enc Tryz.prog W 0 (fun _ => true) true n 9 [v1] = some y1 := by simpa [cells9] using hf 1 { name := "Label", type := 9, offset := 1, embedded := false, tag := "", pkgPath := "", byteOffset := 16 } rfl
      have f2 : DataW.trod enc Tryz.prog W 0 (fun _ => true) true n 4 [v2] = some y2 := by simpa [cells4] using hf 2 { name := "Out", type := 4, offset := 2, embedded := false, tag := "", pkgPath := "", byteOffset := 32 } rfl
      have f3 : DataW.trod enc Tryz.prog W 0 (fun _ => true) true n 2 [v3] = some y3 := by simpa [cells2] using hf 3 { name := "Rels", type := 2, offset := 3, embedded := false, tag := "", pkgPath := "", byteOffset := 40 } rfl
      obtain ⟨s0, e0, h0, m0⟩ := open_str2 f0
      obtain ⟨s1, e1, h1, m1⟩ := open_str2 f1
      obtain ⟨s2, e2, _⟩ := DataW.trod_bool Tryz.underlying4 f2
      obtain ⟨s3, e3, h3⟩ := open_int f3
      have q0 := hw _ (show s0.size ∈ _ by simp only [DataW.weights, Tryz.underlying64, List.map_cons, List.map_nil, DataW.weightsEach, List.mem_append]; simp [m0])
      have q1 := hw _ (show s1.size ∈ _ by simp only [DataW.weights, Tryz.underlying64, List.map_cons, List.map_nil, DataW.weightsEach, List.mem_append]; simp [m1])
      simp only [strE, intE, List.cons.injEq, and_true] at e0 e1 e2 e3
      subst e0 e1 e2 e3
      exact ⟨(s0, s1, s2, s3), rfl, ⟨h0, h1, h3⟩, q0, q1⟩
set_option maxRecDepth 100000 in
theorem open_key2 {fuel : Nat} {cs : List Value} {y : DataW H × List MemPlace} (h : DataW.trod enc Tryz.prog W 0 (fun _ => true) true fuel 66 cs = some y) (hw : ∀ x ∈ y.1.weights Tryz.prog 66, x ≤ reachBytes) : ∃ x : KeyR, cs = keyC x ∧ okK2 x := by
  obtain ⟨xs, n, hfu, hx, hl, hlen, hf⟩ := DataW.trod_struct Tryz.underlying66 h
  rw [cells66] at hl
  match cs, hl with
  | [v0, v1, v2, v3], _ =>
    match xs, hlen with
    | [y0, y1, y2, y3], _ =>
      subst hx
      have f0 : DataW.trod enc Tryz.prog W 0 (fun _ => true) true n 9 [v0] = some y0 := by simpa [cells9] using hf 0 { name := "Label", type := 9, offset := 0, embedded := false, tag := "", pkgPath := "", byteOffset := 0 } rfl
      have f1 : DataW.trod enc Tryz.prog W 0 (fun _ => true) true n 9 [v1] = some y1 := by simpa [cells9] using hf 1 { name := "Key", type := 9, offset := 1, embedded := false, tag := "", pkgPath := "", byteOffset := 16 } rfl
      have f2 : DataW.trod enc Tryz.prog W 0 (fun _ => true) true n 2 [v2] = some y2 := by simpa [cells2] using hf 2 { name := "Nodes", type := 2, offset := 2, embedded := false, tag := "", pkgPath := "", byteOffset := 32 } rfl
      have f3 : DataW.trod enc Tryz.prog W 0 (fun _ => true) true n 2 [v3] = some y3 := by simpa [cells2] using hf 3 { name := "Values", type := 2, offset := 3, embedded := false, tag := "", pkgPath := "", byteOffset := 40 } rfl
      obtain ⟨s0, e0, h0, m0⟩ := open_str2 f0
      obtain ⟨s1, e1, h1, m1⟩ := open_str2 f1
      obtain ⟨s2, e2, h2⟩ := open_int f2
      obtain ⟨s3, e3, h3⟩ := open_int f3
      have q0 := hw _ (show s0.size ∈ _ by simp only [DataW.weights, Tryz.underlying66, List.map_cons, List.map_nil, DataW.weightsEach, List.mem_append]; simp [m0])
      have q1 := hw _ (show s1.size ∈ _ by simp only [DataW.weights, Tryz.underlying66, List.map_cons, List.map_nil, DataW.weightsEach, List.mem_append]; simp [m1])
      simp only [strE, intE, List.cons.injEq, and_true] at e0 e1 e2 e3
      subst e0 e1 e2 e3
      exact ⟨(s0, s1, s2, s3), rfl, ⟨h0, h1, h2, h3⟩, q0, q1⟩
set_option maxRecDepth 100000 in
theorem open_stats2 {fuel : Nat} {cs : List Value} {d : DataW H} {p : List MemPlace} (h : DataW.trod enc Tryz.prog W 0 (fun _ => true) true fuel 33 cs = some (d, p)) (hw : ∀ x ∈ d.weights Tryz.prog 33, x ≤ reachBytes) :
    ∃ (s : StatP) (vl vt ve vk : Value), cs = [.int .i64 s.nodes, .int .i64 s.rels, vl, vt, ve, vk] ∧ StatO W.heap.size W vl vt ve vk s ∧ StatZ s := by
  obtain ⟨xs, n, hfu, hx, hl, hlen, hf⟩ := DataW.trod_struct Tryz.underlying33 h
  rw [cells33] at hl
  match cs, hl with
  | [v0, v1, v2, v3, v4, v5], _ =>
    match xs, hlen with
    | [(y0, z0), (y1, z1), (y2, z2), (y3, z3), (y4, z4), (y5, z5)], _ =>
      simp only [Prod.mk.injEq] at hx
      obtain ⟨rfl, _⟩ := hx
      have f0 : DataW.trod enc Tryz.prog W 0 (fun _ => true) true n 2 [v0] = some (y0, z0) := by simpa [cells2] using hf 0 { name := "Nodes", type := 2, offset := 0, embedded := false, tag := "", pkgPath := "", byteOffset := 0 } rfl
      have f1 : DataW.trod enc Tryz.prog W 0 (fun _ => true) true n 2 [v1] = some (y1, z1) := by simpa [cells2] using hf 1 { name := "Rels", type := 2, offset := 1, embedded := false, tag := "", pkgPath := "", byteOffset := 8 } rfl
      have f2 : DataW.trod enc Tryz.prog W 0 (fun _ => true) true n 28 [v2] = some (y2, z2) := by simpa [cells28] using hf 2 { name := "Labels", type := 28, offset := 2, embedded := false, tag := "", pkgPath := "", byteOffset := 16 } rfl
      have f3 : DataW.trod enc Tryz.prog W 0 (fun _ => true) true n 29 [v3] = some (y3, z3) := by simpa [cells29] using hf 3 { name := "Types", type := 29, offset := 3, embedded := false, tag := "", pkgPath := "", byteOffset := 40 } rfl
      have f4 : DataW.trod enc Tryz.prog W 0 (fun _ => true) true n 30 [v4] = some (y4, z4) := by simpa [cells30] using hf 4 { name := "Ends", type := 30, offset := 4, embedded := false, tag := "", pkgPath := "", byteOffset := 64 } rfl
      have f5 : DataW.trod enc Tryz.prog W 0 (fun _ => true) true n 31 [v5] = some (y5, z5) := by simpa [cells31] using hf 5 { name := "Keys", type := 31, offset := 5, embedded := false, tag := "", pkgPath := "", byteOffset := 88 } rfl
      have hws : ∀ x, x ∈ y2.weights Tryz.prog 28 ∨ x ∈ y3.weights Tryz.prog 29 ∨ x ∈ y4.weights Tryz.prog 30 ∨ x ∈ y5.weights Tryz.prog 31 → x ≤ reachBytes := fun x hx => hw x (by
        simp only [DataW.weights, Tryz.underlying33, List.map_cons, List.map_nil, DataW.weightsEach, List.mem_append]
        rcases hx with hx | hx | hx | hx <;> simp [hx])
      obtain ⟨n1, e0, w1⟩ := open_int f0
      obtain ⟨n2, e1, w2⟩ := open_int f1
      obtain ⟨u2, l2, e2, r2, o2, m2⟩ := open_row2 (en := labC) (ok := okL2) Tryz.underlying28 cells42 (by kernel_rfl : Tryz.prog.bytesOf 42 = 24) (by decide) (by decide) (fun _ => rfl) (fun _ _ _ h hw => open_lab2 h hw) f2 (fun x hx => hws x (.inl hx))
      obtain ⟨u3, l3, e3, r3, o3, m3⟩ := open_row2 (en := labC) (ok := okL2) Tryz.underlying29 cells62 (by kernel_rfl : Tryz.prog.bytesOf 62 = 24) (by decide) (by decide) (fun _ => rfl) (fun _ _ _ h hw => open_typ2 h hw) f3 (fun x hx => hws x (.inr (.inl hx)))
      obtain ⟨u4, l4, e4, r4, o4, m4⟩ := open_row2 (en := endC) (ok := okE2) Tryz.underlying30 cells64 (by kernel_rfl : Tryz.prog.bytesOf 64 = 48) (by decide) (by decide) (fun _ => rfl) (fun _ _ _ h hw => open_end2 h hw) f4 (fun x hx => hws x (.inr (.inr (.inl hx))))
      obtain ⟨u5, l5, e5, r5, o5, m5⟩ := open_row2 (en := keyC) (ok := okK2) Tryz.underlying31 cells66 (by kernel_rfl : Tryz.prog.bytesOf 66 = 48) (by decide) (by decide) (fun _ => rfl) (fun _ _ _ h hw => open_key2 h hw) f5 (fun x hx => hws x (.inr (.inr (.inr hx))))
      simp only [intE, List.cons.injEq, and_true] at e0 e1 e2 e3 e4 e5
      subst e0 e1 e2 e3 e4 e5
      exact ⟨⟨n1, n2, l2, l3, l4, l5⟩, _, _, _, _, rfl, ⟨r2, r3, r4, r5, fun x hx => (o2 x hx).1.1, fun x hx => (o3 x hx).1.1, fun x hx => (o4 x hx).1, fun x hx => (o5 x hx).1, Nat.le_trans m2 (by decide), Nat.le_trans m3 (by decide), Nat.le_trans m4 (by decide), Nat.le_trans m5 (by decide)⟩, ⟨w1, w2, fun x hx => ⟨(o2 x hx).1.2, (o2 x hx).2⟩, fun x hx => ⟨(o3 x hx).1.2, (o3 x hx).2⟩, fun x hx => ⟨(o4 x hx).1.2.2, (o4 x hx).2⟩, fun x hx => ⟨(o5 x hx).1.2.2, (o5 x hx).2⟩⟩⟩
end
end Go.Proofs.YthfilnflgahcjaaGreatDoor

