/- GraphNil's own walk. Properties, and a step of a script, that are handed in. -/
import Derived.Test.YteddjlbfbpecjaaGreatDoorGed24
import Derived.Test.YteddjlbfbpecjaaGreatDoorNoth
import Derived.Test.YteddjlbfbpecjaaGreatDoorGbig
import Derived.Test.YteddjlbfbpecjaaGreatDoorOpens
namespace Go.Proofs.YteddjlbfbpecjaaGreatDoor
open Go.RowKit Go.Shelf
set_option linter.unusedVariables false
set_option linter.unusedSimpArgs false
attribute [local go_sem] Oper.semAt_some
set_option maxRecDepth 100000 in
set_option maxHeartbeats 8000000 in
theorem nil_law (s : St) (T : Tree) (ps : List (ByteArray × Tree)) (w : World) (hv : Lies w.heap.size w (.agg #[.int .i64 s.vk, .bool s.vb, .int .i64 s.vn, .string s.vs, .slice s.ka s.kn s.kc, .slice s.ya s.yn s.yc]) T) (hp : PropsLie w.heap.size w (.slice s.pa s.pn s.pc) ps) (hk : s.key.size ≤ 9223372036854775807) (hE : Env w) :
    Calls Tryz.prog 7 #[s.val] w fun e w' => e = .returned (.bool true) ∧ Below w.heap.size w w' := by
  have HBg := hidE (fun W (hb : Below w.heap.size w W) => big_some s T ps w.heap.size W hb.size (hv.below hb) (hp.below hb) hk)
  have HNo := hidE (fun p hp0 W h => nothing_no p hp0 s W h)
  have HKn := hidE (fun W (hb : Below w.heap.size w W) => known_any W (hE.below hb hE.room))
  have HCS : Hid (∀ (W : World) (b i : Nat) (v : Value), W.heap[b]? = some (.cells s.cells 62 (0, 0)) → s.cells[i]? = some v → W.cell? ⟨b, i, none⟩ = some v) := fun W b i v h hi => st_cell h hi
  obtain ⟨k, id, to_, rel, key, la, ln, lc, pa, pn, pc, vk, vb, vn, vs, ka, kn, kc, ya, yn, yc⟩ := s
  clear hv hp hk hE
  unfold St.val St.cells at HBg HNo
  unfold St.val St.cells
  unfold St.cells at HCS
  simp only at HCS HBg HNo ⊢
  go_enter Tryz.func7, Tryz.ntmps7
  go_upto_region 1 with fail
  generalize hW1 : World.alloc _ _ = W1
  have HB1 : Hid (Below w.heap.size w W1) := by rw [← hW1]; exact (Below.refl _ _).alloc (Nat.le_refl _) _
  have HX : Hid (∀ W, Below W1.heap.size W1 W → W.cell? ⟨w.heap.size, 0, none⟩ = some (.int .i64 k) ∧ W.cell? ⟨w.heap.size, 1, none⟩ = some (.int .i64 id) ∧ W.cell? ⟨w.heap.size, 2, none⟩ = some (.int .i64 to_) ∧ W.cell? ⟨w.heap.size, 3, none⟩ = some (.bool rel) ∧ W.cell? ⟨w.heap.size, 4, none⟩ = some (.string key) ∧ W.cell? ⟨w.heap.size, 5, none⟩ = some (.slice la ln lc) ∧ W.cell? ⟨w.heap.size, 6, none⟩ = some (.slice pa pn pc) ∧ W.cell? ⟨w.heap.size, 7, none⟩ = some (.int .i64 vk) ∧ W.cell? ⟨w.heap.size, 8, none⟩ = some (.bool vb) ∧ W.cell? ⟨w.heap.size, 9, none⟩ = some (.int .i64 vn) ∧ W.cell? ⟨w.heap.size, 10, none⟩ = some (.string vs) ∧ W.cell? ⟨w.heap.size, 11, none⟩ = some (.slice ka kn kc) ∧ W.cell? ⟨w.heap.size, 12, none⟩ = some (.slice ya yn yc)) := by
    intro W hb
    have hh : W.heap[w.heap.size]? = some (.cells #[.int .i64 k, .int .i64 id, .int .i64 to_, .bool rel, .string key, .slice la ln lc, .slice pa pn pc, .int .i64 vk, .bool vb, .int .i64 vn, .string vs, .slice ka kn kc, .slice ya yn yc] 62 (0, 0)) := by
      rw [hb.block _ (by rw [← hW1]; simp), ← hW1]
      exact World.alloc_heap_new _ _
    exact ⟨HCS.out _ _ _ _ hh rfl, HCS.out _ _ _ _ hh rfl, HCS.out _ _ _ _ hh rfl, HCS.out _ _ _ _ hh rfl, HCS.out _ _ _ _ hh rfl, HCS.out _ _ _ _ hh rfl, HCS.out _ _ _ _ hh rfl, HCS.out _ _ _ _ hh rfl, HCS.out _ _ _ _ hh rfl, HCS.out _ _ _ _ hh rfl, HCS.out _ _ _ _ hh rfl, HCS.out _ _ _ _ hh rfl, HCS.out _ _ _ _ hh rfl⟩
  clear hW1 HCS
  obtain ⟨b, hb⟩ : ∃ b, w.heap.size = b := ⟨_, rfl⟩
  have HBB := hidE hb
  rw [hb] at HX ⊢
  clear hb
  obtain ⟨c0, c1, c2, c3, c4, c5, c6, c7, c8, c9, c10, c11, c12⟩ := HX.out W1 (Below.refl _ _)
  go_wp2_with fail
  refine (HBg.out W1 HB1.out).mono ?_
  rintro e w2 ⟨⟨bb, rfl⟩, hb2⟩
  have HB2 := hidE hb2
  clear hb2 c0 c1 c2 c3 c4 c5 c6 c7 c8 c9 c10 c11 c12 HBg
  cases bb with
  | true =>
    go_wp2_with fail
    refine (HKn.out w2 (below_on HB1.out HB2.out)).mono ?_
    rintro e w3 ⟨rfl, hb3⟩
    have HB3 := hidE (below_on HB1.out (below_on HB2.out hb3))
    clear hb3
    go_wp2_with fail
    go_ret
    exact ⟨rfl, HB3.out⟩
  | false =>
    obtain ⟨c0, c1, c2, c3, c4, c5, c6, c7, c8, c9, c10, c11, c12⟩ := HX.out w2 HB2.out
    go_wp2_with fail
    refine (HNo.out (.pointer none) ⟨_, rfl⟩ w2 (.inl rfl)).mono ?_
    rintro e w3 ⟨rfl, hb3⟩
    have HB3 := hidE (below_on HB2.out hb3)
    clear hb3 c0 c1 c2 c3 c4 c5 c6 c7 c8 c9 c10 c11 c12
    obtain ⟨W4, hW4⟩ : ∃ W4, w3.alloc (.cells #[.map none, .map none, .int .i64 0, .int .i64 0, .map none, .map none] 74) = W4 := ⟨_, rfl⟩
    have HB4 : Hid (Below W1.heap.size W1 W4) := by rw [← hW4]; exact HB3.out.alloc HB3.out.size _
    have HN4 : Hid (NoG W4 (.pointer (some ⟨w3.heap.size, 0, none⟩))) := by rw [← hW4]; exact .inr ⟨_, rfl, World.alloc_heap_new _ _⟩
    obtain ⟨c0, c1, c2, c3, c4, c5, c6, c7, c8, c9, c10, c11, c12⟩ := HX.out W4 HB4.out
    go_wp2_with fail
    refine (HNo.out _ ⟨_, rfl⟩ W4 HN4.out).mono ?_
    rintro e w5 ⟨rfl, hb5⟩
    have HB5 := hidE (below_on HB4.out hb5)
    clear hb5 c0 c1 c2 c3 c4 c5 c6 c7 c8 c9 c10 c11 c12 hW4 HN4
    go_wp2_with fail
    refine (HKn.out w5 (below_on HB1.out HB5.out)).mono ?_
    rintro e w6 ⟨rfl, hb6⟩
    have HB6 := hidE (below_on HB1.out (below_on HB5.out hb6))
    clear hb6
    go_wp2_with fail
    go_ret
    exact ⟨rfl, HB6.out⟩
end Go.Proofs.YteddjlbfbpecjaaGreatDoor

namespace Go.Proofs.YteddjlbfbpecjaaGreatDoor
open Go.ChangeShapes Go.WideShapes Go.ChangeAt Go.RowKit Go.Shelf Go.Deep
set_option linter.unusedVariables false
theorem cells79 : Tryz.prog.cellsOf 79 = 7 := by kernel_rfl
theorem cells62 : Tryz.prog.cellsOf 62 = 13 := by kernel_rfl
theorem cells45 : Tryz.prog.cellsOf 45 = 1 := by kernel_rfl
theorem cells3 : Tryz.prog.cellsOf 3 = 1 := by kernel_rfl
section
variable {H : Type} {enc : TypeId × Value → H} {W : World}
set_option maxRecDepth 100000 in
theorem open_prop {fuel : Nat} {cs : List Value} {d : DataW H} {p : List MemPlace} (h : DataW.trod enc Tryz.prog W 0 (fun _ => true) true fuel 79 cs = some (d, p)) (hw : ∀ x ∈ d.weights Tryz.prog 79, x ≤ reachBytes) :
    ∃ (key : ByteArray) (v0 v1 v2 v3 v4 v5 : Value) (T : Tree), cs = [.string key, v0, v1, v2, v3, v4, v5] ∧ key.size ≤ maxLen ∧ Lies W.heap.size W (.agg #[v0, v1, v2, v3, v4, v5]) T := by
  obtain ⟨xs, n, hfu, hx, hl, hlen, hf⟩ := DataW.trod_struct Tryz.underlying79 h
  rw [cells79] at hl
  match cs, hl with
  | [u, v0, v1, v2, v3, v4, v5], _ =>
    match xs, hlen with
    | [y1, y2], _ =>
      simp only [Prod.mk.injEq] at hx
      obtain ⟨rfl, _⟩ := hx
      have f1 : DataW.trod enc Tryz.prog W 0 (fun _ => true) true n 9 [u] = some y1 := by simpa [cells9] using hf 0 { name := "Key", type := 9, offset := 0, embedded := false, tag := "", pkgPath := "", byteOffset := 0 } rfl
      have f2 : DataW.trod enc Tryz.prog W 0 (fun _ => true) true n 60 [v0, v1, v2, v3, v4, v5] = some y2 := by simpa [cells60] using hf 1 { name := "Value", type := 60, offset := 1, embedded := false, tag := "", pkgPath := "", byteOffset := 16 } rfl
      obtain ⟨s, e1, _, hs⟩ := DataW.trod_string Tryz.underlying9 f1
      simp only [List.cons.injEq, and_true] at e1
      subst e1
      have hwe : ∀ x, x ∈ y2.1.weights Tryz.prog 60 → x ≤ reachBytes := by
        intro x hx
        apply hw x
        simp only [DataW.weights, Tryz.underlying79, List.map_cons, List.map_nil, DataW.weightsEach, List.mem_append]
        exact .inr (.inl hx)
      obtain ⟨T, hT, _⟩ := open_value n _ _ _ f2 (fun x hx => hwe x hx)
      exact ⟨s, v0, v1, v2, v3, v4, v5, T, rfl, hs, hT⟩
theorem open_props {fuel : Nat} {cs : List Value} {d : DataW H} {p : List MemPlace} (h : DataW.trod enc Tryz.prog W 0 (fun _ => true) true fuel 45 cs = some (d, p)) (hw : ∀ x ∈ d.weights Tryz.prog 45, x ≤ reachBytes) :
    ∃ (la : Option Addr) (lc : Nat) (ps : List (ByteArray × Tree)), cs = [.slice la ps.length lc] ∧ PropsLie W.heap.size W (.slice la ps.length lc) ps := by
  rcases DataW.trod_slice Tryz.underlying45 h with ⟨rfl, _⟩ | ⟨a, len, cap, elems, rest, n, hfu, rfl, hx, _, hl, hm, hlen, hel, _, _⟩
  · exact ⟨none, 0, [], rfl, none, 0, rfl, Nat.le_refl _, by decide, .inl rfl⟩
  · simp only [Prod.mk.injEq] at hx
    obtain ⟨rfl, _⟩ := hx
    simp only [DataW.weights, Tryz.underlying45, List.mem_cons, List.mem_append] at hw
    have hc : ∀ i, i < len → ∃ q : ByteArray × Tree, W.cell? ((a.add (i * 7)).add 0) = some (.string q.1) ∧ q.1.size ≤ maxLen ∧ ∃ v0 v1 v2 v3 v4 v5, (W.cell? ((a.add (i * 7)).add 1) = some v0 ∧ W.cell? ((a.add (i * 7)).add 2) = some v1 ∧ W.cell? ((a.add (i * 7)).add 3) = some v2 ∧ W.cell? ((a.add (i * 7)).add 4) = some v3 ∧ W.cell? ((a.add (i * 7)).add 5) = some v4 ∧ W.cell? ((a.add (i * 7)).add 6) = some v5) ∧ Lies W.heap.size W (.agg #[v0, v1, v2, v3, v4, v5]) q.2 := by
      intro i hi
      have key := hel i hi
      rw [cells79, List.getElem?_eq_getElem (by omega)] at key
      obtain ⟨cs', h1, h2⟩ := Option.bind_eq_some_iff.1 key
      obtain ⟨_, hl6, hcell⟩ := World.cells?_some h1
      obtain ⟨s, v0, v1, v2, v3, v4, v5, T, rfl, hs, hT⟩ := open_prop h2 (fun x hx => hw x (.inr (.inl (weightsAll_mem (List.mem_map.2 ⟨_, List.getElem_mem (by omega), rfl⟩) hx))))
      exact ⟨(s, T), hcell 0 (by simp), hs, v0, v1, v2, v3, v4, v5, ⟨hcell 1 (by simp), hcell 2 (by simp), hcell 3 (by simp), hcell 4 (by simp), hcell 5 (by simp), hcell 6 (by simp)⟩, hT⟩
    have : Inhabited (ByteArray × Tree) := ⟨(⟨#[]⟩, .mk 0 false 0 ⟨#[]⟩ [] [])⟩
    obtain ⟨f, hf⟩ := choose_lt hc
    have hlt : ((List.range len).map f).length = len := by simp
    refine ⟨some a, cap, (List.range len).map f, by rw [hlt], some a, cap, rfl, by omega, by unfold maxLen at hm; omega, ?_⟩
    by_cases h0 : len = 0
    · left; subst h0; rfl
    · right
      obtain ⟨bl, off, spot⟩ := a
      obtain ⟨c0, _⟩ := hf 0 (by omega)
      have hspot : spot = none := by simpa [Addr.add] using World.cell?_spot c0
      subst hspot
      refine ⟨bl, off, rfl, lt_of_cell c0, ?_⟩
      intro i t hit
      rw [List.getElem?_map] at hit
      obtain ⟨j, hj, rfl⟩ := Option.map_eq_some_iff.1 hit
      rw [List.getElem?_eq_some_iff] at hj
      obtain ⟨hji, hjj⟩ := hj
      simp only [List.length_range, List.getElem_range] at hji hjj
      subst hjj
      obtain ⟨k0, hs, v0, v1, v2, v3, v4, v5, ⟨c0, c1, c2, c3, c4, c5⟩, hv⟩ := hf _ hji
      rw [add_plain, add_plain] at k0 c0 c1 c2 c3 c4 c5
      exact ⟨k0, hs, v0, v1, v2, v3, v4, v5, ⟨c0, c1, c2, c3, c4, c5⟩, hv⟩
set_option maxRecDepth 100000 in
theorem open_step {fuel : Nat} {cs : List Value} {d : DataW H} {p : List MemPlace} (h : DataW.trod enc Tryz.prog W 0 (fun _ => true) true fuel 62 cs = some (d, p)) (hw : ∀ x ∈ d.weights Tryz.prog 62, x ≤ reachBytes) :
    ∃ (s : St) (T : Tree) (ps : List (ByteArray × Tree)), cs.toArray = s.cells ∧ Lies W.heap.size W (.agg #[.int .i64 s.vk, .bool s.vb, .int .i64 s.vn, .string s.vs, .slice s.ka s.kn s.kc, .slice s.ya s.yn s.yc]) T ∧ PropsLie W.heap.size W (.slice s.pa s.pn s.pc) ps ∧ s.key.size ≤ 9223372036854775807 := by
  obtain ⟨xs, n, hfu, hx, hl, hlen, hf⟩ := DataW.trod_struct Tryz.underlying62 h
  rw [cells62] at hl
  match cs, hl with
  | [u0, u1, u2, u3, u4, u5, u6, v0, v1, v2, v3, v4, v5], _ =>
    match xs, hlen with
    | [y0, y1, y2, y3, y4, y5, y6, y7], _ =>
      simp only [Prod.mk.injEq] at hx
      obtain ⟨rfl, _⟩ := hx
      have f0 : DataW.trod enc Tryz.prog W 0 (fun _ => true) true n 3 [u0] = some y0 := by simpa [cells3] using hf 0 { name := "Kind", type := 3, offset := 0, embedded := false, tag := "", pkgPath := "", byteOffset := 0 } rfl
      have f1 : DataW.trod enc Tryz.prog W 0 (fun _ => true) true n 2 [u1] = some y1 := by simpa [cells2] using hf 1 { name := "ID", type := 2, offset := 1, embedded := false, tag := "", pkgPath := "", byteOffset := 8 } rfl
      have f2 : DataW.trod enc Tryz.prog W 0 (fun _ => true) true n 2 [u2] = some y2 := by simpa [cells2] using hf 2 { name := "To", type := 2, offset := 2, embedded := false, tag := "", pkgPath := "", byteOffset := 16 } rfl
      have f3 : DataW.trod enc Tryz.prog W 0 (fun _ => true) true n 4 [u3] = some y3 := by simpa [cells4] using hf 3 { name := "Rel", type := 4, offset := 3, embedded := false, tag := "", pkgPath := "", byteOffset := 24 } rfl
      have f4 : DataW.trod enc Tryz.prog W 0 (fun _ => true) true n 9 [u4] = some y4 := by simpa [cells9] using hf 4 { name := "Key", type := 9, offset := 4, embedded := false, tag := "", pkgPath := "", byteOffset := 32 } rfl
      have f5 : DataW.trod enc Tryz.prog W 0 (fun _ => true) true n 44 [u5] = some y5 := by simpa [cells44] using hf 5 { name := "Labels", type := 44, offset := 5, embedded := false, tag := "", pkgPath := "", byteOffset := 48 } rfl
      have f6 : DataW.trod enc Tryz.prog W 0 (fun _ => true) true n 45 [u6] = some y6 := by simpa [cells45] using hf 6 { name := "Props", type := 45, offset := 6, embedded := false, tag := "", pkgPath := "", byteOffset := 72 } rfl
      have f7 : DataW.trod enc Tryz.prog W 0 (fun _ => true) true n 60 [v0, v1, v2, v3, v4, v5] = some y7 := by simpa [cells60] using hf 7 { name := "Value", type := 60, offset := 7, embedded := false, tag := "", pkgPath := "", byteOffset := 96 } rfl
      obtain ⟨k, e0, _, _⟩ := DataW.trod_int Tryz.underlying3 f0
      obtain ⟨id, e1, _, _⟩ := DataW.trod_int Tryz.underlying2 f1
      obtain ⟨to_, e2, _, _⟩ := DataW.trod_int Tryz.underlying2 f2
      obtain ⟨rel, e3, _⟩ := DataW.trod_bool Tryz.underlying4 f3
      obtain ⟨key, e4, _, hs⟩ := DataW.trod_string Tryz.underlying9 f4
      simp only [List.cons.injEq, and_true] at e0 e1 e2 e3 e4
      subst e0 e1 e2 e3 e4
      have hwe : ∀ x, (x ∈ y6.1.weights Tryz.prog 45 ∨ x ∈ y7.1.weights Tryz.prog 60) → x ≤ reachBytes := by
        intro x hx
        apply hw x
        simp only [DataW.weights, Tryz.underlying62, List.map_cons, List.map_nil, DataW.weightsEach, List.mem_append]
        rcases hx with hx | hx
        · exact .inr (.inr (.inr (.inr (.inr (.inr (.inl hx))))))
        · exact .inr (.inr (.inr (.inr (.inr (.inr (.inr (.inl hx)))))))
      obtain ⟨T, hT, _⟩ := open_value n _ _ _ f7 (fun x hx => hwe x (.inr hx))
      obtain ⟨pa, pc, ps, e6, hps⟩ := open_props f6 (fun x hx => hwe x (.inl hx))
      simp only [List.cons.injEq, and_true] at e6
      subst e6
      obtain ⟨la, ln, lc, e5⟩ : ∃ la ln lc, u5 = .slice la ln lc := by
        rcases DataW.trod_slice Tryz.underlying44 f5 with ⟨e, _⟩ | ⟨a, len, cap, _, _, _, _, e, _⟩
        · simp only [List.cons.injEq, and_true] at e
          exact ⟨_, _, _, e⟩
        · simp only [List.cons.injEq, and_true] at e
          exact ⟨_, _, _, e⟩
      subst e5
      obtain ⟨vk, vb, vn, vs, kks, tts⟩ := T
      have hT' := hT
      simp only [Lies] at hT
      obtain ⟨ka, kc, ya, yc, hag, _⟩ := hT
      obtain ⟨rfl, rfl, rfl, rfl, rfl, rfl⟩ : v0 = .int .i64 vk ∧ v1 = .bool vb ∧ v2 = .int .i64 vn ∧ v3 = .string vs ∧ v4 = .slice ka kks.length kc ∧ v5 = .slice ya tts.length yc := by
        simpa using hag
      exact ⟨⟨k, id, to_, rel, key, la, ln, lc, pa, ps.length, pc, vk, vb, vn, vs, ka, kks.length, kc, ya, tts.length, yc⟩, _, ps, rfl, hT', hps, by unfold maxLen at hs; omega⟩
end
end Go.Proofs.YteddjlbfbpecjaaGreatDoor

