/- Nodes and relationships that are copied one by one, their numbers moved: as rows. A graph that is handed in: where it lies, and what is lent with it. -/
import Derived.Test.YthfilnflgahcjaaGreatDoorJoin35
import Derived.Test.YthfilnflgahcjaaGreatDoorJoin28
import Derived.Test.YthfilnflgahcjaaGreatDoorJoin30
import Derived.Test.YthfilnflgahcjaaGreatDoorJoin34
namespace Go.Proofs.YthfilnflgahcjaaGreatDoor
open Go.ChangeShapes Go.WideShapes Go.ChangeAt Go.RowKit Go.Shelf Go.Deep
set_option linter.unusedVariables false
set_option linter.unusedSimpArgs false
theorem KeysLie.monoB {B B' : Nat} (hB : B ≤ B') {w : World} {ad : Option Addr} {ks : List ByteArray} (h : KeysLie B w ad ks) : KeysLie B' w ad ks :=
  h.imp id fun ⟨b, off, e, hl, hc⟩ => ⟨b, off, e, Nat.lt_of_lt_of_le hl hB, hc⟩
theorem PropsLie.monoB {B B' : Nat} (hB : B ≤ B') {w : World} {v : Value} {ps : List (ByteArray × Tree)} (h : PropsLie B w v ps) : PropsLie B' w v ps := by
  obtain ⟨a, c, e, h1, h2, h3⟩ := h
  refine ⟨a, c, e, h1, h2, h3.imp id fun ⟨b, off, e, hl, hc⟩ => ⟨b, off, e, Nat.lt_of_lt_of_le hl hB, fun i q hi => ?_⟩⟩
  obtain ⟨c0, c1, v0, v1, v2, v3, v4, v5, c2, c3⟩ := hc i q hi
  exact ⟨c0, c1, v0, v1, v2, v3, v4, v5, c2, c3.mono hB⟩
abbrev SlT := Option Addr × Nat × Nat
def slV (s : SlT) : Value := .slice s.1 s.2.1 s.2.2
abbrev NodX := Int × SlT × SlT
abbrev RelX := Int × Int × Int × ByteArray × SlT
def nodC (x : NodX) : List Value := [.int .i64 x.1, slV x.2.1, slV x.2.2]
def relC (x : RelX) : List Value := [.int .i64 x.1, .int .i64 x.2.1, .int .i64 x.2.2.1, .string x.2.2.2.1, slV x.2.2.2.2]
theorem one_nod : ∀ x, ∀ u ∈ nodC x, u.oneCell' = true := fun x u hu => by
  simp only [nodC, slV, List.mem_cons, List.not_mem_nil, or_false] at hu
  rcases hu with rfl | rfl | rfl <;> rfl
theorem one_rel : ∀ x, ∀ u ∈ relC x, u.oneCell' = true := fun x u hu => by
  simp only [relC, slV, List.mem_cons, List.not_mem_nil, or_false] at hu
  rcases hu with rfl | rfl | rfl | rfl | rfl <;> rfl
theorem elem22 : ElemIs 22 73 3 56 (.agg #[.int .i64 0, .slice none 0 0, .slice none 0 0]) := elem_of (by kernel_rfl) (by kernel_rfl) rfl (by decide) (by decide)
theorem elem23 : ElemIs 23 71 5 64 (.agg #[.int .i64 0, .int .i64 0, .int .i64 0, .string ⟨#[]⟩, .slice none 0 0]) := elem_of (by kernel_rfl) (by kernel_rfl) rfl (by decide) (by decide)
def NodIs (B : Nat) (w : World) (n : NodeP) (x : NodX) : Prop := x.1 = n.id ∧ x.2.1.2.1 = n.labels.length ∧ (n.labels.length ≤ x.2.1.2.2 ∧ x.2.1.2.2 ≤ 9223372036854775807) ∧ KeysLie B w x.2.1.1 n.labels ∧ PropsLie B w (slV x.2.2) n.props
def RelIs (B : Nat) (w : World) (n : RelP) (x : RelX) : Prop := (x.1 = n.id ∧ x.2.1 = n.fr ∧ x.2.2.1 = n.tt ∧ x.2.2.2.1 = n.type) ∧ n.type.size ≤ maxLen ∧ PropsLie B w (slV x.2.2.2.2) n.props
theorem node_x {B : Nat} {w : World} {bl off : Nat} {n : NodeP} (h : NodeAt B w bl off n) : ∃ x : NodX, NodIs B w n x ∧ ∀ j u, (nodC x)[j]? = some u → w.cell? ⟨bl, off + j, none⟩ = some u := by
  obtain ⟨la, lc, pv, ⟨c0, c1, c2⟩, hs, hk, hp⟩ := h
  have hp0 := hp
  obtain ⟨pa, pc, e, _⟩ := hp
  subst e
  refine ⟨(n.id, (la, n.labels.length, lc), (pa, n.props.length, pc)), ⟨rfl, rfl, hs, hk, hp0⟩, fun j u hj => ?_⟩
  match j, hj with
  | 0, hj => simp only [nodC, List.getElem?_cons_zero, Option.some.injEq] at hj; subst hj; exact c0
  | 1, hj => simp only [nodC, slV, List.getElem?_cons_succ, List.getElem?_cons_zero, Option.some.injEq] at hj; subst hj; exact c1
  | 2, hj => simp only [nodC, slV, List.getElem?_cons_succ, List.getElem?_cons_zero, Option.some.injEq] at hj; subst hj; exact c2
  | j + 3, hj => simp [nodC] at hj
theorem rel_x {B : Nat} {w : World} {bl off : Nat} {n : RelP} (h : RelAt B w bl off n) : ∃ x : RelX, RelIs B w n x ∧ ∀ j u, (relC x)[j]? = some u → w.cell? ⟨bl, off + j, none⟩ = some u := by
  obtain ⟨pv, ⟨c0, c1, c2, c3, c4⟩, hs, hp⟩ := h
  have hp0 := hp
  obtain ⟨pa, pc, e, _⟩ := hp
  subst e
  refine ⟨(n.id, n.fr, n.tt, n.type, (pa, n.props.length, pc)), ⟨⟨rfl, rfl, rfl, rfl⟩, hs, hp0⟩, fun j u hj => ?_⟩
  match j, hj with
  | 0, hj => simp only [relC, List.getElem?_cons_zero, Option.some.injEq] at hj; subst hj; exact c0
  | 1, hj => simp only [relC, slV, List.getElem?_cons_succ, List.getElem?_cons_zero, Option.some.injEq] at hj; subst hj; exact c1
  | 2, hj => simp only [relC, slV, List.getElem?_cons_succ, List.getElem?_cons_zero, Option.some.injEq] at hj; subst hj; exact c2
  | 3, hj => simp only [relC, slV, List.getElem?_cons_succ, List.getElem?_cons_zero, Option.some.injEq] at hj; subst hj; exact c3
  | 4, hj => simp only [relC, slV, List.getElem?_cons_succ, List.getElem?_cons_zero, Option.some.injEq] at hj; subst hj; exact c4
  | j + 5, hj => simp [relC] at hj
/-- Things that lie in a row, as rows of cells. -/
theorem rows_x {α β : Type} [Inhabited β] {k B : Nat} {w : World} {At : World → Nat → Nat → α → Prop} {Is : α → β → Prop} {enc : β → List Value} {a : Option Addr} {m c : Nat} {ns : List α} (hx : ∀ bl off n, At w bl off n → ∃ x : β, Is n x ∧ ∀ j u, (enc x)[j]? = some u → w.cell? ⟨bl, off + j, none⟩ = some u) (h : RowsLie k At B w (.slice a m c) ns) :
    ∃ xs : List β, xs.length = ns.length ∧ (∀ (i : Nat) n x, ns[i]? = some n → xs[i]? = some x → Is n x) ∧ SRow k enc B w (.slice a m c) xs := by
  obtain ⟨a', c', e, h1, h2, h3⟩ := h
  injection e with e1 e2 e3
  subst e1 e2 e3
  rcases h3 with rfl | ⟨bl, off, ha, hl, hc⟩
  · exact ⟨[], rfl, fun i n x hn => by simp at hn, ⟨_, _, rfl, h1, h2, .inl rfl⟩⟩
  · have hq : ∀ i, i < ns.length → ∃ x : β, ∀ n, ns[i]? = some n → Is n x ∧ ∀ j u, (enc x)[j]? = some u → w.cell? ⟨bl, off + i * k + j, none⟩ = some u := by
      intro i hi
      obtain ⟨x, h4, h5⟩ := hx _ _ _ (hc i ns[i] (List.getElem?_eq_getElem hi))
      refine ⟨x, fun n hn => ?_⟩
      rw [List.getElem?_eq_getElem hi] at hn
      cases hn
      exact ⟨h4, h5⟩
    obtain ⟨f, hf⟩ := choose_lt hq
    have hlt : ((List.range ns.length).map f).length = ns.length := by simp
    have hat : ∀ (i : Nat) x, ((List.range ns.length).map f)[i]? = some x → i < ns.length ∧ x = f i := fun i x hi => by
      rw [List.getElem?_map] at hi
      obtain ⟨q, hq, rfl⟩ := Option.map_eq_some_iff.1 hi
      rw [List.getElem?_eq_some_iff] at hq
      obtain ⟨hji, hjj⟩ := hq
      simp only [List.length_range, List.getElem_range] at hji hjj
      subst hjj
      exact ⟨hji, rfl⟩
    refine ⟨(List.range ns.length).map f, hlt, fun i n x hn hi => ?_, ⟨_, _, by rw [hlt], by rw [hlt]; exact h1, h2, .inr ⟨bl, off, ha, hl, fun i x hi j u hu => ?_⟩⟩⟩
    · obtain ⟨h6, rfl⟩ := hat i x hi
      exact (hf i h6 n hn).1
    · obtain ⟨h6, rfl⟩ := hat i x hi
      exact (hf i h6 _ (List.getElem?_eq_getElem h6)).2 j u hu
theorem nodes_x {B : Nat} {w : World} {a : Option Addr} {m c : Nat} {ns : List NodeP} (h : NodesLie B w (.slice a m c) ns) : ∃ xs : List NodX, xs.length = ns.length ∧ (∀ (i : Nat) n x, ns[i]? = some n → xs[i]? = some x → NodIs B w n x) ∧ SRow 3 nodC B w (.slice a m c) xs :=
  rows_x (fun _ _ _ h => node_x h) h
theorem rels_x {B : Nat} {w : World} {a : Option Addr} {m c : Nat} {ns : List RelP} (h : RelsLie B w (.slice a m c) ns) : ∃ xs : List RelX, xs.length = ns.length ∧ (∀ (i : Nat) n x, ns[i]? = some n → xs[i]? = some x → RelIs B w n x) ∧ SRow 5 relC B w (.slice a m c) xs :=
  rows_x (fun _ _ _ h => rel_x h) h
def movNX (b : Int) (x : NodX) : NodX := (x.1 + b, x.2)
def movRX (b : Int) (x : RelX) : RelX := (x.1 + b, x.2.1 + b, x.2.2.1 + b, x.2.2.2)
/-- The moved nodes, behind the copying. -/
theorem moved_nodes {B B' : Nat} {w w' : World} {b : Int} {v : Value} {ns : List NodeP} {xs : List NodX} (hB : B ≤ B') (hb : Below B w w') (hl : xs.length = ns.length) (hi : ∀ (i : Nat) n x, ns[i]? = some n → xs[i]? = some x → NodIs B w n x) (hs : SRow 3 nodC B' w' v (xs.map (movNX b))) : NodesLie B' w' v (ns.map (movN b)) := by
  obtain ⟨a, c, rfl, h1, h2, h3⟩ := hs
  rw [List.length_map] at h1
  refine ⟨a, c, by rw [List.length_map, List.length_map, hl], by rw [List.length_map, ← hl]; exact h1, h2, ?_⟩
  rcases h3 with h3 | ⟨bl, off, ha, hbl, hc⟩
  · left
    have : xs = [] := List.map_eq_nil_iff.1 h3
    subst this
    have : ns = [] := List.length_eq_zero_iff.1 hl.symm
    subst this; rfl
  · right
    refine ⟨bl, off, ha, hbl, fun i n' hn' => ?_⟩
    rw [List.getElem?_map] at hn'
    obtain ⟨n, hn, rfl⟩ := Option.map_eq_some_iff.1 hn'
    have hlt : i < xs.length := by rw [hl]; exact (List.getElem?_eq_some_iff.1 hn).1
    obtain ⟨e1, e2, e3, e4, e5⟩ := hi i n _ hn (List.getElem?_eq_getElem hlt)
    have hcc := hc i (movNX b xs[i]) (by rw [List.getElem?_map, List.getElem?_eq_getElem hlt]; rfl)
    refine ⟨xs[i].2.1.1, xs[i].2.1.2.2, slV xs[i].2.2, ⟨?_, ?_, ?_⟩, e3, (e4.below hb).monoB hB, (e5.below hb).monoB hB⟩
    · have := hcc 0 _ rfl
      simp only [movNX, e1] at this
      exact this
    · have := hcc 1 _ rfl
      simp only [movNX, slV, e2] at this
      exact this
    · exact hcc 2 _ rfl
theorem moved_rels {B B' : Nat} {w w' : World} {b : Int} {v : Value} {ns : List RelP} {xs : List RelX} (hB : B ≤ B') (hb : Below B w w') (hl : xs.length = ns.length) (hi : ∀ (i : Nat) n x, ns[i]? = some n → xs[i]? = some x → RelIs B w n x) (hs : SRow 5 relC B' w' v (xs.map (movRX b))) : RelsLie B' w' v (ns.map (movR b)) := by
  obtain ⟨a, c, rfl, h1, h2, h3⟩ := hs
  rw [List.length_map] at h1
  refine ⟨a, c, by rw [List.length_map, List.length_map, hl], by rw [List.length_map, ← hl]; exact h1, h2, ?_⟩
  rcases h3 with h3 | ⟨bl, off, ha, hbl, hc⟩
  · left
    have : xs = [] := List.map_eq_nil_iff.1 h3
    subst this
    have : ns = [] := List.length_eq_zero_iff.1 hl.symm
    subst this; rfl
  · right
    refine ⟨bl, off, ha, hbl, fun i n' hn' => ?_⟩
    rw [List.getElem?_map] at hn'
    obtain ⟨n, hn, rfl⟩ := Option.map_eq_some_iff.1 hn'
    have hlt : i < xs.length := by rw [hl]; exact (List.getElem?_eq_some_iff.1 hn).1
    obtain ⟨⟨e1, e2, e3, e4⟩, e5, e6⟩ := hi i n _ hn (List.getElem?_eq_getElem hlt)
    have hcc := hc i (movRX b xs[i]) (by rw [List.getElem?_map, List.getElem?_eq_getElem hlt]; rfl)
    refine ⟨slV xs[i].2.2.2.2, ⟨?_, ?_, ?_, ?_, ?_⟩, e5, (e6.below hb).monoB hB⟩
    · have := hcc 0 _ rfl
      simp only [movRX, e1] at this
      exact this
    · have := hcc 1 _ rfl
      simp only [movRX, e2] at this
      exact this
    · have := hcc 2 _ rfl
      simp only [movRX, e3] at this
      exact this
    · have := hcc 3 _ rfl
      simp only [movRX, e4] at this
      exact this
    · exact hcc 4 _ rfl
theorem ends_in {ns : List NodeP} : ∀ {rs : List RelP}, endsB (idsE ns) rs = true → ∀ r ∈ rs, (∃ n ∈ ns, n.id = r.fr) ∧ ∃ n ∈ ns, n.id = r.tt
  | x :: t, h, r, hr => by
    simp only [endsB, Bool.and_eq_true] at h
    have hb : ∀ i, hasB i (idsE ns) = true → ∃ n ∈ ns, n.id = i := fun i hi => by
      unfold hasB idsE at hi
      rw [List.any_map, List.any_eq_true] at hi
      obtain ⟨n, hn, e⟩ := hi
      exact ⟨n, hn, by simpa using e⟩
    rcases List.mem_cons.1 hr with rfl | hr
    · exact ⟨hb _ h.1, hb _ h.2.1⟩
    · exact ends_in h.2.2 r hr
/-- Where a graph's numbers are. -/
theorem check_nums {g : GraphP} (h : checkPB g = true) : (∀ n ∈ g.nodes, 0 ≤ n.id ∧ n.id < g.nn) ∧ (∀ r ∈ g.rels, (0 ≤ r.id ∧ r.id < g.nr) ∧ (0 ≤ r.fr ∧ r.fr < g.nn) ∧ 0 ≤ r.tt ∧ r.tt < g.nn) ∧ (0 ≤ g.nn ∧ g.nn ≤ 4611686018427387904) ∧ 0 ≤ g.nr ∧ g.nr ≤ 4611686018427387904 := by
  simp only [checkPB, Bool.and_eq_true] at h
  obtain ⟨_, ⟨a2, a3⟩, _, _, _, a8⟩ := h
  have hn : ∀ {next : Int} {ks : List Int} {l : Int}, riseI next l ks = true → 0 ≤ next ∧ next ≤ 4611686018427387904 := by
    intro next ks
    induction ks with
    | nil => intro l h; simpa [riseI] using h
    | cons x r ih => intro l h; simp only [riseI, Bool.and_eq_true] at h; exact ih h.2.2
  have h1 : ∀ n ∈ g.nodes, 0 ≤ n.id ∧ n.id < g.nn := fun n hn => (riseI_all a2).1 _ (List.mem_map_of_mem hn)
  refine ⟨h1, fun r hr => ⟨(riseI_all a3).1 _ (List.mem_map_of_mem hr), ?_, ?_⟩, hn a2, hn a3⟩
  · obtain ⟨⟨n, hn, e⟩, _⟩ := ends_in a8 r hr
    rw [← e]; exact h1 n hn
  · obtain ⟨_, n, hn, e⟩ := ends_in a8 r hr
    rw [← e]; exact h1 n hn
end Go.Proofs.YthfilnflgahcjaaGreatDoor

namespace Go.Proofs.YthfilnflgahcjaaGreatDoor
open Go.ChangeShapes Go.WideShapes Go.ChangeAt Go.RowKit Go.Shelf Go.Deep
set_option linter.unusedVariables false
set_option linter.unusedSimpArgs false
theorem cells88 : Tryz.prog.cellsOf 88 = 6 := by kernel_rfl
theorem cells86 : Tryz.prog.cellsOf 86 = 1 := by kernel_rfl
theorem cells85 : Tryz.prog.cellsOf 85 = 1 := by kernel_rfl
theorem cells69 : Tryz.prog.cellsOf 69 = 1 := by kernel_rfl
theorem cells90 : Tryz.prog.cellsOf 90 = 7 := by kernel_rfl
theorem cells73 : Tryz.prog.cellsOf 73 = 3 := by kernel_rfl
theorem cells71 : Tryz.prog.cellsOf 71 = 5 := by kernel_rfl
theorem cells22 : Tryz.prog.cellsOf 22 = 1 := by kernel_rfl
theorem cells23 : Tryz.prog.cellsOf 23 = 1 := by kernel_rfl
theorem cells25 : Tryz.prog.cellsOf 25 = 4 := by kernel_rfl
theorem cells4' : Tryz.prog.cellsOf 4 = 1 := by kernel_rfl
theorem bytes88 : Tryz.prog.bytesOf 88 = 88 := by kernel_rfl
theorem bytes9' : Tryz.prog.bytesOf 9 = 16 := by kernel_rfl
def LL (B : Nat) (w : World) (la : Option Addr) (ts : List Tree) : Prop := ts = [] ∨ ∃ bl off, la = some ⟨bl, off, none⟩ ∧ bl < B ∧ KidsLie B w bl off ts
section
variable {H : Type} {enc : TypeId × Value → H} {W : World}
theorem kids_of {B bl : Nat} {w : World} : ∀ (l : List Tree) (off : Nat), (∀ (i : Nat) (t : Tree), l[i]? = some t → ∃ v0 v1 v2 v3 v4 v5, (w.cell? ⟨bl, off + i * 6, none⟩ = some v0 ∧ w.cell? ⟨bl, off + i * 6 + 1, none⟩ = some v1 ∧ w.cell? ⟨bl, off + i * 6 + 2, none⟩ = some v2 ∧ w.cell? ⟨bl, off + i * 6 + 3, none⟩ = some v3 ∧
      w.cell? ⟨bl, off + i * 6 + 4, none⟩ = some v4 ∧ w.cell? ⟨bl, off + i * 6 + 5, none⟩ = some v5) ∧ Lies B w (.agg #[v0, v1, v2, v3, v4, v5]) t) → KidsLie B w bl off l
  | [], off, h => by simp only [KidsLie]
  | t :: l, off, h => by
    rw [KidsLie]
    refine ⟨?_, kids_of l (off + 6) fun i u hu => ?_⟩
    · have := h 0 t rfl
      simpa using this
    · have := h (i + 1) u (by simpa using hu)
      have e : off + (i + 1) * 6 = off + 6 + i * 6 := by omega
      rwa [e] at this
theorem ranged_of : ∀ (l : List Tree), (∀ t ∈ l, Ranged t) → RangedL l
  | [], _ => by simp only [RangedL]
  | t :: l, h => by
    rw [RangedL]
    exact ⟨h t (by simp), ranged_of l fun u hu => h u (by simp [hu])⟩
theorem sane_of : ∀ (l : List Tree), (∀ t ∈ l, Sane t) → SaneL l
  | [], _ => by simp only [SaneL]
  | t :: l, h => by
    rw [SaneL]
    exact ⟨h t (by simp), sane_of l fun u hu => h u (by simp [hu])⟩
/-- What is said of a value that is read. -/
def Opens (enc : TypeId × Value → H) (W : World) (fuel : Nat) : Prop := ∀ (cs : List Value) (d : DataW H) (p : List MemPlace), DataW.trod enc Tryz.prog W 0 (fun _ => true) true fuel 88 cs = some (d, p) →
  (∀ x ∈ d.weights Tryz.prog 88, x ≤ reachBytes) → ∃ T, Lies W.heap.size W (.agg cs.toArray) T ∧ Sane T ∧ Ranged T
theorem open_list_value {fuel : Nat} (ih : ∀ m, m < fuel → Opens enc W m) {cs : List Value} {d : DataW H} {p : List MemPlace} (h : DataW.trod enc Tryz.prog W 0 (fun _ => true) true fuel 86 cs = some (d, p))
    (hw : ∀ x ∈ d.weights Tryz.prog 86, x ≤ reachBytes) :
    ∃ (la : Option Addr) (lc : Nat) (ts : List Tree), cs = [.slice la ts.length lc] ∧ ts.length ≤ lc ∧ lc ≤ maxLen ∧ ts.length ≤ 140737488355328 ∧ LL W.heap.size W la ts ∧ SaneL ts ∧ RangedL ts := by
  rcases DataW.trod_slice Tryz.underlying86 h with ⟨rfl, _⟩ | ⟨a, len, cap, elems, rest, n, hfu, rfl, hx, _, hl, hm, hlen, hel, _, _⟩
  · exact ⟨none, 0, [], rfl, Nat.le_refl _, by unfold maxLen; omega, by simp, .inl rfl, by simp only [SaneL], by simp only [RangedL]⟩
  · simp only [Prod.mk.injEq] at hx
    obtain ⟨rfl, _⟩ := hx
    simp only [DataW.weights, Tryz.underlying86, List.mem_cons, List.mem_append] at hw
    have hsz : len ≤ 140737488355328 := by
      have := hw _ (.inl rfl)
      rw [bytes88, List.length_map, List.length_map, hlen] at this
      unfold reachBytes at this
      omega
    have hc : ∀ i, i < len → ∃ t : Tree, (∃ v0 v1 v2 v3 v4 v5, (W.cell? ((a.add (i * 6)).add 0) = some v0 ∧ W.cell? ((a.add (i * 6)).add 1) = some v1 ∧ W.cell? ((a.add (i * 6)).add 2) = some v2 ∧ W.cell? ((a.add (i * 6)).add 3) = some v3 ∧ W.cell? ((a.add (i * 6)).add 4) = some v4 ∧ W.cell? ((a.add (i * 6)).add 5) = some v5) ∧
        Lies W.heap.size W (.agg #[v0, v1, v2, v3, v4, v5]) t) ∧ Sane t ∧ Ranged t := by
      intro i hi
      have key := hel i hi
      rw [cells88, List.getElem?_eq_getElem (by omega)] at key
      obtain ⟨cs', h1, h2⟩ := Option.bind_eq_some_iff.1 key
      obtain ⟨_, hl6, hcell⟩ := World.cells?_some h1
      match cs', hl6 with
      | [v0, v1, v2, v3, v4, v5], _ =>
        obtain ⟨T, hT, hS⟩ := ih n (by omega) _ _ _ h2 (fun x hx => hw x (.inr (.inl (weightsAll_mem (List.mem_map.2 ⟨_, List.getElem_mem (by omega), rfl⟩) hx))))
        exact ⟨T, ⟨v0, v1, v2, v3, v4, v5, ⟨hcell 0 (by omega), hcell 1 (by omega), hcell 2 (by omega), hcell 3 (by omega), hcell 4 (by omega), hcell 5 (by omega)⟩, hT⟩, hS⟩
    have : Inhabited Tree := ⟨.mk 0 false 0 ⟨#[]⟩ [] []⟩
    obtain ⟨f, hf⟩ := choose_lt hc
    have hlt : ((List.range len).map f).length = len := by simp
    refine ⟨some a, cap, (List.range len).map f, by rw [hlt], by omega, hm, by omega, ?_, ?_, ?_⟩
    · by_cases h0 : len = 0
      · left; subst h0; rfl
      · right
        obtain ⟨bl, off, spot⟩ := a
        obtain ⟨v0, _, _, _, _, _, ⟨c0, _⟩, _⟩ := (hf 0 (by omega)).1
        have hspot : spot = none := by simpa [Addr.add] using World.cell?_spot c0
        subst hspot
        refine ⟨bl, off, rfl, lt_of_cell c0, kids_of _ _ ?_⟩
        intro i t hit
        rw [List.getElem?_map] at hit
        obtain ⟨j, hj, rfl⟩ := Option.map_eq_some_iff.1 hit
        rw [List.getElem?_eq_some_iff] at hj
        obtain ⟨hji, hjj⟩ := hj
        simp only [List.length_range, List.getElem_range] at hji hjj
        subst hjj
        obtain ⟨v0, v1, v2, v3, v4, v5, ⟨c0, c1, c2, c3, c4, c5⟩, hv⟩ := (hf _ hji).1
        rw [add_plain, add_plain] at c0 c1 c2 c3 c4 c5
        exact ⟨v0, v1, v2, v3, v4, v5, ⟨c0, c1, c2, c3, c4, c5⟩, hv⟩
    · refine sane_of _ fun t ht => ?_
      obtain ⟨j, hj, rfl⟩ := List.mem_map.1 ht
      exact (hf j (List.mem_range.1 hj)).2.1
    · refine ranged_of _ fun t ht => ?_
      obtain ⟨j, hj, rfl⟩ := List.mem_map.1 ht
      exact (hf j (List.mem_range.1 hj)).2.2
set_option maxRecDepth 100000 in
theorem open_value : ∀ fuel, Opens enc W fuel := by
  intro fuel
  induction fuel using Nat.strongRecOn with
  | _ fuel ih =>
    intro cs d p h hw
    obtain ⟨xs, n, hfu, hx, hl, hlen, hf⟩ := DataW.trod_struct Tryz.underlying88 h
    rw [cells88] at hl
    match cs, hl with
    | [v0, v1, v2, v3, v4, v5], _ =>
      match xs, hlen with
      | [y0, y1, y2, y3, y4, y5], _ =>
        simp only [Prod.mk.injEq] at hx
        obtain ⟨rfl, _⟩ := hx
        have f0 : DataW.trod enc Tryz.prog W 0 (fun _ => true) true n 85 [v0] = some y0 := by simpa [cells85] using hf 0 { name := "Kind", type := 85, offset := 0, embedded := false, tag := "", pkgPath := "", byteOffset := 0 } rfl
        have f1 : DataW.trod enc Tryz.prog W 0 (fun _ => true) true n 4 [v1] = some y1 := by simpa [cells4'] using hf 1 { name := "Bool", type := 4, offset := 1, embedded := false, tag := "", pkgPath := "", byteOffset := 8 } rfl
        have f2 : DataW.trod enc Tryz.prog W 0 (fun _ => true) true n 2 [v2] = some y2 := by simpa [cells2] using hf 2 { name := "Int", type := 2, offset := 2, embedded := false, tag := "", pkgPath := "", byteOffset := 16 } rfl
        have f3 : DataW.trod enc Tryz.prog W 0 (fun _ => true) true n 9 [v3] = some y3 := by simpa [cells9] using hf 3 { name := "Text", type := 9, offset := 3, embedded := false, tag := "", pkgPath := "", byteOffset := 24 } rfl
        have f4 : DataW.trod enc Tryz.prog W 0 (fun _ => true) true n 43 [v4] = some y4 := by simpa [cells43] using hf 4 { name := "Keys", type := 43, offset := 4, embedded := false, tag := "", pkgPath := "", byteOffset := 40 } rfl
        have f5 : DataW.trod enc Tryz.prog W 0 (fun _ => true) true n 86 [v5] = some y5 := by simpa [cells86] using hf 5 { name := "List", type := 86, offset := 5, embedded := false, tag := "", pkgPath := "", byteOffset := 64 } rfl
        obtain ⟨k, e0, _, _⟩ := DataW.trod_int Tryz.underlying85 f0
        obtain ⟨b, e1, _⟩ := DataW.trod_bool Tryz.underlying4 f1
        obtain ⟨m, e2, _, hm64⟩ := DataW.trod_int Tryz.underlying2 f2
        obtain ⟨s, e3, e3', hs⟩ := DataW.trod_string Tryz.underlying9 f3
        simp only [List.cons.injEq, and_true] at e0 e1 e2 e3
        subst e0 e1 e2 e3
        have hwe : ∀ x, (x ∈ y3.1.weights Tryz.prog 9 ∨ x ∈ y4.1.weights Tryz.prog 43 ∨ x ∈ y5.1.weights Tryz.prog 86) → x ≤ reachBytes := by
          intro x hx
          apply hw x
          simp only [DataW.weights, Tryz.underlying88, List.map_cons, List.map_nil, DataW.weightsEach, List.mem_append]
          rcases hx with h | h | h
          · exact .inr (.inr (.inr (.inl h)))
          · exact .inr (.inr (.inr (.inr (.inl h))))
          · exact .inr (.inr (.inr (.inr (.inr (.inl h)))))
        have hs2 : s.size ≤ 140737488355328 := by
          have := hwe s.size (.inl (by rw [e3']; simp [DataW.weights]))
          unfold reachBytes at this
          omega
        obtain ⟨la, lc, ts, e5, g1, g2, g3, g4, g5, g6⟩ := open_list_value (fun m hm => ih m (by omega)) f5 (fun x hx => hwe x (.inr (.inr hx)))
        simp only [List.cons.injEq, and_true] at e5
        subst e5
        rcases open_strings Tryz.underlying43 Tryz.underlying9 cells9 f4 with ⟨e4, _⟩ | ⟨a, len, cap, ss, e4, _, hlc, hcm, hss, hx4, hcell, hsz⟩
        · simp only [List.cons.injEq, and_true] at e4
          subst e4
          refine ⟨.mk k b m s [] ts, ?_, ?_, by rw [Ranged]; exact ⟨w64_range hm64, g6⟩⟩
          · rw [Lies]
            exact ⟨none, 0, la, lc, rfl, ⟨hs, by simp, by unfold maxLen; omega, g1, g2⟩, .inl rfl, g4⟩
          · rw [Sane]
            exact ⟨hs2, by simp, g3, by simp, g5⟩
        · simp only [List.cons.injEq, and_true] at e4
          subst e4
          simp only [if_true] at hss
          have e : (ss.take len).length = len := by simp; omega
          have hwk : len ≤ 140737488355328 ∧ ∀ y ∈ ss.take len, y.size ≤ 140737488355328 := by
            rw [hx4] at hwe
            simp only [DataW.weights, Tryz.underlying43, List.mem_cons, List.mem_append] at hwe
            refine ⟨?_, fun y hy => ?_⟩
            · have := hwe _ (.inr (.inl (.inl rfl)))
              rw [bytes9'] at this
              unfold reachBytes strs at this
              simp only [List.length_map, e] at this
              omega
            · have := hwe y.size (.inr (.inl (.inr (.inl (weightsAll_mem (d := .lit (.string y.data.toList)) (by unfold strs; exact List.mem_map.2 ⟨y, hy, rfl⟩) (by simp [DataW.weights]))))))
              unfold reachBytes at this
              omega
          refine ⟨.mk k b m s (ss.take len) ts, ?_, ?_, by rw [Ranged]; exact ⟨w64_range hm64, g6⟩⟩
          · rw [Lies]
            refine ⟨some a, cap, la, lc, by rw [e], ⟨hs, by omega, hcm, g1, g2⟩, ?_, g4⟩
            by_cases h0 : len = 0
            · left; subst h0; simp
            · right
              obtain ⟨bk, off, spot⟩ := a
              have c0 := hcell 0 (by omega)
              have hspot : spot = none := by simpa [Addr.add] using World.cell?_spot c0
              subst hspot
              refine ⟨bk, off, rfl, lt_of_cell c0, fun i hi => ?_⟩
              rw [e] at hi
              have hg : (ss.take len).getD i ⟨#[]⟩ = ss.getD i ByteArray.empty := by
                rw [List.getD_eq_getElem?_getD, List.getElem?_take_of_lt hi, List.getD_eq_getElem?_getD]; rfl
              rw [hg, ← add_plain]
              refine ⟨hcell i (by omega), ?_⟩
              rw [List.getD_eq_getElem?_getD, List.getElem?_eq_getElem (by omega)]
              exact hsz _ (List.getElem_mem _)
          · rw [Sane]
            exact ⟨hs2, by omega, g3, hwk.2, g5⟩
/-- Things in a row that is handed in. -/
theorem open_rows {α : Type} [Inhabited α] {st et k bytes : Nat} {At : World → Nat → Nat → α → Prop} {ok : α → Prop} (hu : Tryz.prog.underlying st = some (.slice et)) (hk : Tryz.prog.cellsOf et = k) (hby : Tryz.prog.bytesOf et = bytes) (hb0 : 0 < bytes) (hk0 : 0 < k)
    (elem : ∀ fuel cs y, DataW.trod enc Tryz.prog W 0 (fun _ => true) true fuel et cs = some y → (∀ x ∈ y.1.weights Tryz.prog et, x ≤ reachBytes) → ∃ x : α, ok x ∧ ∀ bl off, (∀ j u, cs[j]? = some u → W.cell? ⟨bl, off + j, none⟩ = some u) → At W bl off x)
    {fuel : Nat} {cs : List Value} {d : DataW H} {p : List MemPlace} (h : DataW.trod enc Tryz.prog W 0 (fun _ => true) true fuel st cs = some (d, p)) (hw : ∀ x ∈ d.weights Tryz.prog st, x ≤ reachBytes) :
    ∃ a c xs, cs = [.slice a (xs : List α).length c] ∧ RowsLie k At W.heap.size W (.slice a xs.length c) xs ∧ (∀ x ∈ xs, ok x) ∧ xs.length ≤ 140737488355328 := by
  rcases DataW.trod_slice hu h with ⟨rfl, _⟩ | ⟨a, len, cap, elems, rest, n, hfu, rfl, hx, _, hl, hm, hln, hel, _, _⟩
  · exact ⟨none, 0, [], rfl, ⟨none, 0, rfl, Nat.le_refl _, by decide, .inl rfl⟩, fun x hx => by simp at hx, by simp⟩
  · simp only [Prod.mk.injEq] at hx
    obtain ⟨rfl, _⟩ := hx
    have hsz : len ≤ 140737488355328 := by
      have h1 := hw (((elems.map (·.1)).length + (rest.map (·.1)).length) * bytes) (by
        simp only [DataW.weights, hu, List.mem_cons, List.mem_append]
        exact .inl (by rw [hby]))
      rw [List.length_map, hln, Nat.add_mul] at h1
      unfold reachBytes at h1
      have h2 : len ≤ len * bytes := Nat.le_mul_of_pos_right len hb0
      omega
    have hc : ∀ i, i < len → ∃ x : α, (∃ u, W.cell? ((a.add (i * k)).add 0) = some u) ∧ ok x ∧ ∀ bl off, a = ⟨bl, off, none⟩ → At W bl (off + i * k) x := by
      intro i hi
      have key := hel i hi
      rw [hk, List.getElem?_eq_getElem (by omega)] at key
      obtain ⟨cs', h1, h2⟩ := Option.bind_eq_some_iff.1 key
      obtain ⟨_, hl4, hcell⟩ := World.cells?_some h1
      obtain ⟨x, hx, hat⟩ := elem _ _ _ h2 fun z hz => hw z (by
        simp only [DataW.weights, hu, List.mem_cons, List.mem_append]
        exact .inr (.inl (weightsAll_mem (List.mem_map_of_mem (List.getElem_mem _)) hz)))
      refine ⟨x, ⟨_, (hcell 0 hk0).trans (List.getElem?_eq_getElem (by omega))⟩, hx, fun bl off e => hat bl _ fun j u hj => ?_⟩
      obtain ⟨hj1, hj2⟩ := List.getElem?_eq_some_iff.1 hj
      have := (hcell j (by omega)).trans hj
      rw [e, add_plain, add_plain] at this
      exact this
    obtain ⟨f, hf⟩ := choose_lt hc
    have hlt : ((List.range len).map f).length = len := by simp
    refine ⟨some a, cap, (List.range len).map f, by rw [hlt], ⟨some a, cap, rfl, by omega, ?_, ?_⟩, ?_, by omega⟩
    · unfold maxLen at hm; omega
    · by_cases h0 : len = 0
      · left; subst h0; rfl
      · right
        obtain ⟨bl, off, spot⟩ := a
        obtain ⟨⟨u0, c0⟩, _⟩ := hf 0 (by omega)
        have hspot : spot = none := by simpa [Addr.add] using World.cell?_spot c0
        subst hspot
        rw [add_plain, add_plain] at c0
        refine ⟨bl, off, rfl, lt_of_cell c0, ?_⟩
        intro i x hix
        rw [List.getElem?_map] at hix
        obtain ⟨q, hq, rfl⟩ := Option.map_eq_some_iff.1 hix
        rw [List.getElem?_eq_some_iff] at hq
        obtain ⟨hji, hjj⟩ := hq
        simp only [List.length_range, List.getElem_range] at hji hjj
        subst hjj
        exact (hf _ hji).2.2 bl off rfl
    · intro x hx
      obtain ⟨j, hj, rfl⟩ := List.mem_map.1 hx
      exact (hf j (List.mem_range.1 hj)).2.1
def okP (q : ByteArray × Tree) : Prop := Sane q.2 ∧ Ranged q.2 ∧ q.1.size ≤ 140737488355328
set_option maxRecDepth 100000 in
theorem open_prop {fuel : Nat} {cs : List Value} {y : DataW H × List MemPlace} (h : DataW.trod enc Tryz.prog W 0 (fun _ => true) true fuel 90 cs = some y) (hw : ∀ x ∈ y.1.weights Tryz.prog 90, x ≤ reachBytes) :
    ∃ q : ByteArray × Tree, okP q ∧ ∀ bl off, (∀ j u, cs[j]? = some u → W.cell? ⟨bl, off + j, none⟩ = some u) → PropAt W.heap.size W bl off q := by
  obtain ⟨xs, n, hfu, hx, hl, hlen, hf⟩ := DataW.trod_struct Tryz.underlying90 h
  rw [cells90] at hl
  match cs, hl with
  | [u, v0, v1, v2, v3, v4, v5], _ =>
    match xs, hlen with
    | [y1, y2], _ =>
      subst hx
      have f1 : DataW.trod enc Tryz.prog W 0 (fun _ => true) true n 9 [u] = some y1 := by simpa [cells9] using hf 0 { name := "Key", type := 9, offset := 0, embedded := false, tag := "", pkgPath := "", byteOffset := 0 } rfl
      have f2 : DataW.trod enc Tryz.prog W 0 (fun _ => true) true n 88 [v0, v1, v2, v3, v4, v5] = some y2 := by simpa [cells88] using hf 1 { name := "Value", type := 88, offset := 1, embedded := false, tag := "", pkgPath := "", byteOffset := 16 } rfl
      obtain ⟨s, e1, e1', hs⟩ := DataW.trod_string Tryz.underlying9 f1
      simp only [List.cons.injEq, and_true] at e1
      subst e1
      have hwe : ∀ x, x ∈ y1.1.weights Tryz.prog 9 ∨ x ∈ y2.1.weights Tryz.prog 88 → x ≤ reachBytes := by
        intro x hx
        apply hw x
        simp only [DataW.weights, Tryz.underlying90, List.map_cons, List.map_nil, DataW.weightsEach, List.mem_append]
        rcases hx with h | h
        · exact .inl h
        · exact .inr (.inl h)
      have hs2 : s.size ≤ 140737488355328 := by
        have := hwe s.size (.inl (by rw [e1']; simp [DataW.weights]))
        unfold reachBytes at this
        omega
      obtain ⟨T, hT, hS, hR⟩ := open_value n _ _ _ f2 (fun x hx => hwe x (.inr hx))
      refine ⟨(s, T), ⟨hS, hR, hs2⟩, fun bl off hc => ⟨hc 0 _ rfl, hs, v0, v1, v2, v3, v4, v5, ⟨hc 1 _ rfl, hc 2 _ rfl, hc 3 _ rfl, hc 4 _ rfl, hc 5 _ rfl, hc 6 _ rfl⟩, hT⟩⟩
theorem open_props {fuel : Nat} {cs : List Value} {d : DataW H} {p : List MemPlace} (h : DataW.trod enc Tryz.prog W 0 (fun _ => true) true fuel 69 cs = some (d, p)) (hw : ∀ x ∈ d.weights Tryz.prog 69, x ≤ reachBytes) :
    ∃ v ps, cs = [v] ∧ PropsLie W.heap.size W v ps ∧ ∀ q ∈ ps, okP q := by
  have : Inhabited (ByteArray × Tree) := ⟨(⟨#[]⟩, .mk 0 false 0 ⟨#[]⟩ [] [])⟩
  obtain ⟨a, c, xs, e, h1, h2, _⟩ := open_rows (k := 7) (At := PropAt W.heap.size) (ok := okP) Tryz.underlying69 cells90 (by kernel_rfl : Tryz.prog.bytesOf 90 = 104) (by decide) (by decide) (fun _ _ _ h hw => open_prop h hw) h hw
  obtain ⟨a', c', e2, g1, g2, g3⟩ := h1
  exact ⟨_, xs, e, ⟨a', c', e2, g1, g2, g3⟩, h2⟩
theorem open_labs {fuel : Nat} {u : Value} {y : DataW H × List MemPlace} (h : DataW.trod enc Tryz.prog W 0 (fun _ => true) true fuel 43 [u] = some y) (hw : ∀ x ∈ y.1.weights Tryz.prog 43, x ≤ reachBytes) :
    ∃ (la : Option Addr) (lc : Nat) (ks : List ByteArray), u = .slice la ks.length lc ∧ (ks.length ≤ lc ∧ lc ≤ 9223372036854775807) ∧ KeysLie W.heap.size W la ks ∧ ∀ x ∈ ks, x.size ≤ 140737488355328 := by
  rcases open_strings Tryz.underlying43 Tryz.underlying9 cells9 h with ⟨e4, e5⟩ | ⟨a, len, cap, ss, e4, _, hlc, hcm, hss, hx4, hcell, hsz⟩
  · simp only [List.cons.injEq, and_true] at e4
    subst e4 e5
    exact ⟨none, 0, [], rfl, ⟨Nat.le_refl _, by omega⟩, .inl rfl, by simp⟩
  · simp only [List.cons.injEq, and_true] at e4
    subst e4
    simp only [if_true] at hss
    have e : (ss.take len).length = len := by simp; omega
    refine ⟨some a, cap, ss.take len, by rw [e], ⟨by omega, by unfold maxLen at hcm; omega⟩, ?_, ?_⟩
    · by_cases h0 : len = 0
      · left; subst h0; simp
      · right
        obtain ⟨bk, off, spot⟩ := a
        have c0 := hcell 0 (by omega)
        have hspot : spot = none := by simpa [Addr.add] using World.cell?_spot c0
        subst hspot
        refine ⟨bk, off, rfl, lt_of_cell c0, fun i hi => ?_⟩
        rw [e] at hi
        have hg : (ss.take len).getD i ⟨#[]⟩ = ss.getD i ByteArray.empty := by
          rw [List.getD_eq_getElem?_getD, List.getElem?_take_of_lt hi, List.getD_eq_getElem?_getD]; rfl
        rw [hg, ← add_plain]
        refine ⟨hcell i (by omega), ?_⟩
        rw [List.getD_eq_getElem?_getD, List.getElem?_eq_getElem (by omega)]
        exact hsz _ (List.getElem_mem _)
    · intro x hx
      rw [hx4] at hw
      simp only [DataW.weights, Tryz.underlying43, List.mem_cons, List.mem_append] at hw
      have := hw x.size (.inr (.inl (weightsAll_mem (d := .lit (.string x.data.toList)) (by unfold strs; exact List.mem_map.2 ⟨x, hx, rfl⟩) (by simp [DataW.weights]))))
      unfold reachBytes at this
      omega
/-- What is lent with a node, with a relationship. -/
def okN (n : NodeP) : Prop := W64 n.id ∧ (∀ x ∈ n.labels, x.size ≤ 140737488355328) ∧ ∀ q ∈ n.props, okP q
def okR (r : RelP) : Prop := (W64 r.id ∧ W64 r.fr ∧ W64 r.tt) ∧ r.type.size ≤ 140737488355328 ∧ ∀ q ∈ r.props, okP q
set_option maxRecDepth 100000 in
theorem open_node {fuel : Nat} {cs : List Value} {y : DataW H × List MemPlace} (h : DataW.trod enc Tryz.prog W 0 (fun _ => true) true fuel 73 cs = some y) (hw : ∀ x ∈ y.1.weights Tryz.prog 73, x ≤ reachBytes) :
    ∃ q : NodeP, okN q ∧ ∀ bl off, (∀ j u, cs[j]? = some u → W.cell? ⟨bl, off + j, none⟩ = some u) → NodeAt W.heap.size W bl off q := by
  obtain ⟨xs, n, hfu, hx, hl, hlen, hf⟩ := DataW.trod_struct Tryz.underlying73 h
  rw [cells73] at hl
  match cs, hl with
  | [u0, u1, u2], _ =>
    match xs, hlen with
    | [y0, y1, (y2, z2)], _ =>
      subst hx
      have f0 : DataW.trod enc Tryz.prog W 0 (fun _ => true) true n 2 [u0] = some y0 := by simpa [cells2] using hf 0 { name := "ID", type := 2, offset := 0, embedded := false, tag := "", pkgPath := "", byteOffset := 0 } rfl
      have f1 : DataW.trod enc Tryz.prog W 0 (fun _ => true) true n 43 [u1] = some y1 := by simpa [cells43] using hf 1 { name := "Labels", type := 43, offset := 1, embedded := false, tag := "", pkgPath := "", byteOffset := 8 } rfl
      have f2 : DataW.trod enc Tryz.prog W 0 (fun _ => true) true n 69 [u2] = some (y2, z2) := by simpa [cells69] using hf 2 { name := "Props", type := 69, offset := 2, embedded := false, tag := "", pkgPath := "", byteOffset := 32 } rfl
      have hwe : ∀ x, x ∈ y1.1.weights Tryz.prog 43 ∨ x ∈ y2.weights Tryz.prog 69 → x ≤ reachBytes := by
        intro x hx
        apply hw x
        simp only [DataW.weights, Tryz.underlying73, List.map_cons, List.map_nil, DataW.weightsEach, List.mem_append]
        rcases hx with h | h
        · exact .inr (.inl h)
        · exact .inr (.inr (.inl h))
      obtain ⟨k, e0, hk⟩ := open_int f0
      obtain ⟨la, lc, ks, rfl, k1, k2, k3⟩ := open_labs f1 fun x hx => hwe x (.inl hx)
      obtain ⟨pv, ps, e2, hps, hfit⟩ := open_props f2 fun x hx => hwe x (.inr hx)
      simp only [intE, List.cons.injEq, and_true] at e0 e2
      subst e0 e2
      exact ⟨⟨k, ks, ps⟩, ⟨hk, k3, hfit⟩, fun bl off hc => ⟨la, lc, u2, ⟨hc 0 _ rfl, hc 1 _ rfl, hc 2 _ rfl⟩, k1, k2, hps⟩⟩
set_option maxRecDepth 100000 in
theorem open_rel {fuel : Nat} {cs : List Value} {y : DataW H × List MemPlace} (h : DataW.trod enc Tryz.prog W 0 (fun _ => true) true fuel 71 cs = some y) (hw : ∀ x ∈ y.1.weights Tryz.prog 71, x ≤ reachBytes) :
    ∃ q : RelP, okR q ∧ ∀ bl off, (∀ j u, cs[j]? = some u → W.cell? ⟨bl, off + j, none⟩ = some u) → RelAt W.heap.size W bl off q := by
  obtain ⟨xs, n, hfu, hx, hl, hlen, hf⟩ := DataW.trod_struct Tryz.underlying71 h
  rw [cells71] at hl
  match cs, hl with
  | [u0, u1, u2, u3, u4], _ =>
    match xs, hlen with
    | [y0, y1, y2, y3, (y4, z4)], _ =>
      subst hx
      have f0 : DataW.trod enc Tryz.prog W 0 (fun _ => true) true n 2 [u0] = some y0 := by simpa [cells2] using hf 0 { name := "ID", type := 2, offset := 0, embedded := false, tag := "", pkgPath := "", byteOffset := 0 } rfl
      have f1 : DataW.trod enc Tryz.prog W 0 (fun _ => true) true n 2 [u1] = some y1 := by simpa [cells2] using hf 1 { name := "From", type := 2, offset := 1, embedded := false, tag := "", pkgPath := "", byteOffset := 8 } rfl
      have f2 : DataW.trod enc Tryz.prog W 0 (fun _ => true) true n 2 [u2] = some y2 := by simpa [cells2] using hf 2 { name := "To", type := 2, offset := 2, embedded := false, tag := "", pkgPath := "", byteOffset := 16 } rfl
      have f3 : DataW.trod enc Tryz.prog W 0 (fun _ => true) true n 9 [u3] = some y3 := by simpa [cells9] using hf 3 { name := "Type", type := 9, offset := 3, embedded := false, tag := "", pkgPath := "", byteOffset := 24 } rfl
      have f4 : DataW.trod enc Tryz.prog W 0 (fun _ => true) true n 69 [u4] = some (y4, z4) := by simpa [cells69] using hf 4 { name := "Props", type := 69, offset := 4, embedded := false, tag := "", pkgPath := "", byteOffset := 40 } rfl
      have hwe : ∀ x, x ∈ y3.1.weights Tryz.prog 9 ∨ x ∈ y4.weights Tryz.prog 69 → x ≤ reachBytes := by
        intro x hx
        apply hw x
        simp only [DataW.weights, Tryz.underlying71, List.map_cons, List.map_nil, DataW.weightsEach, List.mem_append]
        rcases hx with h | h
        · exact .inr (.inr (.inr (.inl h)))
        · exact .inr (.inr (.inr (.inr (.inl h))))
      obtain ⟨k, e0, hk⟩ := open_int f0
      obtain ⟨k1, e1, hk1⟩ := open_int f1
      obtain ⟨k2, e2, hk2⟩ := open_int f2
      obtain ⟨s, e3, hs, hsw⟩ := open_str2 f3
      obtain ⟨pv, ps, e4, hps, hfit⟩ := open_props f4 fun x hx => hwe x (.inr hx)
      have hs2 : s.size ≤ 140737488355328 := by
        have := hwe _ (.inl hsw)
        unfold reachBytes at this
        omega
      simp only [intE, strE, List.cons.injEq, and_true] at e0 e1 e2 e3 e4
      subst e0 e1 e2 e3 e4
      exact ⟨⟨k, k1, k2, s, ps⟩, ⟨⟨hk, hk1, hk2⟩, hs2, hfit⟩, fun bl off hc => ⟨u4, ⟨hc 0 _ rfl, hc 1 _ rfl, hc 2 _ rfl, hc 3 _ rfl, hc 4 _ rfl⟩, hs, hps⟩⟩
/-- What is lent with a graph. -/
structure LentG (g : GraphP) : Prop where
  n : ∀ x ∈ g.nodes, okN x
  r : ∀ x ∈ g.rels, okR x
  ln : g.nodes.length ≤ 140737488355328
  lr : g.rels.length ≤ 140737488355328
  nn : W64 g.nn
  nr : W64 g.nr
theorem LentG.sane {g : GraphP} (h : LentG g) : SaneG g :=
  ⟨h.ln, h.lr, fun x hx => (h.n x hx).2.1, fun x hx q hq => ⟨((h.n x hx).2.2 q hq).1, Nat.le_trans ((h.n x hx).2.2 q hq).2.2 (by decide)⟩, fun x hx => (h.r x hx).2.1, fun x hx q hq => ⟨((h.r x hx).2.2 q hq).1, Nat.le_trans ((h.r x hx).2.2 q hq).2.2 (by decide)⟩⟩
set_option maxRecDepth 100000 in
theorem open_graph {fuel : Nat} {cs : List Value} {d : DataW H} {p : List MemPlace} (h : DataW.trod enc Tryz.prog W 0 (fun _ => true) true fuel 25 cs = some (d, p)) (hw : ∀ x ∈ d.weights Tryz.prog 25, x ≤ reachBytes) :
    ∃ g : GraphP, GraphLies W.heap.size W (.agg cs.toArray) g ∧ LentG g := by
  obtain ⟨xs, n, hfu, hx, hl, hlen, hf⟩ := DataW.trod_struct Tryz.underlying25 h
  rw [cells25] at hl
  match cs, hl with
  | [u0, u1, u2, u3], _ =>
    match xs, hlen with
    | [(y0, z0), (y1, z1), y2, y3], _ =>
      simp only [Prod.mk.injEq] at hx
      obtain ⟨rfl, _⟩ := hx
      have f0 : DataW.trod enc Tryz.prog W 0 (fun _ => true) true n 22 [u0] = some (y0, z0) := by simpa [cells22] using hf 0 { name := "Nodes", type := 22, offset := 0, embedded := false, tag := "", pkgPath := "", byteOffset := 0 } rfl
      have f1 : DataW.trod enc Tryz.prog W 0 (fun _ => true) true n 23 [u1] = some (y1, z1) := by simpa [cells23] using hf 1 { name := "Rels", type := 23, offset := 1, embedded := false, tag := "", pkgPath := "", byteOffset := 24 } rfl
      have f2 : DataW.trod enc Tryz.prog W 0 (fun _ => true) true n 2 [u2] = some y2 := by simpa [cells2] using hf 2 { name := "NextNode", type := 2, offset := 2, embedded := false, tag := "", pkgPath := "", byteOffset := 48 } rfl
      have f3 : DataW.trod enc Tryz.prog W 0 (fun _ => true) true n 2 [u3] = some y3 := by simpa [cells2] using hf 3 { name := "NextRel", type := 2, offset := 3, embedded := false, tag := "", pkgPath := "", byteOffset := 56 } rfl
      have hwe : ∀ x, x ∈ y0.weights Tryz.prog 22 ∨ x ∈ y1.weights Tryz.prog 23 → x ≤ reachBytes := by
        intro x hx
        apply hw x
        simp only [DataW.weights, Tryz.underlying25, List.map_cons, List.map_nil, DataW.weightsEach, List.mem_append]
        rcases hx with h | h
        · exact .inl h
        · exact .inr (.inl h)
      have : Inhabited NodeP := ⟨⟨0, [], []⟩⟩
      have : Inhabited RelP := ⟨⟨0, 0, 0, ⟨#[]⟩, []⟩⟩
      obtain ⟨na, nc, ns, e0, h1, h2, h3⟩ := open_rows (k := 3) (At := NodeAt W.heap.size) (ok := okN) Tryz.underlying22 cells73 (by kernel_rfl : Tryz.prog.bytesOf 73 = 56) (by decide) (by decide) (fun _ _ _ h hw => open_node h hw) f0 (fun x hx => hwe x (.inl hx))
      obtain ⟨ra, rc, rs, e1, g1, g2, g3⟩ := open_rows (k := 5) (At := RelAt W.heap.size) (ok := okR) Tryz.underlying23 cells71 (by kernel_rfl : Tryz.prog.bytesOf 71 = 64) (by decide) (by decide) (fun _ _ _ h hw => open_rel h hw) f1 (fun x hx => hwe x (.inr hx))
      obtain ⟨k2, e2, hk2⟩ := open_int f2
      obtain ⟨k3, e3, hk3⟩ := open_int f3
      simp only [intE, List.cons.injEq, and_true] at e0 e1 e2 e3
      subst e0 e1 e2 e3
      exact ⟨⟨ns, rs, k2, k3⟩, ⟨na, nc, ra, rc, rfl, h1, g1⟩, ⟨h2, g2, h3, g3, hk2, hk3⟩⟩
end
end Go.Proofs.YthfilnflgahcjaaGreatDoor

