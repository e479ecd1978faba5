/- Nodes and relationships that are copied one by one, their numbers moved: as rows. labels: how many a node has. A graph that is handed in: where it lies, and what is lent with it. -/
import Derived.Test.YthfilnflgahcjaaGreatDoorJoin33
import Derived.Test.YthfilnflgahcjaaGreatDoorJoin26
import Derived.Test.YthfilnflgahcjaaGreatDoorJoin21
import Derived.Test.YthfilnflgahcjaaGreatDoorJoin28
import Derived.Test.YthfilnflgahcjaaGreatDoorJoin32
namespace Go.Proofs.YthfilnflgahcjaaGreatDoor
open Go.ChangeShapes Go.WideShapes Go.ChangeAt Go.RowKit Go.Shelf Go.Deep
set_option linter.unusedVariables false
set_option linter.unusedSimpArgs false
abbrev SlT := Option Addr × Nat × Nat
def slV (s : SlT) : Value := .slice s.1 s.2.1 s.2.2
abbrev NodX := Int × SlT × SlT
abbrev RelX := Int × Int × Int × ByteArray × SlT
def nodC (x : NodX) : List Value := [.int .i64 x.1, slV x.2.1, slV x.2.2]
def relC (x : RelX) : List Value := [.int .i64 x.1, .int .i64 x.2.1, .int .i64 x.2.2.1, .string x.2.2.2.1, slV x.2.2.2.2]
def NodIs (B : Nat) (w : World) (n : NodeP) (x : NodX) : Prop := x.1 = n.id ∧ x.2.1.2.1 = n.labels.length ∧ (n.labels.length ≤ x.2.1.2.2 ∧ x.2.1.2.2 ≤ 9223372036854775807) ∧ KeysLie B w x.2.1.1 n.labels ∧ PropsLie B w (slV x.2.2) n.props
def RelIs (B : Nat) (w : World) (n : RelP) (x : RelX) : Prop := (x.1 = n.id ∧ x.2.1 = n.fr ∧ x.2.2.1 = n.tt ∧ x.2.2.2.1 = n.type) ∧ n.type.size ≤ maxLen ∧ PropsLie B w (slV x.2.2.2.2) n.props
theorem node_x {B : Nat} {w : World} {bl off : Nat} {n : NodeP} (h : NodeAt B w bl off n) : ∃ x : NodX, NodIs B w n x ∧ ∀ j u, (nodC x)[j]? = some u → w.cell? ⟨bl, off + j, none⟩ = some u := by
  obtain ⟨la, lc, pv, ⟨c0, c1, c2⟩, hs, hk, hp⟩ := h
  have hp0 := hp
  obtain ⟨pa, pc, e, _⟩ := hp
  subst e
  refine ⟨(n.id, (la, n.labels.length, lc), (pa, n.props.length, pc)), ⟨rfl, rfl, hs, hk, hp0⟩, fun j u hj => ?_⟩
  match j, hj with
  | 0, hj => simp only [nodC, List.getElem?_cons_zero, Option.some.injEq] at hj; subst hj; exact c0
  | 1, hj => simp only [nodC, slV, List.getElem?_cons_succ, List.getElem?_cons_zero, Option.some.injEq] at hj; subst hj; exact c1
  | 2, hj => simp only [nodC, slV, List.getElem?_cons_succ, List.getElem?_cons_zero, Option.some.injEq] at hj; subst hj; exact c2
  | j + 3, hj => simp [nodC] at hj
theorem rel_x {B : Nat} {w : World} {bl off : Nat} {n : RelP} (h : RelAt B w bl off n) : ∃ x : RelX, RelIs B w n x ∧ ∀ j u, (relC x)[j]? = some u → w.cell? ⟨bl, off + j, none⟩ = some u := by
  obtain ⟨pv, ⟨c0, c1, c2, c3, c4⟩, hs, hp⟩ := h
  have hp0 := hp
  obtain ⟨pa, pc, e, _⟩ := hp
  subst e
  refine ⟨(n.id, n.fr, n.tt, n.type, (pa, n.props.length, pc)), ⟨⟨rfl, rfl, rfl, rfl⟩, hs, hp0⟩, fun j u hj => ?_⟩
  match j, hj with
  | 0, hj => simp only [relC, List.getElem?_cons_zero, Option.some.injEq] at hj; subst hj; exact c0
  | 1, hj => simp only [relC, slV, List.getElem?_cons_succ, List.getElem?_cons_zero, Option.some.injEq] at hj; subst hj; exact c1
  | 2, hj => simp only [relC, slV, List.getElem?_cons_succ, List.getElem?_cons_zero, Option.some.injEq] at hj; subst hj; exact c2
  | 3, hj => simp only [relC, slV, List.getElem?_cons_succ, List.getElem?_cons_zero, Option.some.injEq] at hj; subst hj; exact c3
  | 4, hj => simp only [relC, slV, List.getElem?_cons_succ, List.getElem?_cons_zero, Option.some.injEq] at hj; subst hj; exact c4
  | j + 5, hj => simp [relC] at hj
/-- Things that lie in a row, as rows of cells. -/
theorem rows_x {α β : Type} [Inhabited β] {k B : Nat} {w : World} {At : World → Nat → Nat → α → Prop} {Is : α → β → Prop} {enc : β → List Value} {a : Option Addr} {m c : Nat} {ns : List α} (hx : ∀ bl off n, At w bl off n → ∃ x : β, Is n x ∧ ∀ j u, (enc x)[j]? = some u → w.cell? ⟨bl, off + j, none⟩ = some u) (h : RowsLie k At B w (.slice a m c) ns) :
    ∃ xs : List β, xs.length = ns.length ∧ (∀ (i : Nat) n x, ns[i]? = some n → xs[i]? = some x → Is n x) ∧ SRow k enc B w (.slice a m c) xs := by
  obtain ⟨a', c', e, h1, h2, h3⟩ := h
  injection e with e1 e2 e3
  subst e1 e2 e3
  rcases h3 with rfl | ⟨bl, off, ha, hl, hc⟩
  · exact ⟨[], rfl, fun i n x hn => by simp at hn, ⟨_, _, rfl, h1, h2, .inl rfl⟩⟩
  · have hq : ∀ i, i < ns.length → ∃ x : β, ∀ n, ns[i]? = some n → Is n x ∧ ∀ j u, (enc x)[j]? = some u → w.cell? ⟨bl, off + i * k + j, none⟩ = some u := by
      intro i hi
      obtain ⟨x, h4, h5⟩ := hx _ _ _ (hc i ns[i] (List.getElem?_eq_getElem hi))
      refine ⟨x, fun n hn => ?_⟩
      rw [List.getElem?_eq_getElem hi] at hn
      cases hn
      exact ⟨h4, h5⟩
    obtain ⟨f, hf⟩ := choose_lt hq
    have hlt : ((List.range ns.length).map f).length = ns.length := by simp
    have hat : ∀ (i : Nat) x, ((List.range ns.length).map f)[i]? = some x → i < ns.length ∧ x = f i := fun i x hi => by
      rw [List.getElem?_map] at hi
      obtain ⟨q, hq, rfl⟩ := Option.map_eq_some_iff.1 hi
      rw [List.getElem?_eq_some_iff] at hq
      obtain ⟨hji, hjj⟩ := hq
      simp only [List.length_range, List.getElem_range] at hji hjj
      subst hjj
      exact ⟨hji, rfl⟩
    refine ⟨(List.range ns.length).map f, hlt, fun i n x hn hi => ?_, ⟨_, _, by rw [hlt], by rw [hlt]; exact h1, h2, .inr ⟨bl, off, ha, hl, fun i x hi j u hu => ?_⟩⟩⟩
    · obtain ⟨h6, rfl⟩ := hat i x hi
      exact (hf i h6 n hn).1
    · obtain ⟨h6, rfl⟩ := hat i x hi
      exact (hf i h6 _ (List.getElem?_eq_getElem h6)).2 j u hu
theorem nodes_x {B : Nat} {w : World} {a : Option Addr} {m c : Nat} {ns : List NodeP} (h : NodesLie B w (.slice a m c) ns) : ∃ xs : List NodX, xs.length = ns.length ∧ (∀ (i : Nat) n x, ns[i]? = some n → xs[i]? = some x → NodIs B w n x) ∧ SRow 3 nodC B w (.slice a m c) xs :=
  rows_x (fun _ _ _ h => node_x h) h
theorem rels_x {B : Nat} {w : World} {a : Option Addr} {m c : Nat} {ns : List RelP} (h : RelsLie B w (.slice a m c) ns) : ∃ xs : List RelX, xs.length = ns.length ∧ (∀ (i : Nat) n x, ns[i]? = some n → xs[i]? = some x → RelIs B w n x) ∧ SRow 5 relC B w (.slice a m c) xs :=
  rows_x (fun _ _ _ h => rel_x h) h
end Go.Proofs.YthfilnflgahcjaaGreatDoor

namespace Go.Proofs.YthfilnflgahcjaaGreatDoor
open Go.RowKit Go.Shelf Go.Maps
set_option linter.unusedVariables false
set_option linter.unusedSimpArgs false
attribute [local go_sem] Oper.semAt_some
theorem labsAt_drop {ns : List NodeP} {j : Nat} {n : NodeP} (h : ns[j]? = some n) (i : Int) : labsAt (ns.drop j) i = if n.id = i then n.labels else labsAt (ns.drop (j + 1)) i := by
  obtain ⟨hj, hx⟩ := List.getElem?_eq_some_iff.1 h
  rw [List.drop_eq_getElem_cons hj, hx]; rfl
set_option maxRecDepth 100000 in
set_option maxHeartbeats 4000000 in
theorem labels39_any (g : GraphP) (id : Int) (v : Value) (B : Nat) (w : World) (hB : B ≤ w.heap.size) (h : GraphLies B w v g) (hm0 : g.nodes.length ≤ 100) :
    Calls Tryz.prog 39 #[v, .int .i64 id] w fun e w' => e = .returned (.int .i64 ((labsAt g.nodes id).length : Int)) ∧ Below w.heap.size w w' := by
  obtain ⟨na, nc, ra, rc, rfl, hn, hr⟩ := h
  obtain ⟨xs, hxl, hxi, hxs⟩ := nodes_x hn
  obtain ⟨xa, xc, hxe, hx1, hx2, hx3⟩ := hxs
  have HX3 := hidE hx3
  have HXI := hidE (And.intro hxl hxi)
  obtain ⟨nn, hnne⟩ : ∃ n, g.nn = n := ⟨_, rfl⟩
  obtain ⟨nr, hnre⟩ : ∃ n, g.nr = n := ⟨_, rfl⟩
  obtain ⟨m2, hm2⟩ : ∃ n, g.rels.length = n := ⟨_, rfl⟩
  obtain ⟨m, hm⟩ : ∃ n, g.nodes.length = n := ⟨_, rfl⟩
  have HM := hidE hm
  rw [hnne, hnre, hm2, hm]
  rw [hm] at hm0 hxe
  obtain ⟨rfl, e2, rfl⟩ : na = xa ∧ m = xs.length ∧ nc = xc := by injection hxe with a b c; exact ⟨a, b, c⟩
  have HE2 := hidE e2
  rw [← e2] at hx1
  clear hn hr hxl hxi hx3 hnne hnre hm2 hm hxe e2
  obtain ⟨W1, hW1⟩ : ∃ W1, w.alloc (.cells #[.slice na m nc, .slice ra m2 rc, .int .i64 nn, .int .i64 nr] 25) = W1 := ⟨_, rfl⟩
  have r1 : Rec W1 w.heap.size #[.slice na m nc, .slice ra m2 rc, .int .i64 nn, .int .i64 nr] 25 := by rw [← hW1]; exact rec_new _ _ _
  have b1 : Below w.heap.size w W1 := by rw [← hW1]; exact (Below.refl _ _).alloc (Nat.le_refl _) _
  have HW1 := hidE hW1
  have HB1 := hidE b1
  clear hW1 b1
  have c0 := r1.cell 0 rfl
  clear r1
  go_enter Tryz.func39, Tryz.ntmps39
  go_upto_region 1 with fail
  try rw [HW1.out]
  go_wp2_with fail
  go_loopw [5] (fun i wr => ∃ (j : Nat), j ≤ m ∧ i = .int .i64 j ∧ labsAt g.nodes id = labsAt (g.nodes.drop j) id ∧ wr = W1) (fun i _ => m - (intOf i).toNat)
  case atStart => exact ⟨0, Nat.zero_le _, rfl, rfl, rfl⟩
  case round =>
    obtain ⟨j, hj, rfl, hl, rfl⟩ := hrel
    have HL := hidE hl
    clear hl
    by_cases hlt : j < m
    · have hlt' : (j : Int) < m := by omega
      have hjx : j < xs.length := by have := HE2.out; omega
      have hjn : j < g.nodes.length := by have := HXI.out.1; omega
      obtain ⟨n, hn⟩ : ∃ n, g.nodes[j]? = some n := ⟨_, List.getElem?_eq_getElem hjn⟩
      obtain ⟨⟨xi, ⟨la, ln, lc⟩, ⟨pa, pn, pc⟩⟩, hx⟩ : ∃ x, xs[j]? = some x := ⟨_, List.getElem?_eq_getElem hjx⟩
      have hid := (HXI.out.2 j n _ hn hx)
      have hid1 : xi = n.id := hid.1
      have hid2 : ln = n.labels.length := hid.2.1
      have HD := hidE (labsAt_drop hn id)
      obtain ⟨bl, off, rfl, hbl, hc⟩ := HX3.out.resolve_left (by intro e; rw [e] at hx; simp at hx)
      have hbB : Below B w wr := HB1.out.mono hB
      have d0 := (hbB.cell (p := ⟨bl, off + j * 3 + 0, none⟩) hbl).trans (hc j _ hx 0 _ rfl)
      have d1 := (hbB.cell (p := ⟨bl, off + j * 3 + 1, none⟩) hbl).trans (hc j _ hx 1 _ rfl)
      simp only [slV, Nat.add_zero] at d0 d1
      have HI1 := hidE hid1
      have HI2 := hidE hid2
      clear hjx hjn hn hx hid hid1 hid2 hc hbB
      by_cases hq : xi = id
      · have hq' : (xi == id) = true := by simpa using hq
        have HR : Hid (((labsAt g.nodes id).length : Int) = ln) := by
          show _ = _
          rw [HL.out, HD.out, if_pos (by rw [← HI1.out]; exact hq), HI2.out]
        have HQ := hidE hq
        clear hq
        go_wp2_with fail
        go_ret
        exact ⟨congrArg (fun z : Int => Ending.returned (Value.int .i64 z)) HR.out.symm, HB1.out⟩
      · have hq' : (xi == id) = false := by simpa using hq
        have HL2 : Hid (labsAt g.nodes id = labsAt (g.nodes.drop (j + 1)) id) := by
          show _ = _
          rw [HL.out, HD.out, if_neg (by rw [← HI1.out]; exact hq)]
        clear hq
        go_wp2_with fail
        go_roundw
        case rel => exact ⟨j + 1, by omega, by go_num, HL2.out, by first | rfl | trivial⟩
        case measure => simp [intOf]; omega
    · have hlt' : ¬ (j : Int) < m := by omega
      have HR : Hid (((labsAt g.nodes id).length : Int) = 0) := by
        show _ = _
        rw [HL.out, List.drop_eq_nil_of_le (by have := HM.out; omega)]; rfl
      go_wp2_with fail
      go_ret
      exact ⟨congrArg (fun z : Int => Ending.returned (Value.int .i64 z)) HR.out.symm, HB1.out⟩
end Go.Proofs.YthfilnflgahcjaaGreatDoor

namespace Go.Proofs.YthfilnflgahcjaaGreatDoor
open Go.ChangeShapes Go.WideShapes Go.ChangeAt Go.RowKit Go.Shelf Go.Deep
set_option linter.unusedVariables false
set_option linter.unusedSimpArgs false
theorem cells88 : Tryz.prog.cellsOf 88 = 6 := by kernel_rfl
theorem cells86 : Tryz.prog.cellsOf 86 = 1 := by kernel_rfl
theorem cells85 : Tryz.prog.cellsOf 85 = 1 := by kernel_rfl
theorem cells69 : Tryz.prog.cellsOf 69 = 1 := by kernel_rfl
theorem cells90 : Tryz.prog.cellsOf 90 = 7 := by kernel_rfl
theorem cells73 : Tryz.prog.cellsOf 73 = 3 := by kernel_rfl
theorem cells71 : Tryz.prog.cellsOf 71 = 5 := by kernel_rfl
theorem cells22 : Tryz.prog.cellsOf 22 = 1 := by kernel_rfl
theorem cells23 : Tryz.prog.cellsOf 23 = 1 := by kernel_rfl
theorem cells25 : Tryz.prog.cellsOf 25 = 4 := by kernel_rfl
theorem cells4' : Tryz.prog.cellsOf 4 = 1 := by kernel_rfl
theorem bytes88 : Tryz.prog.bytesOf 88 = 88 := by kernel_rfl
theorem bytes9' : Tryz.prog.bytesOf 9 = 16 := by kernel_rfl
def LL (B : Nat) (w : World) (la : Option Addr) (ts : List Tree) : Prop := ts = [] ∨ ∃ bl off, la = some ⟨bl, off, none⟩ ∧ bl < B ∧ KidsLie B w bl off ts
section
variable {H : Type} {enc : TypeId × Value → H} {W : World}
theorem kids_of {B bl : Nat} {w : World} : ∀ (l : List Tree) (off : Nat), (∀ (i : Nat) (t : Tree), l[i]? = some t → ∃ v0 v1 v2 v3 v4 v5, (w.cell? ⟨bl, off + i * 6, none⟩ = some v0 ∧ w.cell? ⟨bl, off + i * 6 + 1, none⟩ = some v1 ∧ w.cell? ⟨bl, off + i * 6 + 2, none⟩ = some v2 ∧ w.cell? ⟨bl, off + i * 6 + 3, none⟩ = some v3 ∧
      w.cell? ⟨bl, off + i * 6 + 4, none⟩ = some v4 ∧ w.cell? ⟨bl, off + i * 6 + 5, none⟩ = some v5) ∧ Lies B w (.agg #[v0, v1, v2, v3, v4, v5]) t) → KidsLie B w bl off l
  | [], off, h => by simp only [KidsLie]
  | t :: l, off, h => by
    rw [KidsLie]
    refine ⟨?_, kids_of l (off + 6) fun i u hu => ?_⟩
    · have := h 0 t rfl
      simpa using this
    · have := h (i + 1) u (by simpa using hu)
      have e : off + (i + 1) * 6 = off + 6 + i * 6 := by omega
      rwa [e] at this
theorem ranged_of : ∀ (l : List Tree), (∀ t ∈ l, Ranged t) → RangedL l
  | [], _ => by simp only [RangedL]
  | t :: l, h => by
    rw [RangedL]
    exact ⟨h t (by simp), ranged_of l fun u hu => h u (by simp [hu])⟩
theorem sane_of : ∀ (l : List Tree), (∀ t ∈ l, Sane t) → SaneL l
  | [], _ => by simp only [SaneL]
  | t :: l, h => by
    rw [SaneL]
    exact ⟨h t (by simp), sane_of l fun u hu => h u (by simp [hu])⟩
/-- What is said of a value that is read. -/
def Opens (enc : TypeId × Value → H) (W : World) (fuel : Nat) : Prop := ∀ (cs : List Value) (d : DataW H) (p : List MemPlace), DataW.trod enc Tryz.prog W 0 (fun _ => true) true fuel 88 cs = some (d, p) →
  (∀ x ∈ d.weights Tryz.prog 88, x ≤ reachBytes) → ∃ T, Lies W.heap.size W (.agg cs.toArray) T ∧ Sane T ∧ Ranged T
theorem open_list_value {fuel : Nat} (ih : ∀ m, m < fuel → Opens enc W m) {cs : List Value} {d : DataW H} {p : List MemPlace} (h : DataW.trod enc Tryz.prog W 0 (fun _ => true) true fuel 86 cs = some (d, p))
    (hw : ∀ x ∈ d.weights Tryz.prog 86, x ≤ reachBytes) :
    ∃ (la : Option Addr) (lc : Nat) (ts : List Tree), cs = [.slice la ts.length lc] ∧ ts.length ≤ lc ∧ lc ≤ maxLen ∧ ts.length ≤ 140737488355328 ∧ LL W.heap.size W la ts ∧ SaneL ts ∧ RangedL ts := by
  rcases DataW.trod_slice Tryz.underlying86 h with ⟨rfl, _⟩ | ⟨a, len, cap, elems, rest, n, hfu, rfl, hx, _, hl, hm, hlen, hel, _, _⟩
  · exact ⟨none, 0, [], rfl, Nat.le_refl _, by unfold maxLen; omega, by simp, .inl rfl, by simp only [SaneL], by simp only [RangedL]⟩
  · simp only [Prod.mk.injEq] at hx
    obtain ⟨rfl, _⟩ := hx
    simp only [DataW.weights, Tryz.underlying86, List.mem_cons, List.mem_append] at hw
    have hsz : len ≤ 140737488355328 := by
      have := hw _ (.inl rfl)
      rw [bytes88, List.length_map, List.length_map, hlen] at this
      unfold reachBytes at this
      omega
    have hc : ∀ i, i < len → ∃ t : Tree, (∃ v0 v1 v2 v3 v4 v5, (W.cell? ((a.add (i * 6)).add 0) = some v0 ∧ W.cell? ((a.add (i * 6)).add 1) = some v1 ∧ W.cell? ((a.add (i * 6)).add 2) = some v2 ∧ W.cell? ((a.add (i * 6)).add 3) = some v3 ∧ W.cell? ((a.add (i * 6)).add 4) = some v4 ∧ W.cell? ((a.add (i * 6)).add 5) = some v5) ∧
        Lies W.heap.size W (.agg #[v0, v1, v2, v3, v4, v5]) t) ∧ Sane t ∧ Ranged t := by
      intro i hi
      have key := hel i hi
      rw [cells88, List.getElem?_eq_getElem (by omega)] at key
      obtain ⟨cs', h1, h2⟩ := Option.bind_eq_some_iff.1 key
      obtain ⟨_, hl6, hcell⟩ := World.cells?_some h1
      match cs', hl6 with
      | [v0, v1, v2, v3, v4, v5], _ =>
        obtain ⟨T, hT, hS⟩ := ih n (by omega) _ _ _ h2 (fun x hx => hw x (.inr (.inl (weightsAll_mem (List.mem_map.2 ⟨_, List.getElem_mem (by omega), rfl⟩) hx))))
        exact ⟨T, ⟨v0, v1, v2, v3, v4, v5, ⟨hcell 0 (by omega), hcell 1 (by omega), hcell 2 (by omega), hcell 3 (by omega), hcell 4 (by omega), hcell 5 (by omega)⟩, hT⟩, hS⟩
    have : Inhabited Tree := ⟨.mk 0 false 0 ⟨#[]⟩ [] []⟩
    obtain ⟨f, hf⟩ := choose_lt hc
    have hlt : ((List.range len).map f).length = len := by simp
    refine ⟨some a, cap, (List.range len).map f, by rw [hlt], by omega, hm, by omega, ?_, ?_, ?_⟩
    · by_cases h0 : len = 0
      · left; subst h0; rfl
      · right
        obtain ⟨bl, off, spot⟩ := a
        obtain ⟨v0, _, _, _, _, _, ⟨c0, _⟩, _⟩ := (hf 0 (by omega)).1
        have hspot : spot = none := by simpa [Addr.add] using World.cell?_spot c0
        subst hspot
        refine ⟨bl, off, rfl, lt_of_cell c0, kids_of _ _ ?_⟩
        intro i t hit
        rw [List.getElem?_map] at hit
        obtain ⟨j, hj, rfl⟩ := Option.map_eq_some_iff.1 hit
        rw [List.getElem?_eq_some_iff] at hj
        obtain ⟨hji, hjj⟩ := hj
        simp only [List.length_range, List.getElem_range] at hji hjj
        subst hjj
        obtain ⟨v0, v1, v2, v3, v4, v5, ⟨c0, c1, c2, c3, c4, c5⟩, hv⟩ := (hf _ hji).1
        rw [add_plain, add_plain] at c0 c1 c2 c3 c4 c5
        exact ⟨v0, v1, v2, v3, v4, v5, ⟨c0, c1, c2, c3, c4, c5⟩, hv⟩
    · refine sane_of _ fun t ht => ?_
      obtain ⟨j, hj, rfl⟩ := List.mem_map.1 ht
      exact (hf j (List.mem_range.1 hj)).2.1
    · refine ranged_of _ fun t ht => ?_
      obtain ⟨j, hj, rfl⟩ := List.mem_map.1 ht
      exact (hf j (List.mem_range.1 hj)).2.2
set_option maxRecDepth 100000 in
theorem open_value : ∀ fuel, Opens enc W fuel := by
  intro fuel
  induction fuel using Nat.strongRecOn with
  | _ fuel ih =>
    intro cs d p h hw
    obtain ⟨xs, n, hfu, hx, hl, hlen, hf⟩ := DataW.trod_struct Tryz.underlying88 h
    rw [cells88] at hl
    match cs, hl with
    | [v0, v1, v2, v3, v4, v5], _ =>
      match xs, hlen with
      | [y0, y1, y2, y3, y4, y5], _ =>
        simp only [Prod.mk.injEq] at hx
        obtain ⟨rfl, _⟩ := hx
        have f0 : DataW.trod enc Tryz.prog W 0 (fun _ => true) true n 85 [v0] = some y0 := by simpa [cells85] using hf 0 { name := "Kind", type := 85, offset := 0, embedded := false, tag := "", pkgPath := "", byteOffset := 0 } rfl
        have f1 : DataW.trod enc Tryz.prog W 0 (fun _ => true) true n 4 [v1] = some y1 := by simpa [cells4'] using hf 1 { name := "Bool", type := 4, offset := 1, embedded := false, tag := "", pkgPath := "", byteOffset := 8 } rfl
        have f2 : DataW.trod enc Tryz.prog W 0 (fun _ => true) true n 2 [v2] = some y2 := by simpa [cells2] using hf 2 { name := "Int", type := 2, offset := 2, embedded := false, tag := "", pkgPath := "", byteOffset := 16 } rfl
        have f3 : DataW.trod enc Tryz.prog W 0 (fun _ => true) true n 9 [v3] = some y3 := by simpa [cells9] using hf 3 { name := "Text", type := 9, offset := 3, embedded := false, tag := "", pkgPath := "", byteOffset := 24 } rfl
        have f4 : DataW.trod enc Tryz.prog W 0 (fun _ => true) true n 43 [v4] = some y4 := by simpa [cells43] using hf 4 { name := "Keys", type := 43, offset := 4, embedded := false, tag := "", pkgPath := "", byteOffset := 40 } rfl
        have f5 : DataW.trod enc Tryz.prog W 0 (fun _ => true) true n 86 [v5] = some y5 := by simpa [cells86] using hf 5 { name := "List", type := 86, offset := 5, embedded := false, tag := "", pkgPath := "", byteOffset := 64 } rfl
        obtain ⟨k, e0, _, _⟩ := DataW.trod_int Tryz.underlying85 f0
        obtain ⟨b, e1, _⟩ := DataW.trod_bool Tryz.underlying4 f1
        obtain ⟨m, e2, _, hm64⟩ := DataW.trod_int Tryz.underlying2 f2
        obtain ⟨s, e3, e3', hs⟩ := DataW.trod_string Tryz.underlying9 f3
        simp only [List.cons.injEq, and_true] at e0 e1 e2 e3
        subst e0 e1 e2 e3
        have hwe : ∀ x, (x ∈ y3.1.weights Tryz.prog 9 ∨ x ∈ y4.1.weights Tryz.prog 43 ∨ x ∈ y5.1.weights Tryz.prog 86) → x ≤ reachBytes := by
          intro x hx
          apply hw x
          simp only [DataW.weights, Tryz.underlying88, List.map_cons, List.map_nil, DataW.weightsEach, List.mem_append]
          rcases hx with h | h | h
          · exact .inr (.inr (.inr (.inl h)))
          · exact .inr (.inr (.inr (.inr (.inl h))))
          · exact .inr (.inr (.inr (.inr (.inr (.inl h)))))
        have hs2 : s.size ≤ 140737488355328 := by
          have := hwe s.size (.inl (by rw [e3']; simp [DataW.weights]))
          unfold reachBytes at this
          omega
        obtain ⟨la, lc, ts, e5, g1, g2, g3, g4, g5, g6⟩ := open_list_value (fun m hm => ih m (by omega)) f5 (fun x hx => hwe x (.inr (.inr hx)))
        simp only [List.cons.injEq, and_true] at e5
        subst e5
        rcases open_strings Tryz.underlying43 Tryz.underlying9 cells9 f4 with ⟨e4, _⟩ | ⟨a, len, cap, ss, e4, _, hlc, hcm, hss, hx4, hcell, hsz⟩
        · simp only [List.cons.injEq, and_true] at e4
          subst e4
          refine ⟨.mk k b m s [] ts, ?_, ?_, by rw [Ranged]; exact ⟨w64_range hm64, g6⟩⟩
          · rw [Lies]
            exact ⟨none, 0, la, lc, rfl, ⟨hs, by simp, by unfold maxLen; omega, g1, g2⟩, .inl rfl, g4⟩
          · rw [Sane]
            exact ⟨hs2, by simp, g3, by simp, g5⟩
        · simp only [List.cons.injEq, and_true] at e4
          subst e4
          simp only [if_true] at hss
          have e : (ss.take len).length = len := by simp; omega
          have hwk : len ≤ 140737488355328 ∧ ∀ y ∈ ss.take len, y.size ≤ 140737488355328 := by
            rw [hx4] at hwe
            simp only [DataW.weights, Tryz.underlying43, List.mem_cons, List.mem_append] at hwe
            refine ⟨?_, fun y hy => ?_⟩
            · have := hwe _ (.inr (.inl (.inl rfl)))
              rw [bytes9'] at this
              unfold reachBytes strs at this
              simp only [List.length_map, e] at this
              omega
            · have := hwe y.size (.inr (.inl (.inr (.inl (weightsAll_mem (d := .lit (.string y.data.toList)) (by unfold strs; exact List.mem_map.2 ⟨y, hy, rfl⟩) (by simp [DataW.weights]))))))
              unfold reachBytes at this
              omega
          refine ⟨.mk k b m s (ss.take len) ts, ?_, ?_, by rw [Ranged]; exact ⟨w64_range hm64, g6⟩⟩
          · rw [Lies]
            refine ⟨some a, cap, la, lc, by rw [e], ⟨hs, by omega, hcm, g1, g2⟩, ?_, g4⟩
            by_cases h0 : len = 0
            · left; subst h0; simp
            · right
              obtain ⟨bk, off, spot⟩ := a
              have c0 := hcell 0 (by omega)
              have hspot : spot = none := by simpa [Addr.add] using World.cell?_spot c0
              subst hspot
              refine ⟨bk, off, rfl, lt_of_cell c0, fun i hi => ?_⟩
              rw [e] at hi
              have hg : (ss.take len).getD i ⟨#[]⟩ = ss.getD i ByteArray.empty := by
                rw [List.getD_eq_getElem?_getD, List.getElem?_take_of_lt hi, List.getD_eq_getElem?_getD]; rfl
              rw [hg, ← add_plain]
              refine ⟨hcell i (by omega), ?_⟩
              rw [List.getD_eq_getElem?_getD, List.getElem?_eq_getElem (by omega)]
              exact hsz _ (List.getElem_mem _)
          · rw [Sane]
            exact ⟨hs2, by omega, g3, hwk.2, g5⟩
/-- Things in a row that is handed in. -/
theorem open_rows {α : Type} [Inhabited α] {st et k bytes : Nat} {At : World → Nat → Nat → α → Prop} {ok : α → Prop} (hu : Tryz.prog.underlying st = some (.slice et)) (hk : Tryz.prog.cellsOf et = k) (hby : Tryz.prog.bytesOf et = bytes) (hb0 : 0 < bytes) (hk0 : 0 < k)
    (elem : ∀ fuel cs y, DataW.trod enc Tryz.prog W 0 (fun _ => true) true fuel et cs = some y → (∀ x ∈ y.1.weights Tryz.prog et, x ≤ reachBytes) → ∃ x : α, ok x ∧ ∀ bl off, (∀ j u, cs[j]? = some u → W.cell? ⟨bl, off + j, none⟩ = some u) → At W bl off x)
    {fuel : Nat} {cs : List Value} {d : DataW H} {p : List MemPlace} (h : DataW.trod enc Tryz.prog W 0 (fun _ => true) true fuel st cs = some (d, p)) (hw : ∀ x ∈ d.weights Tryz.prog st, x ≤ reachBytes) :
    ∃ a c xs, cs = [.slice a (xs : List α).length c] ∧ RowsLie k At W.heap.size W (.slice a xs.length c) xs ∧ (∀ x ∈ xs, ok x) ∧ xs.length ≤ 140737488355328 := by
  rcases DataW.trod_slice hu h with ⟨rfl, _⟩ | ⟨a, len, cap, elems, rest, n, hfu, rfl, hx, _, hl, hm, hln, hel, _, _⟩
  · exact ⟨none, 0, [], rfl, ⟨none, 0, rfl, Nat.le_refl _, by decide, .inl rfl⟩, fun x hx => by simp at hx, by simp⟩
  · simp only [Prod.mk.injEq] at hx
    obtain ⟨rfl, _⟩ := hx
    have hsz : len ≤ 140737488355328 := by
      have h1 := hw (((elems.map (·.1)).length + (rest.map (·.1)).length) * bytes) (by
        simp only [DataW.weights, hu, List.mem_cons, List.mem_append]
        exact .inl (by rw [hby]))
      rw [List.length_map, hln, Nat.add_mul] at h1
      unfold reachBytes at h1
      have h2 : len ≤ len * bytes := Nat.le_mul_of_pos_right len hb0
      omega
    have hc : ∀ i, i < len → ∃ x : α, (∃ u, W.cell? ((a.add (i * k)).add 0) = some u) ∧ ok x ∧ ∀ bl off, a = ⟨bl, off, none⟩ → At W bl (off + i * k) x := by
      intro i hi
      have key := hel i hi
      rw [hk, List.getElem?_eq_getElem (by omega)] at key
      obtain ⟨cs', h1, h2⟩ := Option.bind_eq_some_iff.1 key
      obtain ⟨_, hl4, hcell⟩ := World.cells?_some h1
      obtain ⟨x, hx, hat⟩ := elem _ _ _ h2 fun z hz => hw z (by
        simp only [DataW.weights, hu, List.mem_cons, List.mem_append]
        exact .inr (.inl (weightsAll_mem (List.mem_map_of_mem (List.getElem_mem _)) hz)))
      refine ⟨x, ⟨_, (hcell 0 hk0).trans (List.getElem?_eq_getElem (by omega))⟩, hx, fun bl off e => hat bl _ fun j u hj => ?_⟩
      obtain ⟨hj1, hj2⟩ := List.getElem?_eq_some_iff.1 hj
      have := (hcell j (by omega)).trans hj
      rw [e, add_plain, add_plain] at this
      exact this
    obtain ⟨f, hf⟩ := choose_lt hc
    have hlt : ((List.range len).map f).length = len := by simp
    refine ⟨some a, cap, (List.range len).map f, by rw [hlt], ⟨some a, cap, rfl, by omega, ?_, ?_⟩, ?_, by omega⟩
    · unfold maxLen at hm; omega
    · by_cases h0 : len = 0
      · left; subst h0; rfl
      · right
        obtain ⟨bl, off, spot⟩ := a
        obtain ⟨⟨u0, c0⟩, _⟩ := hf 0 (by omega)
        have hspot : spot = none := by simpa [Addr.add] using World.cell?_spot c0
        subst hspot
        rw [add_plain, add_plain] at c0
        refine ⟨bl, off, rfl, lt_of_cell c0, ?_⟩
        intro i x hix
        rw [List.getElem?_map] at hix
        obtain ⟨q, hq, rfl⟩ := Option.map_eq_some_iff.1 hix
        rw [List.getElem?_eq_some_iff] at hq
        obtain ⟨hji, hjj⟩ := hq
        simp only [List.length_range, List.getElem_range] at hji hjj
        subst hjj
        exact (hf _ hji).2.2 bl off rfl
    · intro x hx
      obtain ⟨j, hj, rfl⟩ := List.mem_map.1 hx
      exact (hf j (List.mem_range.1 hj)).2.1
def okP (q : ByteArray × Tree) : Prop := Sane q.2 ∧ Ranged q.2 ∧ q.1.size ≤ 140737488355328
set_option maxRecDepth 100000 in
theorem open_prop {fuel : Nat} {cs : List Value} {y : DataW H × List MemPlace} (h : DataW.trod enc Tryz.prog W 0 (fun _ => true) true fuel 90 cs = some y) (hw : ∀ x ∈ y.1.weights Tryz.prog 90, x ≤ reachBytes) :
    ∃ q : ByteArray × Tree, okP q ∧ ∀ bl off, (∀ j u, cs[j]? = some u → W.cell? ⟨bl, off + j, none⟩ = some u) → PropAt W.heap.size W bl off q := by
  obtain ⟨xs, n, hfu, hx, hl, hlen, hf⟩ := DataW.trod_struct Tryz.underlying90 h
  rw [cells90] at hl
  match cs, hl with
  | [u, v0, v1, v2, v3, v4, v5], _ =>
    match xs, hlen with
    | [y1, y2], _ =>
      subst hx
      have f1 : DataW.trod enc Tryz.prog W 0 (fun _ => true) true n 9 [u] = some y1 := by simpa [cells9] using hf 0 { name := "Key", type := 9, offset := 0, embedded := false, tag := "", pkgPath := "", byteOffset := 0 } rfl
      have f2 : DataW.trod enc Tryz.prog W 0 (fun _ => true) true n 88 [v0, v1, v2, v3, v4, v5] = some y2 := by simpa [cells88] using hf 1 { name := "Value", type := 88, offset := 1, embedded := false, tag := "", pkgPath := "", byteOffset := 16 } rfl
      obtain ⟨s, e1, e1', hs⟩ := DataW.trod_string Tryz.underlying9 f1
      simp only [List.cons.injEq, and_true] at e1
      subst e1
      have hwe : ∀ x, x ∈ y1.1.weights Tryz.prog 9 ∨ x ∈ y2.1.weights Tryz.prog 88 → x ≤ reachBytes := by
        intro x hx
        apply hw x
        simp only [DataW.weights, Tryz.underlying90, List.map_cons, List.map_nil, DataW.weightsEach, List.mem_append]
        rcases hx with h | h
        · exact .inl h
        · exact .inr (.inl h)
      have hs2 : s.size ≤ 140737488355328 := by
        have := hwe s.size (.inl (by rw [e1']; simp [DataW.weights]))
        unfold reachBytes at this
        omega
      obtain ⟨T, hT, hS, hR⟩ := open_value n _ _ _ f2 (fun x hx => hwe x (.inr hx))
      refine ⟨(s, T), ⟨hS, hR, hs2⟩, fun bl off hc => ⟨hc 0 _ rfl, hs, v0, v1, v2, v3, v4, v5, ⟨hc 1 _ rfl, hc 2 _ rfl, hc 3 _ rfl, hc 4 _ rfl, hc 5 _ rfl, hc 6 _ rfl⟩, hT⟩⟩
theorem open_props {fuel : Nat} {cs : List Value} {d : DataW H} {p : List MemPlace} (h : DataW.trod enc Tryz.prog W 0 (fun _ => true) true fuel 69 cs = some (d, p)) (hw : ∀ x ∈ d.weights Tryz.prog 69, x ≤ reachBytes) :
    ∃ v ps, cs = [v] ∧ PropsLie W.heap.size W v ps ∧ ∀ q ∈ ps, okP q := by
  have : Inhabited (ByteArray × Tree) := ⟨(⟨#[]⟩, .mk 0 false 0 ⟨#[]⟩ [] [])⟩
  obtain ⟨a, c, xs, e, h1, h2, _⟩ := open_rows (k := 7) (At := PropAt W.heap.size) (ok := okP) Tryz.underlying69 cells90 (by kernel_rfl : Tryz.prog.bytesOf 90 = 104) (by decide) (by decide) (fun _ _ _ h hw => open_prop h hw) h hw
  obtain ⟨a', c', e2, g1, g2, g3⟩ := h1
  exact ⟨_, xs, e, ⟨a', c', e2, g1, g2, g3⟩, h2⟩
theorem open_labs {fuel : Nat} {u : Value} {y : DataW H × List MemPlace} (h : DataW.trod enc Tryz.prog W 0 (fun _ => true) true fuel 43 [u] = some y) (hw : ∀ x ∈ y.1.weights Tryz.prog 43, x ≤ reachBytes) :
    ∃ (la : Option Addr) (lc : Nat) (ks : List ByteArray), u = .slice la ks.length lc ∧ (ks.length ≤ lc ∧ lc ≤ 9223372036854775807) ∧ KeysLie W.heap.size W la ks ∧ ∀ x ∈ ks, x.size ≤ 140737488355328 := by
  rcases open_strings Tryz.underlying43 Tryz.underlying9 cells9 h with ⟨e4, e5⟩ | ⟨a, len, cap, ss, e4, _, hlc, hcm, hss, hx4, hcell, hsz⟩
  · simp only [List.cons.injEq, and_true] at e4
    subst e4 e5
    exact ⟨none, 0, [], rfl, ⟨Nat.le_refl _, by omega⟩, .inl rfl, by simp⟩
  · simp only [List.cons.injEq, and_true] at e4
    subst e4
    simp only [if_true] at hss
    have e : (ss.take len).length = len := by simp; omega
    refine ⟨some a, cap, ss.take len, by rw [e], ⟨by omega, by unfold maxLen at hcm; omega⟩, ?_, ?_⟩
    · by_cases h0 : len = 0
      · left; subst h0; simp
      · right
        obtain ⟨bk, off, spot⟩ := a
        have c0 := hcell 0 (by omega)
        have hspot : spot = none := by simpa [Addr.add] using World.cell?_spot c0
        subst hspot
        refine ⟨bk, off, rfl, lt_of_cell c0, fun i hi => ?_⟩
        rw [e] at hi
        have hg : (ss.take len).getD i ⟨#[]⟩ = ss.getD i ByteArray.empty := by
          rw [List.getD_eq_getElem?_getD, List.getElem?_take_of_lt hi, List.getD_eq_getElem?_getD]; rfl
        rw [hg, ← add_plain]
        refine ⟨hcell i (by omega), ?_⟩
        rw [List.getD_eq_getElem?_getD, List.getElem?_eq_getElem (by omega)]
        exact hsz _ (List.getElem_mem _)
    · intro x hx
      rw [hx4] at hw
      simp only [DataW.weights, Tryz.underlying43, List.mem_cons, List.mem_append] at hw
      have := hw x.size (.inr (.inl (weightsAll_mem (d := .lit (.string x.data.toList)) (by unfold strs; exact List.mem_map.2 ⟨x, hx, rfl⟩) (by simp [DataW.weights]))))
      unfold reachBytes at this
      omega
/-- What is lent with a node, with a relationship. -/
def okN (n : NodeP) : Prop := W64 n.id ∧ (∀ x ∈ n.labels, x.size ≤ 140737488355328) ∧ ∀ q ∈ n.props, okP q
def okR (r : RelP) : Prop := (W64 r.id ∧ W64 r.fr ∧ W64 r.tt) ∧ r.type.size ≤ 140737488355328 ∧ ∀ q ∈ r.props, okP q
set_option maxRecDepth 100000 in
theorem open_node {fuel : Nat} {cs : List Value} {y : DataW H × List MemPlace} (h : DataW.trod enc Tryz.prog W 0 (fun _ => true) true fuel 73 cs = some y) (hw : ∀ x ∈ y.1.weights Tryz.prog 73, x ≤ reachBytes) :
    ∃ q : NodeP, okN q ∧ ∀ bl off, (∀ j u, cs[j]? = some u → W.cell? ⟨bl, off + j, none⟩ = some u) → NodeAt W.heap.size W bl off q := by
  obtain ⟨xs, n, hfu, hx, hl, hlen, hf⟩ := DataW.trod_struct Tryz.underlying73 h
  rw [cells73] at hl
  match cs, hl with
  | [u0, u1, u2], _ =>
    match xs, hlen with
    | [y0, y1, (y2, z2)], _ =>
      subst hx
      have f0 : DataW.trod enc Tryz.prog W 0 (fun _ => true) true n 2 [u0] = some y0 := by simpa [cells2] using hf 0 { name := "ID", type := 2, offset := 0, embedded := false, tag := "", pkgPath := "", byteOffset := 0 } rfl
      have f1 : DataW.trod enc Tryz.prog W 0 (fun _ => true) true n 43 [u1] = some y1 := by simpa [cells43] using hf 1 { name := "Labels", type := 43, offset := 1, embedded := false, tag := "", pkgPath := "", byteOffset := 8 } rfl
      have f2 : DataW.trod enc Tryz.prog W 0 (fun _ => true) true n 69 [u2] = some (y2, z2) := by simpa [cells69] using hf 2 { name := "Props", type := 69, offset := 2, embedded := false, tag := "", pkgPath := "", byteOffset := 32 } rfl
      have hwe : ∀ x, x ∈ y1.1.weights Tryz.prog 43 ∨ x ∈ y2.weights Tryz.prog 69 → x ≤ reachBytes := by
        intro x hx
        apply hw x
        simp only [DataW.weights, Tryz.underlying73, List.map_cons, List.map_nil, DataW.weightsEach, List.mem_append]
        rcases hx with h | h
        · exact .inr (.inl h)
        · exact .inr (.inr (.inl h))
      obtain ⟨k, e0, hk⟩ := open_int f0
      obtain ⟨la, lc, ks, rfl, k1, k2, k3⟩ := open_labs f1 fun x hx => hwe x (.inl hx)
      obtain ⟨pv, ps, e2, hps, hfit⟩ := open_props f2 fun x hx => hwe x (.inr hx)
      simp only [intE, List.cons.injEq, and_true] at e0 e2
      subst e0 e2
      exact ⟨⟨k, ks, ps⟩, ⟨hk, k3, hfit⟩, fun bl off hc => ⟨la, lc, u2, ⟨hc 0 _ rfl, hc 1 _ rfl, hc 2 _ rfl⟩, k1, k2, hps⟩⟩
set_option maxRecDepth 100000 in
theorem open_rel {fuel : Nat} {cs : List Value} {y : DataW H × List MemPlace} (h : DataW.trod enc Tryz.prog W 0 (fun _ => true) true fuel 71 cs = some y) (hw : ∀ x ∈ y.1.weights Tryz.prog 71, x ≤ reachBytes) :
    ∃ q : RelP, okR q ∧ ∀ bl off, (∀ j u, cs[j]? = some u → W.cell? ⟨bl, off + j, none⟩ = some u) → RelAt W.heap.size W bl off q := by
  obtain ⟨xs, n, hfu, hx, hl, hlen, hf⟩ := DataW.trod_struct Tryz.underlying71 h
  rw [cells71] at hl
  match cs, hl with
  | [u0, u1, u2, u3, u4], _ =>
    match xs, hlen with
    | [y0, y1, y2, y3, (y4, z4)], _ =>
      subst hx
      have f0 : DataW.trod enc Tryz.prog W 0 (fun _ => true) true n 2 [u0] = some y0 := by simpa [cells2] using hf 0 { name := "ID", type := 2, offset := 0, embedded := false, tag := "", pkgPath := "", byteOffset := 0 } rfl
      have f1 : DataW.trod enc Tryz.prog W 0 (fun _ => true) true n 2 [u1] = some y1 := by simpa [cells2] using hf 1 { name := "From", type := 2, offset := 1, embedded := false, tag := "", pkgPath := "", byteOffset := 8 } rfl
      have f2 : DataW.trod enc Tryz.prog W 0 (fun _ => true) true n 2 [u2] = some y2 := by simpa [cells2] using hf 2 { name := "To", type := 2, offset := 2, embedded := false, tag := "", pkgPath := "", byteOffset := 16 } rfl
      have f3 : DataW.trod enc Tryz.prog W 0 (fun _ => true) true n 9 [u3] = some y3 := by simpa [cells9] using hf 3 { name := "Type", type := 9, offset := 3, embedded := false, tag := "", pkgPath := "", byteOffset := 24 } rfl
      have f4 : DataW.trod enc Tryz.prog W 0 (fun _ => true) true n 69 [u4] = some (y4, z4) := by simpa [cells69] using hf 4 { name := "Props", type := 69, offset := 4, embedded := false, tag := "", pkgPath := "", byteOffset := 40 } rfl
      have hwe : ∀ x, x ∈ y3.1.weights Tryz.prog 9 ∨ x ∈ y4.weights Tryz.prog 69 → x ≤ reachBytes := by
        intro x hx
        apply hw x
        simp only [DataW.weights, Tryz.underlying71, List.map_cons, List.map_nil, DataW.weightsEach, List.mem_append]
        rcases hx with h | h
        · exact .inr (.inr (.inr (.inl h)))
        · exact .inr (.inr (.inr (.inr (.inl h))))
      obtain ⟨k, e0, hk⟩ := open_int f0
      obtain ⟨k1, e1, hk1⟩ := open_int f1
      obtain ⟨k2, e2, hk2⟩ := open_int f2
      obtain ⟨s, e3, hs, hsw⟩ := open_str2 f3
      obtain ⟨pv, ps, e4, hps, hfit⟩ := open_props f4 fun x hx => hwe x (.inr hx)
      have hs2 : s.size ≤ 140737488355328 := by
        have := hwe _ (.inl hsw)
        unfold reachBytes at this
        omega
      simp only [intE, strE, List.cons.injEq, and_true] at e0 e1 e2 e3 e4
      subst e0 e1 e2 e3 e4
      exact ⟨⟨k, k1, k2, s, ps⟩, ⟨⟨hk, hk1, hk2⟩, hs2, hfit⟩, fun bl off hc => ⟨u4, ⟨hc 0 _ rfl, hc 1 _ rfl, hc 2 _ rfl, hc 3 _ rfl, hc 4 _ rfl⟩, hs, hps⟩⟩
/-- What is lent with a graph. -/
structure LentG (g : GraphP) : Prop where
  n : ∀ x ∈ g.nodes, okN x
  r : ∀ x ∈ g.rels, okR x
  ln : g.nodes.length ≤ 140737488355328
  lr : g.rels.length ≤ 140737488355328
  nn : W64 g.nn
  nr : W64 g.nr
theorem LentG.sane {g : GraphP} (h : LentG g) : SaneG g :=
  ⟨h.ln, h.lr, fun x hx => (h.n x hx).2.1, fun x hx q hq => ⟨((h.n x hx).2.2 q hq).1, Nat.le_trans ((h.n x hx).2.2 q hq).2.2 (by decide)⟩, fun x hx => (h.r x hx).2.1, fun x hx q hq => ⟨((h.r x hx).2.2 q hq).1, Nat.le_trans ((h.r x hx).2.2 q hq).2.2 (by decide)⟩⟩
set_option maxRecDepth 100000 in
theorem open_graph {fuel : Nat} {cs : List Value} {d : DataW H} {p : List MemPlace} (h : DataW.trod enc Tryz.prog W 0 (fun _ => true) true fuel 25 cs = some (d, p)) (hw : ∀ x ∈ d.weights Tryz.prog 25, x ≤ reachBytes) :
    ∃ g : GraphP, GraphLies W.heap.size W (.agg cs.toArray) g ∧ LentG g := by
  obtain ⟨xs, n, hfu, hx, hl, hlen, hf⟩ := DataW.trod_struct Tryz.underlying25 h
  rw [cells25] at hl
  match cs, hl with
  | [u0, u1, u2, u3], _ =>
    match xs, hlen with
    | [(y0, z0), (y1, z1), y2, y3], _ =>
      simp only [Prod.mk.injEq] at hx
      obtain ⟨rfl, _⟩ := hx
      have f0 : DataW.trod enc Tryz.prog W 0 (fun _ => true) true n 22 [u0] = some (y0, z0) := by simpa [cells22] using hf 0 { name := "Nodes", type := 22, offset := 0, embedded := false, tag := "", pkgPath := "", byteOffset := 0 } rfl
      have f1 : DataW.trod enc Tryz.prog W 0 (fun _ => true) true n 23 [u1] = some (y1, z1) := by simpa [cells23] using hf 1 { name := "Rels", type := 23, offset := 1, embedded := false, tag := "", pkgPath := "", byteOffset := 24 } rfl
      have f2 : DataW.trod enc Tryz.prog W 0 (fun _ => true) true n 2 [u2] = some y2 := by simpa [cells2] using hf 2 { name := "NextNode", type := 2, offset := 2, embedded := false, tag := "", pkgPath := "", byteOffset := 48 } rfl
      have f3 : DataW.trod enc Tryz.prog W 0 (fun _ => true) true n 2 [u3] = some y3 := by simpa [cells2] using hf 3 { name := "NextRel", type := 2, offset := 3, embedded := false, tag := "", pkgPath := "", byteOffset := 56 } rfl
      have hwe : ∀ x, x ∈ y0.weights Tryz.prog 22 ∨ x ∈ y1.weights Tryz.prog 23 → x ≤ reachBytes := by
        intro x hx
        apply hw x
        simp only [DataW.weights, Tryz.underlying25, List.map_cons, List.map_nil, DataW.weightsEach, List.mem_append]
        rcases hx with h | h
        · exact .inl h
        · exact .inr (.inl h)
      have : Inhabited NodeP := ⟨⟨0, [], []⟩⟩
      have : Inhabited RelP := ⟨⟨0, 0, 0, ⟨#[]⟩, []⟩⟩
      obtain ⟨na, nc, ns, e0, h1, h2, h3⟩ := open_rows (k := 3) (At := NodeAt W.heap.size) (ok := okN) Tryz.underlying22 cells73 (by kernel_rfl : Tryz.prog.bytesOf 73 = 56) (by decide) (by decide) (fun _ _ _ h hw => open_node h hw) f0 (fun x hx => hwe x (.inl hx))
      obtain ⟨ra, rc, rs, e1, g1, g2, g3⟩ := open_rows (k := 5) (At := RelAt W.heap.size) (ok := okR) Tryz.underlying23 cells71 (by kernel_rfl : Tryz.prog.bytesOf 71 = 64) (by decide) (by decide) (fun _ _ _ h hw => open_rel h hw) f1 (fun x hx => hwe x (.inr hx))
      obtain ⟨k2, e2, hk2⟩ := open_int f2
      obtain ⟨k3, e3, hk3⟩ := open_int f3
      simp only [intE, List.cons.injEq, and_true] at e0 e1 e2 e3
      subst e0 e1 e2 e3
      exact ⟨⟨ns, rs, k2, k3⟩, ⟨na, nc, ra, rc, rfl, h1, g1⟩, ⟨h2, g2, h3, g3, hk2, hk3⟩⟩
end
end Go.Proofs.YthfilnflgahcjaaGreatDoor

