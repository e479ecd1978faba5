/- A graph: what it is, and where it lies. Equal: values that may not be are held for nothing. List, and Less at every two values. Storable, the program's and the document's. value.Storable. A map of texts that were met; rows of copies that grow. Names that rise: the program's word. -/
import Derived.Test.YthfilnflgahcjaaGreatDoorJoin2
import Derived.Test.YthfilnflgahcjaaGreatDoorJoin16
import Derived.Deep.QuietTactic
import Derived.BigQuiet
import Derived.Deep.RegionWith
import Derived.Test.YthfilnflgahcjaaGreatDoorShape
import Derived.StringKeys
import Derived.MapKept
import Derived.Orders
import Derived.WalkKit
import Derived.Below
import Derived.Test.YthfilnflgahcjaaGreatDoorJoin1
import Derived.Lib.ValidLaws
import Derived.Test.YthfilnflgahcjaaGreatDoorJoin15
import Derived.Laws.IdiomCopy
import Derived.Laws.MakeOwn
import Derived.Test.YthfilnflgahcjaaGreatDoorJoin8
namespace Go.Proofs.YthfilnflgahcjaaGreatDoor
open Go.RowKit Go.Shelf
set_option linter.unusedVariables false
set_option linter.unusedSimpArgs false
/-- A node. -/
structure NodeP where
  id : Int
  labels : List ByteArray
  props : List (ByteArray × Tree)
/-- A relationship. -/
structure RelP where
  id : Int
  fr : Int
  tt : Int
  type : ByteArray
  props : List (ByteArray × Tree)
/-- A graph. -/
structure GraphP where
  nodes : List NodeP
  rels : List RelP
  nn : Int
  nr : Int
/-- Things in a row, some cells each. -/
def RowsLie {α : Type} (k : Nat) (At : World → Nat → Nat → α → Prop) (B : Nat) (w : World) (v : Value) (xs : List α) : Prop :=
  ∃ a c, v = .slice a xs.length c ∧ xs.length ≤ c ∧ c ≤ 9223372036854775807 ∧ (xs = [] ∨ ∃ bl off, a = some ⟨bl, off, none⟩ ∧ bl < B ∧ ∀ i x, xs[i]? = some x → At w bl (off + i * k) x)
theorem RowsLie.turn {α : Type} {k : Nat} {At At' : World → Nat → Nat → α → Prop} {B : Nat} {w w' : World} {v : Value} {xs : List α} (h : RowsLie k At B w v xs) (hA : ∀ bl off x, bl < B → x ∈ xs → At w bl off x → At' w' bl off x) : RowsLie k At' B w' v xs := by
  obtain ⟨a, c, e, h1, h2, h3⟩ := h
  exact ⟨a, c, e, h1, h2, h3.imp id fun ⟨bl, off, e, hl, hc⟩ => ⟨bl, off, e, hl, fun i x hi => hA _ _ _ hl (List.mem_of_getElem? hi) (hc i x hi)⟩⟩
def NodeAt (B : Nat) (w : World) (bl off : Nat) (n : NodeP) : Prop :=
  ∃ la lc pv, (w.cell? ⟨bl, off, none⟩ = some (.int .i64 n.id) ∧ w.cell? ⟨bl, off + 1, none⟩ = some (.slice la n.labels.length lc) ∧ w.cell? ⟨bl, off + 2, none⟩ = some pv) ∧ (n.labels.length ≤ lc ∧ lc ≤ 9223372036854775807) ∧ KeysLie B w la n.labels ∧ PropsLie B w pv n.props
def RelAt (B : Nat) (w : World) (bl off : Nat) (r : RelP) : Prop :=
  ∃ pv, (w.cell? ⟨bl, off, none⟩ = some (.int .i64 r.id) ∧ w.cell? ⟨bl, off + 1, none⟩ = some (.int .i64 r.fr) ∧ w.cell? ⟨bl, off + 2, none⟩ = some (.int .i64 r.tt) ∧ w.cell? ⟨bl, off + 3, none⟩ = some (.string r.type) ∧ w.cell? ⟨bl, off + 4, none⟩ = some pv) ∧ r.type.size ≤ maxLen ∧ PropsLie B w pv r.props
theorem NodeAt.below {B : Nat} {w w' : World} (h : Below B w w') {bl off : Nat} (hl : bl < B) {n : NodeP} (hn : NodeAt B w bl off n) : NodeAt B w' bl off n := by
  obtain ⟨la, lc, pv, ⟨c0, c1, c2⟩, hs, hk, hp⟩ := hn
  exact ⟨la, lc, pv, ⟨(h.cell (p := ⟨bl, off, none⟩) hl).trans c0, (h.cell (p := ⟨bl, off + 1, none⟩) hl).trans c1, (h.cell (p := ⟨bl, off + 2, none⟩) hl).trans c2⟩, hs, hk.below h, hp.below h⟩
theorem RelAt.below {B : Nat} {w w' : World} (h : Below B w w') {bl off : Nat} (hl : bl < B) {n : RelP} (hn : RelAt B w bl off n) : RelAt B w' bl off n := by
  obtain ⟨pv, ⟨c0, c1, c2, c3, c4⟩, hs, hp⟩ := hn
  exact ⟨pv, ⟨(h.cell (p := ⟨bl, off, none⟩) hl).trans c0, (h.cell (p := ⟨bl, off + 1, none⟩) hl).trans c1, (h.cell (p := ⟨bl, off + 2, none⟩) hl).trans c2, (h.cell (p := ⟨bl, off + 3, none⟩) hl).trans c3, (h.cell (p := ⟨bl, off + 4, none⟩) hl).trans c4⟩, hs, hp.below h⟩
def NodesLie (B : Nat) (w : World) (v : Value) (ns : List NodeP) : Prop := RowsLie 3 (NodeAt B) B w v ns
def RelsLie (B : Nat) (w : World) (v : Value) (rs : List RelP) : Prop := RowsLie 5 (RelAt B) B w v rs
theorem NodesLie.below {B : Nat} {w w' : World} (h : Below B w w') {v : Value} {ns : List NodeP} (hn : NodesLie B w v ns) : NodesLie B w' v ns := hn.turn fun _ _ _ hl _ h2 => h2.below h hl
theorem RelsLie.below {B : Nat} {w w' : World} (h : Below B w w') {v : Value} {ns : List RelP} (hn : RelsLie B w v ns) : RelsLie B w' v ns := hn.turn fun _ _ _ hl _ h2 => h2.below h hl
/-- A graph in registers. -/
def GraphLies (B : Nat) (w : World) (v : Value) (g : GraphP) : Prop :=
  ∃ na nc ra rc, v = .agg #[.slice na g.nodes.length nc, .slice ra g.rels.length rc, .int .i64 g.nn, .int .i64 g.nr] ∧ NodesLie B w (.slice na g.nodes.length nc) g.nodes ∧ RelsLie B w (.slice ra g.rels.length rc) g.rels
theorem GraphLies.below {B : Nat} {w w' : World} (h : Below B w w') {v : Value} {g : GraphP} (hn : GraphLies B w v g) : GraphLies B w' v g := by
  obtain ⟨na, nc, ra, rc, e, h1, h2⟩ := hn
  exact ⟨na, nc, ra, rc, e, h1.below h, h2.below h⟩
end Go.Proofs.YthfilnflgahcjaaGreatDoor

namespace Go.Proofs.YthfilnflgahcjaaGreatDoor
open Go.RowKit Go.Shelf
set_option linter.unusedVariables false
/-- Not too great to be looked at. -/
def Modest (t : Tree) : Prop := t.height < 100000000 ∧ bytesOf (t.pre 1) < 4611686018427387904
end Go.Proofs.YthfilnflgahcjaaGreatDoor

namespace Go.Proofs.YthfilnflgahcjaaGreatDoor
open Go.RowKit Go.Shelf
set_option linter.unusedVariables false
def plainB (k : Int) : Bool := k == 1 || k == 2 || k == 3
theorem plain_any (k : Int) (w : World) : Calls Tryz.prog 213 #[.int .i64 k] w fun e w' => e = .returned (.bool (plainB k)) ∧ w' = w := by
  go_enter Tryz.func213, Tryz.ntmps213
  by_cases h1 : k = 1
  · subst h1; go_wp2_with fail; go_ret; exact ⟨rfl, rfl⟩
  by_cases h2 : k = 2
  · subst h2; go_wp2_with fail; go_ret; exact ⟨rfl, rfl⟩
  go_wp2_with fail
  go_ret
  have e1 : (k == 1) = false := by simpa using h1
  have e2 : (k == 2) = false := by simpa using h2
  refine ⟨?_, rfl⟩
  unfold plainB
  rw [e1, e2]
  rfl
end Go.Proofs.YthfilnflgahcjaaGreatDoor

namespace Go.Proofs.YthfilnflgahcjaaGreatDoor
open Go.RowKit Go.Shelf
set_option linter.unusedVariables false
/-- The kind of the first value of a list. -/
def firstK (ts : List Tree) : Int := match ts with | [] => 0 | t :: _ => t.kind
/-- What Storable answers of a value that may be. -/
def storB (T : Tree) : Bool := if T.kind = 4 then T.kids.all fun t => plainB t.kind && (t.kind == firstK T.kids) else plainB T.kind
theorem take_all_snoc {p : Tree → Bool} {ts : List Tree} {j : Nat} {t : Tree} (h : (ts.take j).all p = true) (hx : ts[j]? = some t) (ht : p t = true) : (ts.take (j + 1)).all p = true := by
  rw [List.take_add_one, hx, List.all_append, h]; simp [ht]
theorem all_false {p : Tree → Bool} {ts : List Tree} {j : Nat} {t : Tree} (hx : ts[j]? = some t) (ht : p t = false) : ts.all p = false := by
  rw [List.all_eq_false]; exact ⟨t, List.mem_of_getElem? hx, by simp [ht]⟩
/-- The first value of a list that lies. -/
theorem KidsLie.first {B bl off : Nat} {w : World} {ts : List Tree} (h : KidsLie B w bl off ts) (h0 : 0 < ts.length) : w.cell? ⟨bl, off, none⟩ = some (.int .i64 (firstK ts)) := by
  obtain ⟨⟨p0, p1, p2, p3, p4, p5⟩, hx⟩ : ∃ t, ts[0]? = some t := ⟨_, List.getElem?_eq_getElem h0⟩
  obtain ⟨_, _, _, _, ⟨c0, _⟩, _⟩ := h.cells hx
  cases ts with
  | nil => simp at h0
  | cons t r =>
    simp at hx; subst hx
    simpa [firstK, Tree.kind] using c0
end Go.Proofs.YthfilnflgahcjaaGreatDoor

namespace Go.Proofs.YthfilnflgahcjaaGreatDoor
open Go.RowKit Go.Shelf
set_option linter.unusedVariables false
set_option maxRecDepth 100000 in
set_option maxHeartbeats 4000000 in
theorem Storable_any (T : Tree) (B : Nat) (v : Value) (w : World) (hB : B ≤ w.heap.size) (hv : Lies B w v T) (hT : Tabs w) (hm : Modest T) : Calls Tryz.prog 154 #[v] w fun e w' => e = .returned (.bool (decide (checkN T = 0) && storB T)) ∧ Below w.heap.size w w' := by
  obtain ⟨k, x, n, s, ks, ts⟩ := T
  have hv0 := hv
  simp only [Lies] at hv
  obtain ⟨ka, kc, la, lc, rfl, ⟨hs1, hs2, hs3, hs4, hs5⟩, hk, ht⟩ := hv
  unfold maxLen at hs5
  obtain ⟨W1, hW1⟩ : ∃ W1, w.alloc (.cells #[.int .i64 k, .bool x, .int .i64 n, .string s, .slice ka ks.length kc, .slice la ts.length lc] 88) = W1 := ⟨_, rfl⟩
  have hb1 : Below w.heap.size w W1 := hW1 ▸ (Below.refl _ _).alloc (Nat.le_refl _) _
  have hq1 : W1.heap[w.heap.size]? = some (.cells #[.int .i64 k, .bool x, .int .i64 n, .string s, .slice ka ks.length kc, .slice la ts.length lc] 88 (0, 0)) := hW1 ▸ World.alloc_heap_new _ _
  have hlt1 : w.heap.size < W1.heap.size := (Array.getElem?_eq_some_iff.1 hq1).1
  have HX : Hid (∀ W, Below W1.heap.size W1 W → Below w.heap.size w W ∧ W.cell? ⟨w.heap.size, 0, none⟩ = some (.int .i64 k) ∧ W.cell? ⟨w.heap.size, 5, none⟩ = some (.slice la ts.length lc)) := fun W hb => by
    have e := (hb.block _ hlt1).trans hq1
    exact ⟨hb1.trans (hb.mono (by omega)), by unfold World.cell?; simp only [e]; rfl, by unfold World.cell?; simp only [e]; rfl⟩
  have HT : Hid (ts = [] ∨ ∃ bl off, la = some ⟨bl, off, none⟩ ∧ bl < B ∧ KidsLie B w bl off ts) := ht
  have HCK := hidE (check_any _ _ W1 ((hv0.below (hb1.mono hB)).mono (Nat.le_trans hB hb1.size)) (hT.below hb1) hm.1 hm.2)
  have HW1 := hidE hW1
  obtain ⟨cn, hcn⟩ : ∃ c, checkN (.mk k x n s ks ts) = c := ⟨_, rfl⟩
  rw [hcn] at HCK ⊢
  have HS : Hid (storB (.mk k x n s ks ts) = (if k = 4 then ts.all fun t => plainB t.kind && (t.kind == firstK ts) else plainB k)) := rfl
  clear hW1 hq1 ht hk hv0 hT hm hcn
  go_enter Tryz.func154, Tryz.ntmps154
  go_wp2_with fail
  rw [HW1.out]
  refine HCK.out.mono ?_
  rintro e w2 ⟨rfl, hb2⟩
  have HB2 := hidE hb2
  obtain ⟨hbw2, q0, q5⟩ := HX.out w2 hb2
  have HBW2 := hidE hbw2
  clear hb2 hbw2 HW1 HCK
  by_cases hc : cn = 0
  · have hc' : (cn != 0) = false := by simp [hc]
    have HD : Hid (decide (cn = 0) = true) := decide_eq_true hc
    clear hc
    by_cases k4 : k = 4
    · have k4' : (k != 4) = false := by simp [k4]
      have HS2 : Hid (storB (.mk k x n s ks ts) = ts.all fun t => plainB t.kind && (t.kind == firstK ts)) := HS.out.trans (if_pos k4)
      clear HS k4
      go_wp2_with fail
      clear q0 q5
      go_loopw [17] (fun i wr => ∃ j : Nat, j ≤ ts.length ∧ i = .int .i64 j ∧ Below W1.heap.size W1 wr ∧ (ts.take j).all (fun t => plainB t.kind && (t.kind == firstK ts)) = true) (fun i _ => ts.length - (intOf i).toNat)
      case atStart => exact ⟨0, Nat.zero_le _, rfl, HB2.out, rfl⟩
      case round =>
        obtain ⟨j, hj, rfl, hbr, hal⟩ := hrel
        have HBR := hidE hbr
        have HAL := hidE hal
        obtain ⟨hbw, q0, q5⟩ := HX.out wr hbr
        have HBW := hidE hbw
        clear hbr hbw hal
        by_cases hlt : j < ts.length
        · obtain ⟨bl, off, rfl, hbl, hkk⟩ := HT.out.resolve_left (by intro e; subst e; simp at hlt)
          obtain ⟨⟨p0, p1, p2, p3, p4, p5⟩, hx⟩ : ∃ t, ts[j]? = some t := ⟨_, List.getElem?_eq_getElem hlt⟩
          have hkw := hkk.below (HBW.out.mono hB) hbl
          obtain ⟨ja, jc, jl, jd, ⟨c0, c1, c2, c3, c4, c5⟩, _⟩ := hkw.cells hx
          have d0 := hkw.first (by omega)
          have HX2 := hidE hx
          obtain ⟨fk, hfk⟩ : ∃ f, firstK ts = f := ⟨_, rfl⟩
          rw [hfk] at d0
          have HFK := hidE hfk
          have hl0 : (0 : Int) < ts.length := by omega
          have hbs : bl < wr.heap.size := by have := HBW.out.size; omega
          have hws : w.heap.size < wr.heap.size := by have := HBR.out.size; omega
          obtain ⟨pp, hpp⟩ : ∃ b, plainB p0 = b := ⟨_, rfl⟩
          have HPP := hidE hpp
          have HPL : Hid (∀ W, Calls Tryz.prog 213 #[.int .i64 p0] W fun e w' => e = .returned (.bool pp) ∧ w' = W) := fun W => by
            rw [← hpp]; exact plain_any _ _
          clear hkk hkw hx hfk hpp
          obtain ⟨W3, hW3⟩ : ∃ W3, wr.alloc (.cells #[.int .i64 p0, .bool p1, .int .i64 p2, .string p3, .slice ja p4.length jc, .slice jl p5.length jd] 88) = W3 := ⟨_, rfl⟩
          have hb3 : Below wr.heap.size wr W3 := hW3 ▸ (Below.refl _ _).alloc (Nat.le_refl _) _
          have z0 : W3.cell? ⟨wr.heap.size, 0, none⟩ = some (.int .i64 p0) := hW3 ▸ cell_new _ _ _ _ _ rfl
          have z5 : W3.cell? ⟨w.heap.size, 5, none⟩ = some (.slice (some ⟨bl, off, none⟩) ts.length lc) := (hb3.cell (p := ⟨w.heap.size, 5, none⟩) hws).trans q5
          have zd : W3.cell? ⟨bl, off, none⟩ = some (.int .i64 fk) := (hb3.cell (p := ⟨bl, off, none⟩) hbs).trans d0
          have HB3 := hidE hb3
          have HW3 := hidE hW3
          clear hb3 hW3
          go_wp2_with fail
          rw [HW3.out]
          clear c0 c1 c2 c3 c4 c5 q0 q5 d0
          cases pp with
          | true =>
            go_quiet ((go_at_call 213; exact Calls.quiet_of_same (HPL.out _)))
            by_cases e : p0 = fk
            · have e' : (p0 != fk) = false := by simp [e]
              go_wp2_with fail
              go_roundw
              case rel => exact ⟨j + 1, by omega, by go_num, below_drewN (HBR.out.trans (HB3.out.mono HBR.out.size)) _, take_all_snoc HAL.out HX2.out (by rw [HFK.out]; show (plainB p0 && (p0 == fk)) = true; rw [HPP.out]; simp [e])⟩
              case measure => simp [intOf]; omega
            · have e' : (p0 != fk) = true := by simp [e]
              have HA : Hid ((ts.all fun t => plainB t.kind && (t.kind == firstK ts)) = false) := all_false HX2.out (by rw [HFK.out]; simp [Tree.kind, e])
              go_wp2_with fail
              go_ret
              exact ⟨by rw [HD.out, HS2.out, HA.out]; rfl, below_drewN (HBW.out.trans (HB3.out.mono HBW.out.size)) _⟩
          | false =>
            have HA : Hid ((ts.all fun t => plainB t.kind && (t.kind == firstK ts)) = false) := all_false HX2.out (by simp [Tree.kind, HPP.out])
            go_quiet ((go_at_call 213; exact Calls.quiet_of_same (HPL.out _)))
            go_wp2_with fail
            go_ret
            exact ⟨by rw [HD.out, HS2.out, HA.out]; rfl, below_drewN (HBW.out.trans (HB3.out.mono HBW.out.size)) _⟩
        · have HA : Hid ((ts.all fun t => plainB t.kind && (t.kind == firstK ts)) = true) := by
            have := HAL.out
            rw [List.take_of_length_le (by omega)] at this
            exact this
          go_wp2_with fail
          go_ret
          exact ⟨by rw [HD.out, HS2.out, HA.out]; rfl, HBW.out⟩
    · have k4' : (k != 4) = true := by simp [k4]
      have HS2 : Hid (storB (.mk k x n s ks ts) = plainB k) := HS.out.trans (if_neg k4)
      clear HS
      go_wp2_with fail
      refine (plain_any _ _).mono ?_
      rintro e w3 ⟨rfl, rfl⟩
      obtain ⟨pp, hpp⟩ : ∃ b, plainB k = b := ⟨_, rfl⟩
      rw [hpp]
      have HPP := hidE hpp
      clear hpp
      go_wp2_with fail
      go_ret
      exact ⟨by rw [HD.out, HS2.out, HPP.out]; rfl, HBW2.out⟩
  · have hc' : (cn != 0) = true := by simp [hc]
    have HD : Hid (decide (cn = 0) = false) := decide_eq_false hc
    clear hc
    go_wp2_with fail
    go_ret
    exact ⟨by rw [HD.out]; rfl, HBW2.out⟩
end Go.Proofs.YthfilnflgahcjaaGreatDoor

namespace Go.Proofs.YthfilnflgahcjaaGreatDoor
open Go.RowKit Go.Shelf Go.WideShapes Go.Lib
set_option linter.unusedVariables false
set_option linter.unusedSimpArgs false
theorem zero173 (w : World) : (zeroValue 164).run Tryz.prog w = .ok (.agg #[]) w := by kernel_rfl
end Go.Proofs.YthfilnflgahcjaaGreatDoor

namespace Go.Proofs.YthfilnflgahcjaaGreatDoor
open Go.RowKit Go.Shelf
set_option linter.unusedVariables false
set_option linter.unusedSimpArgs false
attribute [local go_sem] Oper.semAt_some
/-- Is a text not behind another one? -/
def leqB (x s : ByteArray) : Bool := Op.bytesLess x.toList s.toList || x.toList == s.toList
/-- Do names rise behind a text? -/
def nrB (l : ByteArray) : List ByteArray → Bool
  | [] => true
  | x :: r => nameOk x.data.toList && (!leqB x l && nrB x r)
theorem nrB_at {ks : List ByteArray} {j : Nat} {x l : ByteArray} (h : ks[j]? = some x) : nrB l (ks.drop j) = (nameOk x.data.toList && (!leqB x l && nrB x (ks.drop (j + 1)))) := by
  obtain ⟨hj, hx⟩ := List.getElem?_eq_some_iff.1 h
  rw [List.drop_eq_getElem_cons hj, hx, nrB]
set_option maxHeartbeats 1000000 in
theorem self_any (x : ByteArray) (w : World) : Calls Tryz.prog 134 #[.string x] w fun e w' => e = .returned (.string x) ∧ w' = w := by
  go_enter Tryz.func134, Tryz.ntmps134
  go_wp2_with fail
  go_ret
  exact ⟨rfl, rfl⟩
set_option maxHeartbeats 1000000 in
theorem key_any (x : ByteArray) (v0 v1 v2 v3 v4 v5 : Value) (w : World) : Calls Tryz.prog 156 #[.agg #[.string x, v0, v1, v2, v3, v4, v5]] w fun e w' => e = .returned (.string x) ∧ Below w.heap.size w w' := by
  go_enter Tryz.func156, Tryz.ntmps156
  go_upto_region 1 with fail
  generalize hW1 : World.alloc _ _ = W1
  have hr := rec_new w #[.string x, v0, v1, v2, v3, v4, v5] 90
  rw [hW1] at hr
  have HB1 : Hid (Below w.heap.size w W1) := by rw [← hW1]; exact (Below.refl _ _).alloc (Nat.le_refl _) _
  have q0 := hr.cell 0 rfl
  clear hW1 hr
  go_wp2_with fail
  go_ret
  exact ⟨rfl, HB1.out⟩
set_option maxRecDepth 100000 in
set_option maxHeartbeats 4000000 in
theorem names_any (ks : List ByteArray) (B : Nat) (ka : Option Addr) (kc : Nat) (w : World) (hB : B ≤ w.heap.size) (hE : Env w) (hk : KeysLie B w ka ks) (h1 : ks.length ≤ kc) (h2 : kc ≤ 9223372036854775807) (hs : ∀ x ∈ ks, x.size ≤ 140737488355328) :
    Calls Tryz.prog 133 #[.slice ka ks.length kc, .func (.func 134) #[] #[]] w fun e w' => e = .returned (.bool (nrB ⟨#[]⟩ ks)) ∧ Below w.heap.size w w' := by
  have HK := hidE hk
  have HS := hidE hs
  have HE := hidE hE
  obtain ⟨n, hn⟩ : ∃ n, ks.length = n := ⟨_, rfl⟩
  have HN := hidE hn
  rw [hn] at h1 ⊢
  obtain ⟨res, hres⟩ : ∃ r, nrB ⟨#[]⟩ ks = r := ⟨_, rfl⟩
  have HR := hidE hres
  rw [hres]
  clear hk hs hn hres hE
  go_enter Tryz.func133, Tryz.ntmps133
  go_wp2_with fail
  go_loopw [11, 5] (fun i l wr => ∃ (j : Nat) (s : ByteArray), j ≤ n ∧ i = .int .i64 j ∧ l = .string s ∧ Below w.heap.size w wr ∧ nrB s (ks.drop j) = res) (fun i _ _ => n - (intOf i).toNat)
  case atStart => exact ⟨0, _, Nat.zero_le _, rfl, rfl, Below.refl _ _, HR.out⟩
  case round =>
    obtain ⟨j, s, hj, rfl, rfl, hbr, hrs⟩ := hrel
    have HBR := hidE hbr
    have HRS := hidE hrs
    have hwz : w.heap.size ≤ wr.heap.size := hbr.size
    clear hbr hrs
    by_cases hlt : j < n
    · have hlt' : (j : Int) < n := by omega
      obtain ⟨x, hx⟩ : ∃ x, ks[j]? = some x := ⟨_, List.getElem?_eq_getElem (by have := HN.out; omega)⟩
      have HX := hidE hx
      obtain ⟨bl, off, rfl, hbl, hc⟩ := HK.out.resolve_left (by intro e; rw [e] at hx; simp at hx)
      have cx : wr.cell? ⟨bl, off + j, none⟩ = some (.string x) := by
        have := (hc j (by have := HN.out; omega)).1
        rw [List.getD_eq_getElem?_getD, hx] at this
        exact (HBR.out.cell (p := ⟨bl, off + j, none⟩) (by show bl < w.heap.size; omega)).trans this
      have hxs : x.size ≤ 140737488355328 := HS.out x (List.mem_of_getElem? hx)
      have HNM := hidE (name_any x hxs wr (HE.out.below HBR.out HE.out.room))
      have HBA := HBR
      clear hc hx
      obtain ⟨nb, hnb⟩ : ∃ b, nameOk x.data.toList = b := ⟨_, rfl⟩
      rw [hnb] at HNM
      obtain ⟨lb, hlb⟩ : ∃ b, (Op.bytesLess x.toList s.toList || x.toList == s.toList) = b := ⟨_, rfl⟩
      have HE2 : Hid (res = (nb && (!lb && nrB x (ks.drop (j + 1))))) := by
        show _ = _
        rw [← HRS.out, nrB_at HX.out, hnb]
        unfold leqB
        rw [hlb]
      clear hnb
      go_wp2_with fail
      refine (self_any x _).mono ?_
      rintro e w2 ⟨rfl, rfl⟩
      go_wp2_with fail
      refine HNM.out.mono ?_
      rintro e w3 ⟨rfl, hb3⟩
      have HB3 := hidE (below_on HBA.out hb3)
      clear hb3
      cases nb with
      | false =>
        have HF : Hid (res = false) := HE2.out
        go_wp2_with fail
        go_ret
        exact ⟨by rw [HF.out]; rfl, HB3.out⟩
      | true =>
        cases lb with
        | true =>
          have HF : Hid (res = false) := HE2.out
          go_wp2_with fail
          go_ret
          exact ⟨by rw [HF.out]; rfl, HB3.out⟩
        | false =>
          have HN2 : Hid (nrB x (ks.drop (j + 1)) = res) := HE2.out.symm
          go_wp2_with fail
          go_roundw
          case rel => exact ⟨j + 1, x, by omega, by go_num, rfl, HB3.out, HN2.out⟩
          case measure => simp [intOf]; omega
    · have HF : Hid (res = true) := by
        show _ = _
        rw [← HRS.out, List.drop_of_length_le (by have := HN.out; simp; omega)]; rfl
      have hlt' : ¬ (j : Int) < n := by omega
      go_wp2_with fail
      go_ret
      exact ⟨by rw [HF.out]; rfl, HBR.out⟩
set_option maxRecDepth 100000 in
set_option maxHeartbeats 4000000 in
theorem keys_any (ks : List (ByteArray × Tree)) (B : Nat) (ka : Option Addr) (kc : Nat) (w : World) (hB : B ≤ w.heap.size) (hE : Env w) (hk : ks = [] ∨ ∃ bl off, ka = some ⟨bl, off, none⟩ ∧ bl < B ∧ ∀ i q, ks[i]? = some q → PropAt B w bl (off + i * 7) q) (h1 : ks.length ≤ kc) (h2 : kc ≤ 9223372036854775807) (hs : ∀ q ∈ ks, q.1.size ≤ 140737488355328) :
    Calls Tryz.prog 155 #[.slice ka ks.length kc, .func (.func 156) #[] #[]] w fun e w' => e = .returned (.bool (nrB ⟨#[]⟩ (ks.map Prod.fst))) ∧ Below w.heap.size w w' := by
  have HK := hidE hk
  have HS := hidE hs
  have HE := hidE hE
  obtain ⟨n, hn⟩ : ∃ n, ks.length = n := ⟨_, rfl⟩
  have HN := hidE hn
  rw [hn] at h1 ⊢
  obtain ⟨res, hres⟩ : ∃ r, nrB ⟨#[]⟩ (ks.map Prod.fst) = r := ⟨_, rfl⟩
  have HR := hidE hres
  rw [hres]
  clear hk hs hn hres hE
  go_enter Tryz.func155, Tryz.ntmps155
  go_wp2_with fail
  go_loopw [11, 5] (fun i l wr => ∃ (j : Nat) (s : ByteArray), j ≤ n ∧ i = .int .i64 j ∧ l = .string s ∧ Below w.heap.size w wr ∧ nrB s ((ks.map Prod.fst).drop j) = res) (fun i _ _ => n - (intOf i).toNat)
  case atStart => exact ⟨0, _, Nat.zero_le _, rfl, rfl, Below.refl _ _, HR.out⟩
  case round =>
    obtain ⟨j, s, hj, rfl, rfl, hbr, hrs⟩ := hrel
    have HBR := hidE hbr
    have HRS := hidE hrs
    have hwz : w.heap.size ≤ wr.heap.size := hbr.size
    clear hbr hrs
    by_cases hlt : j < n
    · have hlt' : (j : Int) < n := by omega
      obtain ⟨⟨x, ⟨tk, tb, tn, ts, tks, tts⟩⟩, hx⟩ : ∃ x, ks[j]? = some x := ⟨_, List.getElem?_eq_getElem (by have := HN.out; omega)⟩
      have HX : Hid ((ks.map Prod.fst)[j]? = some x) := by
        show _ = _
        rw [List.getElem?_map, hx]; rfl
      obtain ⟨bl, off, rfl, hbl, hc⟩ := HK.out.resolve_left (by intro e; rw [e] at hx; simp at hx)
      obtain ⟨cx, _, v0, v1, v2, v3, v4, v5, ⟨c0, c1, c2, c3, c4, c5⟩, hv⟩ := (hc j _ hx).below (HBR.out.mono hB) hbl
      have hxs : x.size ≤ 140737488355328 := HS.out _ (List.mem_of_getElem? hx)
      simp only at cx hv
      simp only [Lies] at hv
      obtain ⟨kaa, kcc, laa, lcc, hag, _⟩ := hv
      obtain ⟨rfl, rfl, rfl, rfl, rfl, rfl⟩ : v0 = .int .i64 tk ∧ v1 = .bool tb ∧ v2 = .int .i64 tn ∧ v3 = .string ts ∧ v4 = .slice kaa tks.length kcc ∧ v5 = .slice laa tts.length lcc := by
        simpa using hag
      clear hc hx hag
      go_upto_region 5 with fail
      generalize hW2 : World.alloc _ _ = W2
      have hr2 := rec_new wr #[.string x, .int .i64 tk, .bool tb, .int .i64 tn, .string ts, .slice kaa tks.length kcc, .slice laa tts.length lcc] 90
      rw [hW2] at hr2
      have HB2 : Hid (Below wr.heap.size wr W2) := by rw [← hW2]; exact (Below.refl _ _).alloc (Nat.le_refl _) _
      have k0 := hr2.cell 0 rfl
      have k1 := hr2.cell 1 rfl
      have k2 := hr2.cell 2 rfl
      have k3 := hr2.cell 3 rfl
      have k4 := hr2.cell 4 rfl
      have k5 := hr2.cell 5 rfl
      have k6 := hr2.cell 6 rfl
      clear hW2 hr2 cx c0 c1 c2 c3 c4 c5
      go_wp2_with fail
      refine (key_any x _ _ _ _ _ _ _).mono ?_
      rintro e w2 ⟨rfl, hb2⟩
      have HBA := hidE (below_on HBR.out (below_on HB2.out hb2))
      clear hb2 k0 k1 k2 k3 k4 k5 k6
      have HNM := hidE (name_any x hxs w2 (HE.out.below HBA.out HE.out.room))
      obtain ⟨nb, hnb⟩ : ∃ b, nameOk x.data.toList = b := ⟨_, rfl⟩
      rw [hnb] at HNM
      obtain ⟨lb, hlb⟩ : ∃ b, (Op.bytesLess x.toList s.toList || x.toList == s.toList) = b := ⟨_, rfl⟩
      have HE2 : Hid (res = (nb && (!lb && nrB x ((ks.map Prod.fst).drop (j + 1))))) := by
        show _ = _
        rw [← HRS.out, nrB_at HX.out, hnb]
        unfold leqB
        rw [hlb]
      clear hnb
      go_wp2_with fail
      refine HNM.out.mono ?_
      rintro e w3 ⟨rfl, hb3⟩
      have HB3 := hidE (below_on HBA.out hb3)
      clear hb3
      cases nb with
      | false =>
        have HF : Hid (res = false) := HE2.out
        go_wp2_with fail
        go_ret
        exact ⟨by rw [HF.out]; rfl, HB3.out⟩
      | true =>
        cases lb with
        | true =>
          have HF : Hid (res = false) := HE2.out
          go_wp2_with fail
          go_ret
          exact ⟨by rw [HF.out]; rfl, HB3.out⟩
        | false =>
          have HN2 : Hid (nrB x ((ks.map Prod.fst).drop (j + 1)) = res) := HE2.out.symm
          go_wp2_with fail
          go_roundw
          case rel => exact ⟨j + 1, x, by omega, by go_num, rfl, HB3.out, HN2.out⟩
          case measure => simp [intOf]; omega
    · have HF : Hid (res = true) := by
        show _ = _
        rw [← HRS.out, List.drop_of_length_le (by have := HN.out; simp; omega)]; rfl
      have hlt' : ¬ (j : Int) < n := by omega
      go_wp2_with fail
      go_ret
      exact ⟨by rw [HF.out]; rfl, HBR.out⟩
end Go.Proofs.YthfilnflgahcjaaGreatDoor

