/- Whether a value may be: maps, kinds that are none; all together. A graph: what it is, and where it lies. A graph's types, counted. A graph's labels, counted. -/
import Derived.Test.YthfilnflgahcjaaGreatDoorShape
import Derived.Test.YthfilnflgahcjaaGreatDoorJoin18
import Derived.Test.YthfilnflgahcjaaGreatDoorJoin17
import Derived.Deep.RegionWith
import Derived.Test.YthfilnflgahcjaaGreatDoorJoin9
namespace Go.Proofs.YthfilnflgahcjaaGreatDoor
open Go.RowKit Go.Shelf
set_option linter.unusedVariables false
theorem KeysLie.below {B : Nat} {w w' : World} {ka : Option Addr} {ks : List ByteArray} (hk : KeysLie B w ka ks) (h : Below B w w') : KeysLie B w' ka ks := by
  rcases hk with hk | ⟨bk, off, e, hlt, hc⟩
  · exact .inl hk
  · exact .inr ⟨bk, off, e, hlt, fun i hi => ⟨(h.cell (p := ⟨bk, off + i, none⟩) hlt).trans (hc i hi).1, (hc i hi).2⟩⟩
/-- The cells of the value and of its rest behind a call. -/
theorem rest_cells {w w1 : World} {A : Array Value} {v0 v1 v2 v3 v4 v5 : Value} (hb : Below ((w.alloc (.cells A 88)).alloc (.cells #[v0, v1, v2, v3, v4, v5] 88)).heap.size ((w.alloc (.cells A 88)).alloc (.cells #[v0, v1, v2, v3, v4, v5] 88)) w1) :
    w1.cell? ⟨w.heap.size + 1, 0, none⟩ = some v0 ∧ w1.cell? ⟨w.heap.size + 1, 1, none⟩ = some v1 ∧ w1.cell? ⟨w.heap.size + 1, 2, none⟩ = some v2 ∧ w1.cell? ⟨w.heap.size + 1, 3, none⟩ = some v3 ∧
    w1.cell? ⟨w.heap.size + 1, 4, none⟩ = some v4 ∧ w1.cell? ⟨w.heap.size + 1, 5, none⟩ = some v5 ∧ w1.frozen? ⟨w.heap.size + 1, 4, none⟩ = false ∧ w1.frozen? ⟨w.heap.size + 1, 5, none⟩ = false ∧ w.heap.size + 2 ≤ w1.heap.size := by
  have e : w1.heap[w.heap.size + 1]? = some (.cells #[v0, v1, v2, v3, v4, v5] 88 (0, 0)) := by
    rw [hb.block _ (by simp)]
    have := World.alloc_heap_new (w.alloc (.cells A 88)) (.cells #[v0, v1, v2, v3, v4, v5] 88)
    rwa [World.size_alloc] at this
  have hz := hb.size
  simp only [World.size_alloc] at hz
  refine ⟨?_, ?_, ?_, ?_, ?_, ?_, ?_, ?_, hz⟩ <;> first | (unfold World.cell?; simp only [e]; rfl) | (unfold World.frozen?; simp only [e]; rfl)
set_option maxHeartbeats 1000000 in
theorem shaped_5 (B : Nat) (k : Int) (b : Bool) (n : Int) (s : ByteArray) (ka : Option Addr) (kc : Nat) (la : Option Addr) (lc : Nat) (ks : List ByteArray) (ts : List Tree) (w : World) (hs1 : s.size ≤ maxLen) (hs2 : ks.length ≤ kc) (hs3 : kc ≤ maxLen) (hB : B ≤ w.heap.size) (hky : KeysLie B w ka ks) (hT : Tabs w) (hk0 : k = 5) :
    Calls Tryz.prog 198 #[.agg #[.int .i64 k, .bool b, .int .i64 n, .string s, .slice ka ks.length kc, .slice la ts.length lc]] w fun e w' => e = .returned (.bool (shapedB (.mk k b n s ks ts))) ∧ Below w.heap.size w w' := by
  have hsh : shapedB (.mk k b n s ks ts) = (((ks.length == ts.length && risingB ks) && blankB b n s 0 0) && Lib.validD s.data.toList) := by subst hk0; rfl
  have e0 : (k == 0) = false := ne_bool (by omega)
  have e1 : (k == 1) = false := ne_bool (by omega)
  have e2 : (k == 2) = false := ne_bool (by omega)
  have e6 : (k == 6) = false := ne_bool (by omega)
  have e7 : (k == 7) = false := ne_bool (by omega)
  have e3 : (k == 3) = false := ne_bool (by omega)
  have e5 : (k == 5) = true := eq_bool hk0
  clear hk0
  by_cases hl : ks.length = ts.length
  · have hn : ((ks.length : Int) != (ts.length : Int)) = false := by rw [hl]; simp
    have hl2 : (ks.length == ts.length) = true := beq_iff_eq.2 hl
    rw [hl2, Bool.true_and] at hsh
    have HL : Hid (ks.length = ts.length) := hl
    clear hl hl2
    go_enter Tryz.func198, Tryz.ntmps198
    go_wp2_with fail
    refine (rising_any B ka kc ks _ (hky.below (by exact ((Below.refl _ w).alloc hB _).alloc (by simp; omega) _)) hs2 hs3 (hT.below (by exact ((Below.refl _ w).alloc (Nat.le_refl _) _).alloc (by simp) _))).mono ?_
    rintro e w1 ⟨rfl, hb1⟩
    have hB1 : Below w.heap.size w w1 := (two_alloc (v := .string s) hb1 rfl).1
    cases hr : risingB ks with
    | false =>
      have HS : Hid (shapedB (.mk k b n s ks ts) = false) := by unfold Hid; rw [hsh, hr]; rfl
      clear hr hsh hb1
      go_wp2_with fail
      go_ret
      exact ⟨by rw [HS.out]; rfl, hB1⟩
    | true =>
      rw [hr, Bool.true_and] at hsh
      obtain ⟨c0, c1, c2, c3, c4, c5, f4, f5, hz⟩ := rest_cells hb1
      have cs : w1.cell? ⟨w.heap.size, 3, none⟩ = some (.string s) := (two_alloc (v := .string s) hb1 rfl).2
      clear hr hb1
      go_wp2_with fail
      refine (blank_any _ _ _ _ _ _ _ _ _ _ _).mono ?_
      rintro e w2 ⟨rfl, hb2⟩
      have hB2 : Below w.heap.size w w2 := ((hB1.setCell (p := ⟨w.heap.size + 1, 4, none⟩) (by show _ ≤ w.heap.size + 1; omega) _).setCell (p := ⟨w.heap.size + 1, 5, none⟩) (by show _ ≤ w.heap.size + 1; omega) _).trans (hb2.mono (by simp [World.setCell]; omega))
      have cs2 : w2.cell? ⟨w.heap.size, 3, none⟩ = some (.string s) := by
        rw [hb2.cell (p := ⟨w.heap.size, 3, none⟩) (by simp [World.setCell]; omega)]
        rw [World.cell?_of_block (Below.heap_setCell _ _ _ _ (by show w.heap.size ≠ w.heap.size + 1; omega)), World.cell?_of_block (Below.heap_setCell _ _ _ _ (by show w.heap.size ≠ w.heap.size + 1; omega))]
        exact cs
      clear hb2 c0 c1 c2 c3 c4 c5 f4 f5 cs
      have hT2 := hT.below hB2
      cases hbl : blankB b n s 0 0 with
      | false =>
        have HS : Hid (shapedB (.mk k b n s ks ts) = false) := by unfold Hid; rw [hsh, hbl]; rfl
        clear hbl hsh
        go_wp2_with fail
        go_ret
        exact ⟨by rw [HS.out]; rfl, hB2⟩
      | true =>
        have HS : Hid (shapedB (.mk k b n s ks ts) = Lib.validD s.data.toList) := by unfold Hid; rw [hsh, hbl]; rfl
        clear hbl hsh
        go_wp2_with fail
        refine (vvalid_any _ _ hs1 hT2).mono ?_
        rintro e w3 ⟨rfl, hb3⟩
        go_wp2_with fail
        go_ret
        exact ⟨by rw [HS.out]; rfl, hB2.trans (hb3.mono hB2.size)⟩
  · have hn : ((ks.length : Int) != (ts.length : Int)) = true := by rw [bne_iff_ne]; omega
    have hl2 : (ks.length == ts.length) = false := beq_eq_false_iff_ne.2 hl
    have HS : Hid (shapedB (.mk k b n s ks ts) = false) := by unfold Hid; rw [hsh, hl2]; rfl
    clear hl hl2 hsh
    go_enter Tryz.func198, Tryz.ntmps198
    go_wp2_with fail
    go_ret
    exact ⟨by rw [HS.out]; rfl, ((Below.refl _ w).alloc (Nat.le_refl _) _).alloc (by simp) _⟩
set_option maxHeartbeats 1000000 in
theorem shaped_none (k : Int) (b : Bool) (n : Int) (s : ByteArray) (ka : Option Addr) (kc : Nat) (la : Option Addr) (lc : Nat) (ks : List ByteArray) (ts : List Tree) (w : World)
    (h0 : k ≠ 0) (h1 : k ≠ 1) (h2 : k ≠ 2) (h3 : k ≠ 3) (h4 : k ≠ 4) (h5 : k ≠ 5) (h6 : k ≠ 6) (h7 : k ≠ 7) :
    Calls Tryz.prog 198 #[.agg #[.int .i64 k, .bool b, .int .i64 n, .string s, .slice ka ks.length kc, .slice la ts.length lc]] w fun e w' => e = .returned (.bool (shapedB (.mk k b n s ks ts))) ∧ Below w.heap.size w w' := by
  have HS : Hid (shapedB (.mk k b n s ks ts) = false) := by
    unfold Hid
    simp [shapedB, h0, h1, h2, h3, h4, h5, h6, h7]
  have e0 := ne_bool h0
  have e1 := ne_bool h1
  have e2 := ne_bool h2
  have e3 := ne_bool h3
  have e4 := ne_bool h4
  have e5 := ne_bool h5
  have e6 := ne_bool h6
  have e7 := ne_bool h7
  clear h0 h1 h2 h3 h4 h5 h6 h7
  go_enter Tryz.func198, Tryz.ntmps198
  go_wp2_with fail
  go_ret
  exact ⟨by rw [HS.out]; rfl, ((Below.refl _ w).alloc (Nat.le_refl _) _).alloc (by simp) _⟩
theorem shaped_any (B : Nat) (v : Value) (T : Tree) (w : World) (hB : B ≤ w.heap.size) (hv : Lies B w v T) (hT : Tabs w) :
    Calls Tryz.prog 198 #[v] w fun e w' => e = .returned (.bool (shapedB T)) ∧ Below w.heap.size w w' := by
  obtain ⟨k, b, n, s, ks, ts⟩ := T
  simp only [Lies] at hv
  obtain ⟨ka, kc, la, lc, rfl, ⟨hs1, hs2, hs3, hs4, hs5⟩, hk, ht⟩ := hv
  by_cases h0 : k = 0
  · exact shaped_0 _ _ _ _ _ _ _ _ _ _ _ hs1 hT h0
  by_cases h1 : k = 1
  · exact shaped_1 _ _ _ _ _ _ _ _ _ _ _ hs1 hT h1
  by_cases h2 : k = 2
  · exact shaped_2 _ _ _ _ _ _ _ _ _ _ _ hs1 hT h2
  by_cases h3 : k = 3
  · exact shaped_3 _ _ _ _ _ _ _ _ _ _ _ hs1 hT h3
  by_cases h4 : k = 4
  · exact shaped_4 _ _ _ _ _ _ _ _ _ _ _ hs1 hT h4
  by_cases h5 : k = 5
  · exact shaped_5 B _ _ _ _ _ _ _ _ _ _ _ hs1 hs2 hs3 hB hk hT h5
  by_cases h6 : k = 6
  · exact shaped_6 _ _ _ _ _ _ _ _ _ _ _ hs1 hT h6
  by_cases h7 : k = 7
  · exact shaped_7 _ _ _ _ _ _ _ _ _ _ _ hs1 hT h7
  exact shaped_none _ _ _ _ _ _ _ _ _ _ _ h0 h1 h2 h3 h4 h5 h6 h7
end Go.Proofs.YthfilnflgahcjaaGreatDoor

namespace Go.Proofs.YthfilnflgahcjaaGreatDoor
open Go.RowKit Go.Shelf
set_option linter.unusedVariables false
set_option linter.unusedSimpArgs false
/-- A node. -/
structure NodeP where
  id : Int
  labels : List ByteArray
  props : List (ByteArray × Tree)
/-- A relationship. -/
structure RelP where
  id : Int
  fr : Int
  tt : Int
  type : ByteArray
  props : List (ByteArray × Tree)
/-- A graph. -/
structure GraphP where
  nodes : List NodeP
  rels : List RelP
  nn : Int
  nr : Int
/-- Things in a row, some cells each. -/
def RowsLie {α : Type} (k : Nat) (At : World → Nat → Nat → α → Prop) (B : Nat) (w : World) (v : Value) (xs : List α) : Prop :=
  ∃ a c, v = .slice a xs.length c ∧ xs.length ≤ c ∧ c ≤ 9223372036854775807 ∧ (xs = [] ∨ ∃ bl off, a = some ⟨bl, off, none⟩ ∧ bl < B ∧ ∀ i x, xs[i]? = some x → At w bl (off + i * k) x)
theorem RowsLie.turn {α : Type} {k : Nat} {At At' : World → Nat → Nat → α → Prop} {B : Nat} {w w' : World} {v : Value} {xs : List α} (h : RowsLie k At B w v xs) (hA : ∀ bl off x, bl < B → x ∈ xs → At w bl off x → At' w' bl off x) : RowsLie k At' B w' v xs := by
  obtain ⟨a, c, e, h1, h2, h3⟩ := h
  exact ⟨a, c, e, h1, h2, h3.imp id fun ⟨bl, off, e, hl, hc⟩ => ⟨bl, off, e, hl, fun i x hi => hA _ _ _ hl (List.mem_of_getElem? hi) (hc i x hi)⟩⟩
def NodeAt (B : Nat) (w : World) (bl off : Nat) (n : NodeP) : Prop :=
  ∃ la lc pv, (w.cell? ⟨bl, off, none⟩ = some (.int .i64 n.id) ∧ w.cell? ⟨bl, off + 1, none⟩ = some (.slice la n.labels.length lc) ∧ w.cell? ⟨bl, off + 2, none⟩ = some pv) ∧ (n.labels.length ≤ lc ∧ lc ≤ 9223372036854775807) ∧ KeysLie B w la n.labels ∧ PropsLie B w pv n.props
def RelAt (B : Nat) (w : World) (bl off : Nat) (r : RelP) : Prop :=
  ∃ pv, (w.cell? ⟨bl, off, none⟩ = some (.int .i64 r.id) ∧ w.cell? ⟨bl, off + 1, none⟩ = some (.int .i64 r.fr) ∧ w.cell? ⟨bl, off + 2, none⟩ = some (.int .i64 r.tt) ∧ w.cell? ⟨bl, off + 3, none⟩ = some (.string r.type) ∧ w.cell? ⟨bl, off + 4, none⟩ = some pv) ∧ r.type.size ≤ maxLen ∧ PropsLie B w pv r.props
theorem NodeAt.below {B : Nat} {w w' : World} (h : Below B w w') {bl off : Nat} (hl : bl < B) {n : NodeP} (hn : NodeAt B w bl off n) : NodeAt B w' bl off n := by
  obtain ⟨la, lc, pv, ⟨c0, c1, c2⟩, hs, hk, hp⟩ := hn
  exact ⟨la, lc, pv, ⟨(h.cell (p := ⟨bl, off, none⟩) hl).trans c0, (h.cell (p := ⟨bl, off + 1, none⟩) hl).trans c1, (h.cell (p := ⟨bl, off + 2, none⟩) hl).trans c2⟩, hs, hk.below h, hp.below h⟩
theorem RelAt.below {B : Nat} {w w' : World} (h : Below B w w') {bl off : Nat} (hl : bl < B) {n : RelP} (hn : RelAt B w bl off n) : RelAt B w' bl off n := by
  obtain ⟨pv, ⟨c0, c1, c2, c3, c4⟩, hs, hp⟩ := hn
  exact ⟨pv, ⟨(h.cell (p := ⟨bl, off, none⟩) hl).trans c0, (h.cell (p := ⟨bl, off + 1, none⟩) hl).trans c1, (h.cell (p := ⟨bl, off + 2, none⟩) hl).trans c2, (h.cell (p := ⟨bl, off + 3, none⟩) hl).trans c3, (h.cell (p := ⟨bl, off + 4, none⟩) hl).trans c4⟩, hs, hp.below h⟩
def NodesLie (B : Nat) (w : World) (v : Value) (ns : List NodeP) : Prop := RowsLie 3 (NodeAt B) B w v ns
def RelsLie (B : Nat) (w : World) (v : Value) (rs : List RelP) : Prop := RowsLie 5 (RelAt B) B w v rs
theorem NodesLie.below {B : Nat} {w w' : World} (h : Below B w w') {v : Value} {ns : List NodeP} (hn : NodesLie B w v ns) : NodesLie B w' v ns := hn.turn fun _ _ _ hl _ h2 => h2.below h hl
theorem RelsLie.below {B : Nat} {w w' : World} (h : Below B w w') {v : Value} {ns : List RelP} (hn : RelsLie B w v ns) : RelsLie B w' v ns := hn.turn fun _ _ _ hl _ h2 => h2.below h hl
/-- A graph in registers. -/
def GraphLies (B : Nat) (w : World) (v : Value) (g : GraphP) : Prop :=
  ∃ na nc ra rc, v = .agg #[.slice na g.nodes.length nc, .slice ra g.rels.length rc, .int .i64 g.nn, .int .i64 g.nr] ∧ NodesLie B w (.slice na g.nodes.length nc) g.nodes ∧ RelsLie B w (.slice ra g.rels.length rc) g.rels
theorem GraphLies.below {B : Nat} {w w' : World} (h : Below B w w') {v : Value} {g : GraphP} (hn : GraphLies B w v g) : GraphLies B w' v g := by
  obtain ⟨na, nc, ra, rc, e, h1, h2⟩ := hn
  exact ⟨na, nc, ra, rc, e, h1.below h, h2.below h⟩
end Go.Proofs.YthfilnflgahcjaaGreatDoor

namespace Go.Proofs.YthfilnflgahcjaaGreatDoor
open Go.RowKit Go.Shelf Go.Maps
set_option linter.unusedVariables false
set_option linter.unusedSimpArgs false
attribute [local go_sem] Oper.semAt_some
theorem map139 : Tryz.prog.underlying 139 = some (.map 62 2) := by kernel_rfl
theorem map134 : Tryz.prog.underlying 134 = some (.map 42 2) := by kernel_rfl
/-- Texts counted. -/
def tally (ts : List ByteArray) : List ((ByteArray × Int) × Int) := ts.foldl (fun cs t => bump (t, 0) 1 cs) []
theorem tally_snoc (ts : List ByteArray) (t : ByteArray) : tally (ts ++ [t]) = bump (t, 0) 1 (tally ts) := by simp [tally]
theorem tally_nodup (ts : List ByteArray) : ((tally ts).map Prod.fst).Nodup := by
  unfold tally
  suffices h : ∀ (ts : List ByteArray) (cs : List ((ByteArray × Int) × Int)), (cs.map Prod.fst).Nodup → ((ts.foldl (fun cs t => bump (t, 0) 1 cs) cs).map Prod.fst).Nodup from h ts [] List.nodup_nil
  intro ts
  induction ts with
  | nil => intro cs h; exact h
  | cons t r ih => intro cs h; exact ih _ (bump_nodup _ _ _ h)
theorem tally_count (ts : List ByteArray) (x : ByteArray × Int) : 0 ≤ countOf x (tally ts) ∧ countOf x (tally ts) ≤ ts.length := by
  unfold tally
  suffices h : ∀ (ts : List ByteArray) (cs : List ((ByteArray × Int) × Int)) (n : Nat), (0 ≤ countOf x cs ∧ countOf x cs ≤ n) → 0 ≤ countOf x (ts.foldl (fun cs t => bump (t, 0) 1 cs) cs) ∧ countOf x (ts.foldl (fun cs t => bump (t, 0) 1 cs) cs) ≤ (n + ts.length : Nat) by
    have := h ts [] 0 (by simp [countOf])
    simpa using this
  intro ts
  induction ts with
  | nil => intro cs n h; simpa using h
  | cons t r ih =>
    intro cs n h
    have := ih (bump (t, 0) 1 cs) (n + 1) (by rw [count_bump]; split <;> omega)
    simp only [List.foldl_cons, List.length_cons] at *
    omega
theorem tally_len (ts : List ByteArray) : (tally ts).length ≤ ts.length := by
  unfold tally
  suffices h : ∀ (ts : List ByteArray) (cs : List ((ByteArray × Int) × Int)), (ts.foldl (fun cs t => bump (t, 0) 1 cs) cs).length ≤ cs.length + ts.length by
    have := h ts []
    simpa using this
  intro ts
  induction ts with
  | nil => intro cs; simp
  | cons t r ih =>
    intro cs
    have h1 := ih (bump (t, 0) 1 cs)
    have h2 : (bump (t, 0) 1 cs).length ≤ cs.length + 1 := by
      clear h1 ih
      induction cs with
      | nil => simp [bump]
      | cons p q ih => rw [bump]; split <;> simp <;> omega
    simp only [List.foldl_cons, List.length_cons] at *
    omega
set_option maxRecDepth 100000 in
set_option maxHeartbeats 8000000 in
theorem types_cnt {le : ByteArray × Int → ByteArray × Int → Prop} {most : Nat} (hsort : Sorts88 le most) (hmost : most ≤ 100000) (g : GraphP) (v : Value) (B : Nat) (w : World) (hB : B ≤ w.heap.size) (h : GraphLies B w v g) (hl : g.rels.length ≤ 100000) (hm : (tally (g.rels.map fun r => r.type)).length ≤ most) :
    Calls Tryz.prog 44 #[v] w fun e w' => ∃ v L, e = .returned v ∧ L.Perm ((tally (g.rels.map fun r => r.type)).map (fun p : (ByteArray × Int) × Int => (p.1.1, p.2))) ∧ L.Pairwise le ∧ ORow 62 2 labC w.heap.size w' v L ∧ Below w.heap.size w w' := by
  obtain ⟨na, nc, ra, rc, rfl, hn, hr⟩ := h
  obtain ⟨ra', rc', e0, r1, r2, r3⟩ := hr
  obtain ⟨rfl, rfl⟩ : ra = ra' ∧ rc = rc' := by injection e0 with a b c; exact ⟨a, c⟩
  have HR3 := hidE r3
  have HMO := hidE hm
  obtain ⟨m, hm'⟩ : ∃ m, g.rels.length = m := ⟨_, rfl⟩
  have HM := hidE hm'
  rw [hm'] at r1 hl ⊢
  generalize g.nodes.length = l1 at *
  generalize g.nn = nn at *
  generalize g.nr = nr at *
  clear e0 r3 hn hm hm'
  have hmk : ∀ W : World, (Instr.makeMap 139 none).run Tryz.prog W = .ok (.map (some W.heap.size)) (W.alloc (.map #[] 0)) := fun W => rfl
  go_enter Tryz.func44, Tryz.ntmps44
  go_upto_region 2 with fail
  have HM1 : Hid (MC labV okL ((w.alloc (.cells #[.slice na l1 nc, .slice ra m rc, .int .i64 nn, .int .i64 nr] 25)).alloc (.map #[] 0)) (w.alloc (.cells #[.slice na l1 nc, .slice ra m rc, .int .i64 nn, .int .i64 nr] 25)).heap.size []) := mg_none _
  have HB1 : Hid (Below w.heap.size w ((w.alloc (.cells #[.slice na l1 nc, .slice ra m rc, .int .i64 nn, .int .i64 nr] 25)).alloc (.map #[] 0))) := ((Below.refl _ _).alloc (Nat.le_refl _) _).alloc (by simp) _
  have c1 : ((w.alloc (.cells #[.slice na l1 nc, .slice ra m rc, .int .i64 nn, .int .i64 nr] 25)).alloc (.map #[] 0)).cell? ⟨w.heap.size, 1, none⟩ = some (.slice ra m rc) := ((Below.refl _ _).alloc (Nat.le_refl _) _ : Below _ _ (World.alloc _ _)).cell (p := ⟨w.heap.size, 1, none⟩) (show w.heap.size < (w.alloc _).heap.size by simp) |>.trans (cell_new _ _ _ _ _ rfl)
  have hz1 : (w.alloc (.cells #[.slice na l1 nc, .slice ra m rc, .int .i64 nn, .int .i64 nr] 25)).heap.size = w.heap.size + 1 := by simp
  rw [hz1] at HM1
  obtain ⟨W1, hW1⟩ : ∃ W, (w.alloc (.cells #[.slice na l1 nc, .slice ra m rc, .int .i64 nn, .int .i64 nr] 25)).alloc (.map #[] 0) = W := ⟨_, rfl⟩
  rw [hW1] at HM1 HB1 c1 ⊢
  clear hW1 hz1
  go_wp2_with fail
  go_loopw [11] (fun i wr => ∃ j : Nat, j ≤ m ∧ i = .int .i64 j ∧ Below w.heap.size w wr ∧ MC labV okL wr (w.heap.size + 1) (tally ((g.rels.take j).map fun r => r.type))) (fun i _ => m - (intOf i).toNat)
  case atStart => exact ⟨0, Nat.zero_le _, rfl, HB1.out, HM1.out⟩
  case round =>
    obtain ⟨j, hj, rfl, hbr, hmc⟩ := hrel
    have HBR := hidE hbr
    have HMC := hidE hmc
    clear hbr hmc
    by_cases hlt : j < m
    · have hlt' : (j : Int) < m := by omega
      obtain ⟨x, hx⟩ : ∃ q, g.rels[j]? = some q := ⟨_, List.getElem?_eq_getElem (by have := HM.out; omega)⟩
      obtain ⟨bl, off, rfl, hbl, hc⟩ := HR3.out.resolve_left (by intro e; rw [e] at hx; simp at hx)
      obtain ⟨pv, ⟨d0, d1, d2, d3, d4⟩, hts, hps⟩ := (hc j x hx).below (HBR.out.mono hB) hbl
      have HX := hidE hx
      obtain ⟨pa, pc, hpv⟩ : ∃ pa pc, pv = .slice pa x.props.length pc := by obtain ⟨pa, pc, e, _⟩ := hps; exact ⟨pa, pc, e⟩
      subst hpv
      generalize x.props.length = l3 at *
      obtain ⟨s, hs⟩ : ∃ s, x.type = s := ⟨_, rfl⟩
      have HS := hidE hs
      rw [hs] at d3 hts
      generalize x.id = xi at *
      generalize x.fr = xf at *
      generalize x.tt = xt at *
      clear hx hc hps hs
      go_upto_region 5 with fail
      have k3 : (wr.alloc (.cells #[.int .i64 xi, .int .i64 xf, .int .i64 xt, .string s, .slice pa l3 pc] 71)).cell? ⟨wr.heap.size, 3, none⟩ = some (.string s) := cell_new _ _ _ _ _ rfl
      have hbA : Below wr.heap.size wr (wr.alloc (.cells #[.int .i64 xi, .int .i64 xf, .int .i64 xt, .string s, .slice pa l3 pc] 71)) := (Below.refl _ _).alloc (Nat.le_refl _) _
      obtain ⟨W2, hW2⟩ : ∃ W, wr.alloc (.cells #[.int .i64 xi, .int .i64 xf, .int .i64 xt, .string s, .slice pa l3 pc] 71) = W := ⟨_, rfl⟩
      rw [hW2] at k3 hbA ⊢
      have hmc2 : MC labV okL W2.drew (w.heap.size + 1) (tally ((g.rels.take j).map fun r => r.type)) := MG.block HMC.out (hbA.block _ (MG.lt HMC.out))
      obtain ⟨st, w1, w2, q1, q2, q3, q4, q5, q6, q7, q8⟩ := mc_bump typT map139 hmc2 (tally_nodup _) (s, 0) ⟨hts, w64_zero⟩ 1
      obtain ⟨cn, hcn⟩ : ∃ c, countOf ((s, 0) : ByteArray × Int) (tally ((g.rels.take j).map fun r => r.type)) = c := ⟨_, rfl⟩
      have hc1 := tally_count ((g.rels.take j).map fun r => r.type) (s, 0)
      rw [hcn] at q1 q2 q3 q4 hc1
      have hc2 : cn ≤ 100000 := by have h1 := hc1.2; simp only [List.length_map, List.length_take] at h1; omega
      have hc0 := hc1.1
      simp only [labV] at q1 q2 q3 q4
      have HQ := hidE (And.intro q5 (And.intro q6 (And.intro q7 q8)))
      have HA := hidE hbA
      clear hW2 hbA hmc2 q5 q6 q7 q8 hcn hc1 d0 d1 d2 d3 d4
      have hwp : IntKind.i64.wrap (cn + 1) = cn + 1 := by rw [IntKind.wrap_i64]; omega
      have HNEW : Hid (Below w.heap.size w w2 ∧ MC labV okL w2 (w.heap.size + 1) (tally ((g.rels.take (j + 1)).map fun r => r.type))) := by
        obtain ⟨q5, q6, q7, q8⟩ := HQ.out
        refine ⟨((Below.on HBR.out HA.out).drew).trans (q8.mono (Nat.le_succ w.heap.size)), ?_⟩
        rw [List.take_add_one, HX.out, List.map_append]
        show MC labV okL w2 (w.heap.size + 1) (tally (_ ++ [x.type]))
        rw [tally_snoc, HS.out]
        exact q5
      go_region_with fail
      all_goals
        go_wp2_with fail
        go_roundw
        case rel => exact ⟨j + 1, by omega, by go_num, HNEW.out.1, HNEW.out.2⟩
        case measure => simp [intOf]; omega
    · have hlt' : ¬ (j : Int) < m := by omega
      have HL := HMC.out
      rw [List.take_of_length_le (by have := HM.out; omega)] at HL
      have HRW := hidE (rows88_any hsort hmost HL HMO.out)
      clear HL
      go_wp2_with (go_at_call 88; refine HRW.out.mono ?_; rintro e W3 ⟨v3, L, rfl, y1, y2, y3, y4⟩; have HY := hidE (And.intro y1 (And.intro y2 (And.intro y3 y4))); clear y1 y2 y3 y4)
      go_ret
      obtain ⟨y1, y2, y3, y4⟩ := HY.out
      exact ⟨_, L, rfl, y1, y2, y3.base HBR.out.size, Below.on HBR.out y4⟩
end Go.Proofs.YthfilnflgahcjaaGreatDoor

namespace Go.Proofs.YthfilnflgahcjaaGreatDoor
open Go.RowKit Go.Shelf Go.Maps
set_option linter.unusedVariables false
set_option linter.unusedSimpArgs false
attribute [local go_sem] Oper.semAt_some
def labelsOf (ns : List NodeP) : List ByteArray := ns.flatMap fun n => n.labels
theorem labelsOf_at {ns : List NodeP} {j : Nat} {x : NodeP} (h : ns[j]? = some x) : labelsOf (ns.take (j + 1)) = labelsOf (ns.take j) ++ x.labels := by
  unfold labelsOf
  rw [List.take_add_one, h, List.flatMap_append]
  simp
theorem labelsOf_le {ns : List NodeP} {j : Nat} {x : NodeP} (h : ns[j]? = some x) : (labelsOf (ns.take j)).length + x.labels.length ≤ (labelsOf ns).length := by
  have h1 : labelsOf ns = labelsOf (ns.take (j + 1)) ++ labelsOf (ns.drop (j + 1)) := by
    unfold labelsOf
    rw [← List.flatMap_append, List.take_append_drop]
  rw [h1, labelsOf_at h]
  simp only [List.length_append]; omega
set_option maxRecDepth 100000 in
set_option maxHeartbeats 8000000 in
theorem labels_cnt {le : ByteArray × Int → ByteArray × Int → Prop} {most : Nat} (hsort : Sorts84 le most) (hmost : most ≤ 100000) (g : GraphP) (v : Value) (B : Nat) (w : World) (hB : B ≤ w.heap.size) (h : GraphLies B w v g) (hl : g.nodes.length ≤ 100000) (hll : (labelsOf g.nodes).length ≤ 1000000) (hm : (tally (labelsOf g.nodes)).length ≤ most) :
    Calls Tryz.prog 43 #[v] w fun e w' => ∃ v L, e = .returned v ∧ L.Perm ((tally (labelsOf g.nodes)).map (fun p : (ByteArray × Int) × Int => (p.1.1, p.2))) ∧ L.Pairwise le ∧ ORow 42 2 labC w.heap.size w' v L ∧ Below w.heap.size w w' := by
  obtain ⟨na, nc, ra, rc, rfl, hr, hn⟩ := h
  obtain ⟨na', nc', e0, r1, r2, r3⟩ := hr
  obtain ⟨rfl, rfl⟩ : na = na' ∧ nc = nc' := by injection e0 with a b c; exact ⟨a, c⟩
  have HR3 := hidE r3
  have HMO := hidE hm
  have HLL := hidE hll
  obtain ⟨m, hm'⟩ : ∃ m, g.nodes.length = m := ⟨_, rfl⟩
  have HM := hidE hm'
  rw [hm'] at r1 hl ⊢
  generalize g.rels.length = l1 at *
  generalize g.nn = nn at *
  generalize g.nr = nr at *
  clear e0 r3 hn hm hm' hll
  have hmk : ∀ W : World, (Instr.makeMap 134 none).run Tryz.prog W = .ok (.map (some W.heap.size)) (W.alloc (.map #[] 0)) := fun W => rfl
  go_enter Tryz.func43, Tryz.ntmps43
  go_upto_region 2 with fail
  have HM1 : Hid (MC labV okL ((w.alloc (.cells #[.slice na m nc, .slice ra l1 rc, .int .i64 nn, .int .i64 nr] 25)).alloc (.map #[] 0)) (w.alloc (.cells #[.slice na m nc, .slice ra l1 rc, .int .i64 nn, .int .i64 nr] 25)).heap.size []) := mg_none _
  have HB1 : Hid (Below w.heap.size w ((w.alloc (.cells #[.slice na m nc, .slice ra l1 rc, .int .i64 nn, .int .i64 nr] 25)).alloc (.map #[] 0))) := ((Below.refl _ _).alloc (Nat.le_refl _) _).alloc (by simp) _
  have c1 : ((w.alloc (.cells #[.slice na m nc, .slice ra l1 rc, .int .i64 nn, .int .i64 nr] 25)).alloc (.map #[] 0)).cell? ⟨w.heap.size, 0, none⟩ = some (.slice na m nc) := ((Below.refl _ _).alloc (Nat.le_refl _) _ : Below _ _ (World.alloc _ _)).cell (p := ⟨w.heap.size, 0, none⟩) (show w.heap.size < (w.alloc _).heap.size by simp) |>.trans (cell_new _ _ _ _ _ rfl)
  have hz1 : (w.alloc (.cells #[.slice na m nc, .slice ra l1 rc, .int .i64 nn, .int .i64 nr] 25)).heap.size = w.heap.size + 1 := by simp
  rw [hz1] at HM1
  obtain ⟨W1, hW1⟩ : ∃ W, (w.alloc (.cells #[.slice na m nc, .slice ra l1 rc, .int .i64 nn, .int .i64 nr] 25)).alloc (.map #[] 0) = W := ⟨_, rfl⟩
  rw [hW1] at HM1 HB1 c1 ⊢
  clear hW1 hz1
  go_wp2_with fail
  go_loopw [13] (fun i wr => ∃ j : Nat, j ≤ m ∧ i = .int .i64 j ∧ Below w.heap.size w wr ∧ MC labV okL wr (w.heap.size + 1) (tally (labelsOf (g.nodes.take j)))) (fun i _ => m - (intOf i).toNat)
  case atStart => exact ⟨0, Nat.zero_le _, rfl, HB1.out, HM1.out⟩
  case round =>
    obtain ⟨j, hj, rfl, hbr, hmc⟩ := hrel
    have HBR := hidE hbr
    have HMC := hidE hmc
    clear hbr hmc
    by_cases hlt : j < m
    · have hlt' : (j : Int) < m := by omega
      obtain ⟨x, hx⟩ : ∃ q, g.nodes[j]? = some q := ⟨_, List.getElem?_eq_getElem (by have := HM.out; omega)⟩
      obtain ⟨bl, off, rfl, hbl, hc⟩ := HR3.out.resolve_left (by intro e; rw [e] at hx; simp at hx)
      obtain ⟨la, lc, pv, ⟨d0, d1, d2⟩, ⟨s1, s2⟩, hks, hps⟩ := hc j x hx
      replace d0 := ((HBR.out.mono hB).cell (p := ⟨bl, off + j * 3, none⟩) hbl).trans d0
      replace d1 := ((HBR.out.mono hB).cell (p := ⟨bl, off + j * 3 + 1, none⟩) hbl).trans d1
      replace d2 := ((HBR.out.mono hB).cell (p := ⟨bl, off + j * 3 + 2, none⟩) hbl).trans d2
      have HX := hidE hx
      have HLE := hidE (labelsOf_le hx)
      have HAT := hidE (labelsOf_at hx)
      obtain ⟨pa, pc, hpv⟩ : ∃ pa pc, pv = .slice pa x.props.length pc := by obtain ⟨pa, pc, e, _⟩ := hps; exact ⟨pa, pc, e⟩
      subst hpv
      have HKS2 : Hid (∀ W, Below w.heap.size w W → KeysLie B W la x.labels) := fun W hb => hks.below (hb.mono hB)
      generalize x.props.length = l3 at *
      obtain ⟨xl, hxl⟩ : ∃ l, x.labels = l := ⟨_, rfl⟩
      rw [hxl] at d1 s1 HKS2 HLE HAT
      obtain ⟨n, hn⟩ : ∃ n, xl.length = n := ⟨_, rfl⟩
      have HN := hidE hn
      rw [hn] at d1 s1 HLE
      generalize x.id = xi at *
      clear hx hc hps hxl hks hn
      go_upto_region 5 with fail
      have k1 : (wr.alloc (.cells #[.int .i64 xi, .slice la n lc, .slice pa l3 pc] 73)).cell? ⟨wr.heap.size, 1, none⟩ = some (.slice la n lc) := cell_new _ _ _ _ _ rfl
      have hbA : Below wr.heap.size wr (wr.alloc (.cells #[.int .i64 xi, .slice la n lc, .slice pa l3 pc] 73)) := (Below.refl _ _).alloc (Nat.le_refl _) _
      obtain ⟨W2, hW2⟩ : ∃ W, wr.alloc (.cells #[.int .i64 xi, .slice la n lc, .slice pa l3 pc] 73) = W := ⟨_, rfl⟩
      rw [hW2] at k1 hbA ⊢
      have HM2 : Hid (MC labV okL W2 (w.heap.size + 1) (tally (labelsOf (g.nodes.take j)))) := MG.block HMC.out (hbA.block _ (MG.lt HMC.out))
      have HB2 : Hid (Below w.heap.size w W2) := Below.on HBR.out hbA
      obtain ⟨A, hA⟩ : ∃ A, labelsOf (g.nodes.take j) = A := ⟨_, rfl⟩
      rw [hA] at HM2 HLE HAT
      obtain ⟨X, hX⟩ : ∃ X, wr.heap.size = X := ⟨_, rfl⟩
      rw [hX] at k1 ⊢
      clear hW2 hbA hA hX HMC
      go_wp2_with fail
      go_loopw [20] (fun i wr => ∃ k : Nat, k ≤ n ∧ i = .int .i64 k ∧ Below w.heap.size w wr ∧ MC labV okL wr (w.heap.size + 1) (tally (A ++ xl.take k))) (fun i _ => n - (intOf i).toNat)
      case atStart => exact ⟨0, Nat.zero_le _, rfl, HB2.out, by simpa using HM2.out⟩
      case round =>
        obtain ⟨k, hk, rfl, hbr, hmc⟩ := hrel
        have HB3 := hidE hbr
        have HM3 := hidE hmc
        clear hbr hmc
        by_cases hlt2 : k < n
        · have hlt2' : (k : Int) < n := by omega
          obtain ⟨s, hs⟩ : ∃ q, xl[k]? = some q := ⟨_, List.getElem?_eq_getElem (by have := HN.out; omega)⟩
          obtain ⟨b2, o2, rfl, hb2, hc2⟩ := (HKS2.out _ HB3.out).resolve_left (by intro e; rw [e] at hs; simp at hs)
          obtain ⟨cx, hss⟩ := hc2 k (by have := HN.out; omega)
          have hgd : xl.getD k ⟨#[]⟩ = s := by rw [List.getD_eq_getElem?_getD, hs]; rfl
          rw [hgd] at cx hss
          have HSX := hidE hs
          have hmc2 : MC labV okL wr.drew (w.heap.size + 1) (tally (A ++ xl.take k)) := HM3.out
          obtain ⟨st, w1, w2, q1, q2, q3, q4, q5, q6, q7, q8⟩ := mc_bump labT map134 hmc2 (tally_nodup _) (s, 0) ⟨hss, w64_zero⟩ 1
          obtain ⟨cn, hcn⟩ : ∃ c, countOf ((s, 0) : ByteArray × Int) (tally (A ++ xl.take k)) = c := ⟨_, rfl⟩
          have hc1 := tally_count (A ++ xl.take k) (s, 0)
          rw [hcn] at q1 q2 q3 q4 hc1
          have hcb : cn ≤ 1000000 := by
            have h1 := hc1.2
            have h2 := HLE.out
            have h3 := HLL.out
            have h4 := HN.out
            simp only [List.length_append, List.length_take] at h1; omega
          have hc0 := hc1.1
          simp only [labV] at q1 q2 q3 q4
          have HNEW : Hid (Below w.heap.size w w2 ∧ MC labV okL w2 (w.heap.size + 1) (tally (A ++ xl.take (k + 1)))) := by
            refine ⟨(HB3.out.drew).trans (q8.mono (Nat.le_succ w.heap.size)), ?_⟩
            rw [List.take_add_one, hs, ← List.append_assoc]
            show MC labV okL w2 (w.heap.size + 1) (tally (_ ++ [s]))
            rw [tally_snoc]
            exact q5
          have hwp : IntKind.i64.wrap (cn + 1) = cn + 1 := by rw [IntKind.wrap_i64]; omega
          clear hmc2 q5 q6 q7 q8 hcn hc1 hgd hc2 hs
          go_upto_region 8 with fail
          go_region_with fail
          all_goals
            go_wp2_with fail
            go_roundw
            case rel => exact ⟨k + 1, by omega, by go_num, HNEW.out.1, HNEW.out.2⟩
            case measure => simp [intOf]; omega
        · have hlt2' : ¬ (k : Int) < n := by omega
          have HL := HM3.out
          rw [List.take_of_length_le (by have := HN.out; omega), ← HAT.out] at HL
          have HL := hidE HL
          go_wp2_with fail
          go_roundw
          case rel => exact ⟨j + 1, by omega, by go_num, HB3.out, HL.out⟩
          case measure => simp [intOf]; omega
    · have hlt' : ¬ (j : Int) < m := by omega
      have HL := HMC.out
      rw [List.take_of_length_le (by have := HM.out; omega)] at HL
      have HRW := hidE (rows84_any hsort hmost HL HMO.out)
      clear HL
      go_wp2_with (go_at_call 84; refine HRW.out.mono ?_; rintro e W3 ⟨v3, L, rfl, y1, y2, y3, y4⟩; have HY := hidE (And.intro y1 (And.intro y2 (And.intro y3 y4))); clear y1 y2 y3 y4)
      go_ret
      obtain ⟨y1, y2, y3, y4⟩ := HY.out
      exact ⟨_, L, rfl, y1, y2, y3.base HBR.out.size, Below.on HBR.out y4⟩
end Go.Proofs.YthfilnflgahcjaaGreatDoor

