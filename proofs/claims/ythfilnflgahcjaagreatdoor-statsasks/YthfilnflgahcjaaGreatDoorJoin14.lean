/- Whether a value may be: maps, kinds that are none; all together. A graph: what it is, and where it lies. The first row of each key. -/
import Derived.Test.YthfilnflgahcjaaGreatDoorJoin13
import Derived.Test.YthfilnflgahcjaaGreatDoorJoin12
import Derived.Test.YthfilnflgahcjaaGreatDoorJoin7
import Derived.Test.YthfilnflgahcjaaGreatDoorJoin6
import Derived.Deep.Cut
namespace Go.Proofs.YthfilnflgahcjaaGreatDoor
open Go.RowKit Go.Shelf
set_option linter.unusedVariables false
theorem KeysLie.below {B : Nat} {w w' : World} {ka : Option Addr} {ks : List ByteArray} (hk : KeysLie B w ka ks) (h : Below B w w') : KeysLie B w' ka ks := by
  rcases hk with hk | ⟨bk, off, e, hlt, hc⟩
  · exact .inl hk
  · exact .inr ⟨bk, off, e, hlt, fun i hi => ⟨(h.cell (p := ⟨bk, off + i, none⟩) hlt).trans (hc i hi).1, (hc i hi).2⟩⟩
/-- The cells of the value and of its rest behind a call. -/
theorem rest_cells {w w1 : World} {A : Array Value} {v0 v1 v2 v3 v4 v5 : Value} (hb : Below ((w.alloc (.cells A 88)).alloc (.cells #[v0, v1, v2, v3, v4, v5] 88)).heap.size ((w.alloc (.cells A 88)).alloc (.cells #[v0, v1, v2, v3, v4, v5] 88)) w1) :
    w1.cell? ⟨w.heap.size + 1, 0, none⟩ = some v0 ∧ w1.cell? ⟨w.heap.size + 1, 1, none⟩ = some v1 ∧ w1.cell? ⟨w.heap.size + 1, 2, none⟩ = some v2 ∧ w1.cell? ⟨w.heap.size + 1, 3, none⟩ = some v3 ∧
    w1.cell? ⟨w.heap.size + 1, 4, none⟩ = some v4 ∧ w1.cell? ⟨w.heap.size + 1, 5, none⟩ = some v5 ∧ w1.frozen? ⟨w.heap.size + 1, 4, none⟩ = false ∧ w1.frozen? ⟨w.heap.size + 1, 5, none⟩ = false ∧ w.heap.size + 2 ≤ w1.heap.size := by
  have e : w1.heap[w.heap.size + 1]? = some (.cells #[v0, v1, v2, v3, v4, v5] 88 (0, 0)) := by
    rw [hb.block _ (by simp)]
    have := World.alloc_heap_new (w.alloc (.cells A 88)) (.cells #[v0, v1, v2, v3, v4, v5] 88)
    rwa [World.size_alloc] at this
  have hz := hb.size
  simp only [World.size_alloc] at hz
  refine ⟨?_, ?_, ?_, ?_, ?_, ?_, ?_, ?_, hz⟩ <;> first | (unfold World.cell?; simp only [e]; rfl) | (unfold World.frozen?; simp only [e]; rfl)
set_option maxHeartbeats 1000000 in
theorem shaped_5 (B : Nat) (k : Int) (b : Bool) (n : Int) (s : ByteArray) (ka : Option Addr) (kc : Nat) (la : Option Addr) (lc : Nat) (ks : List ByteArray) (ts : List Tree) (w : World) (hs1 : s.size ≤ maxLen) (hs2 : ks.length ≤ kc) (hs3 : kc ≤ maxLen) (hB : B ≤ w.heap.size) (hky : KeysLie B w ka ks) (hT : Tabs w) (hk0 : k = 5) :
    Calls Tryz.prog 198 #[.agg #[.int .i64 k, .bool b, .int .i64 n, .string s, .slice ka ks.length kc, .slice la ts.length lc]] w fun e w' => e = .returned (.bool (shapedB (.mk k b n s ks ts))) ∧ Below w.heap.size w w' := by
  have hsh : shapedB (.mk k b n s ks ts) = (((ks.length == ts.length && risingB ks) && blankB b n s 0 0) && Lib.validD s.data.toList) := by subst hk0; rfl
  have e0 : (k == 0) = false := ne_bool (by omega)
  have e1 : (k == 1) = false := ne_bool (by omega)
  have e2 : (k == 2) = false := ne_bool (by omega)
  have e6 : (k == 6) = false := ne_bool (by omega)
  have e7 : (k == 7) = false := ne_bool (by omega)
  have e3 : (k == 3) = false := ne_bool (by omega)
  have e5 : (k == 5) = true := eq_bool hk0
  clear hk0
  by_cases hl : ks.length = ts.length
  · have hn : ((ks.length : Int) != (ts.length : Int)) = false := by rw [hl]; simp
    have hl2 : (ks.length == ts.length) = true := beq_iff_eq.2 hl
    rw [hl2, Bool.true_and] at hsh
    have HL : Hid (ks.length = ts.length) := hl
    clear hl hl2
    go_enter Tryz.func198, Tryz.ntmps198
    go_wp2_with fail
    refine (rising_any B ka kc ks _ (hky.below (by exact ((Below.refl _ w).alloc hB _).alloc (by simp; omega) _)) hs2 hs3 (hT.below (by exact ((Below.refl _ w).alloc (Nat.le_refl _) _).alloc (by simp) _))).mono ?_
    rintro e w1 ⟨rfl, hb1⟩
    have hB1 : Below w.heap.size w w1 := (two_alloc (v := .string s) hb1 rfl).1
    cases hr : risingB ks with
    | false =>
      have HS : Hid (shapedB (.mk k b n s ks ts) = false) := by unfold Hid; rw [hsh, hr]; rfl
      clear hr hsh hb1
      go_wp2_with fail
      go_ret
      exact ⟨by rw [HS.out]; rfl, hB1⟩
    | true =>
      rw [hr, Bool.true_and] at hsh
      obtain ⟨c0, c1, c2, c3, c4, c5, f4, f5, hz⟩ := rest_cells hb1
      have cs : w1.cell? ⟨w.heap.size, 3, none⟩ = some (.string s) := (two_alloc (v := .string s) hb1 rfl).2
      clear hr hb1
      go_wp2_with fail
      refine (blank_any _ _ _ _ _ _ _ _ _ _ _).mono ?_
      rintro e w2 ⟨rfl, hb2⟩
      have hB2 : Below w.heap.size w w2 := ((hB1.setCell (p := ⟨w.heap.size + 1, 4, none⟩) (by show _ ≤ w.heap.size + 1; omega) _).setCell (p := ⟨w.heap.size + 1, 5, none⟩) (by show _ ≤ w.heap.size + 1; omega) _).trans (hb2.mono (by simp [World.setCell]; omega))
      have cs2 : w2.cell? ⟨w.heap.size, 3, none⟩ = some (.string s) := by
        rw [hb2.cell (p := ⟨w.heap.size, 3, none⟩) (by simp [World.setCell]; omega)]
        rw [World.cell?_of_block (Below.heap_setCell _ _ _ _ (by show w.heap.size ≠ w.heap.size + 1; omega)), World.cell?_of_block (Below.heap_setCell _ _ _ _ (by show w.heap.size ≠ w.heap.size + 1; omega))]
        exact cs
      clear hb2 c0 c1 c2 c3 c4 c5 f4 f5 cs
      have hT2 := hT.below hB2
      cases hbl : blankB b n s 0 0 with
      | false =>
        have HS : Hid (shapedB (.mk k b n s ks ts) = false) := by unfold Hid; rw [hsh, hbl]; rfl
        clear hbl hsh
        go_wp2_with fail
        go_ret
        exact ⟨by rw [HS.out]; rfl, hB2⟩
      | true =>
        have HS : Hid (shapedB (.mk k b n s ks ts) = Lib.validD s.data.toList) := by unfold Hid; rw [hsh, hbl]; rfl
        clear hbl hsh
        go_wp2_with fail
        refine (vvalid_any _ _ hs1 hT2).mono ?_
        rintro e w3 ⟨rfl, hb3⟩
        go_wp2_with fail
        go_ret
        exact ⟨by rw [HS.out]; rfl, hB2.trans (hb3.mono hB2.size)⟩
  · have hn : ((ks.length : Int) != (ts.length : Int)) = true := by rw [bne_iff_ne]; omega
    have hl2 : (ks.length == ts.length) = false := beq_eq_false_iff_ne.2 hl
    have HS : Hid (shapedB (.mk k b n s ks ts) = false) := by unfold Hid; rw [hsh, hl2]; rfl
    clear hl hl2 hsh
    go_enter Tryz.func198, Tryz.ntmps198
    go_wp2_with fail
    go_ret
    exact ⟨by rw [HS.out]; rfl, ((Below.refl _ w).alloc (Nat.le_refl _) _).alloc (by simp) _⟩
set_option maxHeartbeats 1000000 in
theorem shaped_none (k : Int) (b : Bool) (n : Int) (s : ByteArray) (ka : Option Addr) (kc : Nat) (la : Option Addr) (lc : Nat) (ks : List ByteArray) (ts : List Tree) (w : World)
    (h0 : k ≠ 0) (h1 : k ≠ 1) (h2 : k ≠ 2) (h3 : k ≠ 3) (h4 : k ≠ 4) (h5 : k ≠ 5) (h6 : k ≠ 6) (h7 : k ≠ 7) :
    Calls Tryz.prog 198 #[.agg #[.int .i64 k, .bool b, .int .i64 n, .string s, .slice ka ks.length kc, .slice la ts.length lc]] w fun e w' => e = .returned (.bool (shapedB (.mk k b n s ks ts))) ∧ Below w.heap.size w w' := by
  have HS : Hid (shapedB (.mk k b n s ks ts) = false) := by
    unfold Hid
    simp [shapedB, h0, h1, h2, h3, h4, h5, h6, h7]
  have e0 := ne_bool h0
  have e1 := ne_bool h1
  have e2 := ne_bool h2
  have e3 := ne_bool h3
  have e4 := ne_bool h4
  have e5 := ne_bool h5
  have e6 := ne_bool h6
  have e7 := ne_bool h7
  clear h0 h1 h2 h3 h4 h5 h6 h7
  go_enter Tryz.func198, Tryz.ntmps198
  go_wp2_with fail
  go_ret
  exact ⟨by rw [HS.out]; rfl, ((Below.refl _ w).alloc (Nat.le_refl _) _).alloc (by simp) _⟩
theorem shaped_any (B : Nat) (v : Value) (T : Tree) (w : World) (hB : B ≤ w.heap.size) (hv : Lies B w v T) (hT : Tabs w) :
    Calls Tryz.prog 198 #[v] w fun e w' => e = .returned (.bool (shapedB T)) ∧ Below w.heap.size w w' := by
  obtain ⟨k, b, n, s, ks, ts⟩ := T
  simp only [Lies] at hv
  obtain ⟨ka, kc, la, lc, rfl, ⟨hs1, hs2, hs3, hs4, hs5⟩, hk, ht⟩ := hv
  by_cases h0 : k = 0
  · exact shaped_0 _ _ _ _ _ _ _ _ _ _ _ hs1 hT h0
  by_cases h1 : k = 1
  · exact shaped_1 _ _ _ _ _ _ _ _ _ _ _ hs1 hT h1
  by_cases h2 : k = 2
  · exact shaped_2 _ _ _ _ _ _ _ _ _ _ _ hs1 hT h2
  by_cases h3 : k = 3
  · exact shaped_3 _ _ _ _ _ _ _ _ _ _ _ hs1 hT h3
  by_cases h4 : k = 4
  · exact shaped_4 _ _ _ _ _ _ _ _ _ _ _ hs1 hT h4
  by_cases h5 : k = 5
  · exact shaped_5 B _ _ _ _ _ _ _ _ _ _ _ hs1 hs2 hs3 hB hk hT h5
  by_cases h6 : k = 6
  · exact shaped_6 _ _ _ _ _ _ _ _ _ _ _ hs1 hT h6
  by_cases h7 : k = 7
  · exact shaped_7 _ _ _ _ _ _ _ _ _ _ _ hs1 hT h7
  exact shaped_none _ _ _ _ _ _ _ _ _ _ _ h0 h1 h2 h3 h4 h5 h6 h7
end Go.Proofs.YthfilnflgahcjaaGreatDoor

namespace Go.Proofs.YthfilnflgahcjaaGreatDoor
open Go.RowKit Go.Shelf
set_option linter.unusedVariables false
set_option linter.unusedSimpArgs false
/-- A node. -/
structure NodeP where
  id : Int
  labels : List ByteArray
  props : List (ByteArray × Tree)
/-- A relationship. -/
structure RelP where
  id : Int
  fr : Int
  tt : Int
  type : ByteArray
  props : List (ByteArray × Tree)
/-- A graph. -/
structure GraphP where
  nodes : List NodeP
  rels : List RelP
  nn : Int
  nr : Int
/-- Things in a row, some cells each. -/
def RowsLie {α : Type} (k : Nat) (At : World → Nat → Nat → α → Prop) (B : Nat) (w : World) (v : Value) (xs : List α) : Prop :=
  ∃ a c, v = .slice a xs.length c ∧ xs.length ≤ c ∧ c ≤ 9223372036854775807 ∧ (xs = [] ∨ ∃ bl off, a = some ⟨bl, off, none⟩ ∧ bl < B ∧ ∀ i x, xs[i]? = some x → At w bl (off + i * k) x)
theorem RowsLie.turn {α : Type} {k : Nat} {At At' : World → Nat → Nat → α → Prop} {B : Nat} {w w' : World} {v : Value} {xs : List α} (h : RowsLie k At B w v xs) (hA : ∀ bl off x, bl < B → x ∈ xs → At w bl off x → At' w' bl off x) : RowsLie k At' B w' v xs := by
  obtain ⟨a, c, e, h1, h2, h3⟩ := h
  exact ⟨a, c, e, h1, h2, h3.imp id fun ⟨bl, off, e, hl, hc⟩ => ⟨bl, off, e, hl, fun i x hi => hA _ _ _ hl (List.mem_of_getElem? hi) (hc i x hi)⟩⟩
def NodeAt (B : Nat) (w : World) (bl off : Nat) (n : NodeP) : Prop :=
  ∃ la lc pv, (w.cell? ⟨bl, off, none⟩ = some (.int .i64 n.id) ∧ w.cell? ⟨bl, off + 1, none⟩ = some (.slice la n.labels.length lc) ∧ w.cell? ⟨bl, off + 2, none⟩ = some pv) ∧ (n.labels.length ≤ lc ∧ lc ≤ 9223372036854775807) ∧ KeysLie B w la n.labels ∧ PropsLie B w pv n.props
def RelAt (B : Nat) (w : World) (bl off : Nat) (r : RelP) : Prop :=
  ∃ pv, (w.cell? ⟨bl, off, none⟩ = some (.int .i64 r.id) ∧ w.cell? ⟨bl, off + 1, none⟩ = some (.int .i64 r.fr) ∧ w.cell? ⟨bl, off + 2, none⟩ = some (.int .i64 r.tt) ∧ w.cell? ⟨bl, off + 3, none⟩ = some (.string r.type) ∧ w.cell? ⟨bl, off + 4, none⟩ = some pv) ∧ r.type.size ≤ maxLen ∧ PropsLie B w pv r.props
theorem NodeAt.below {B : Nat} {w w' : World} (h : Below B w w') {bl off : Nat} (hl : bl < B) {n : NodeP} (hn : NodeAt B w bl off n) : NodeAt B w' bl off n := by
  obtain ⟨la, lc, pv, ⟨c0, c1, c2⟩, hs, hk, hp⟩ := hn
  exact ⟨la, lc, pv, ⟨(h.cell (p := ⟨bl, off, none⟩) hl).trans c0, (h.cell (p := ⟨bl, off + 1, none⟩) hl).trans c1, (h.cell (p := ⟨bl, off + 2, none⟩) hl).trans c2⟩, hs, hk.below h, hp.below h⟩
theorem RelAt.below {B : Nat} {w w' : World} (h : Below B w w') {bl off : Nat} (hl : bl < B) {n : RelP} (hn : RelAt B w bl off n) : RelAt B w' bl off n := by
  obtain ⟨pv, ⟨c0, c1, c2, c3, c4⟩, hs, hp⟩ := hn
  exact ⟨pv, ⟨(h.cell (p := ⟨bl, off, none⟩) hl).trans c0, (h.cell (p := ⟨bl, off + 1, none⟩) hl).trans c1, (h.cell (p := ⟨bl, off + 2, none⟩) hl).trans c2, (h.cell (p := ⟨bl, off + 3, none⟩) hl).trans c3, (h.cell (p := ⟨bl, off + 4, none⟩) hl).trans c4⟩, hs, hp.below h⟩
def NodesLie (B : Nat) (w : World) (v : Value) (ns : List NodeP) : Prop := RowsLie 3 (NodeAt B) B w v ns
def RelsLie (B : Nat) (w : World) (v : Value) (rs : List RelP) : Prop := RowsLie 5 (RelAt B) B w v rs
theorem NodesLie.below {B : Nat} {w w' : World} (h : Below B w w') {v : Value} {ns : List NodeP} (hn : NodesLie B w v ns) : NodesLie B w' v ns := hn.turn fun _ _ _ hl _ h2 => h2.below h hl
theorem RelsLie.below {B : Nat} {w w' : World} (h : Below B w w') {v : Value} {ns : List RelP} (hn : RelsLie B w v ns) : RelsLie B w' v ns := hn.turn fun _ _ _ hl _ h2 => h2.below h hl
/-- A graph in registers. -/
def GraphLies (B : Nat) (w : World) (v : Value) (g : GraphP) : Prop :=
  ∃ na nc ra rc, v = .agg #[.slice na g.nodes.length nc, .slice ra g.rels.length rc, .int .i64 g.nn, .int .i64 g.nr] ∧ NodesLie B w (.slice na g.nodes.length nc) g.nodes ∧ RelsLie B w (.slice ra g.rels.length rc) g.rels
theorem GraphLies.below {B : Nat} {w w' : World} (h : Below B w w') {v : Value} {g : GraphP} (hn : GraphLies B w v g) : GraphLies B w' v g := by
  obtain ⟨na, nc, ra, rc, e, h1, h2⟩ := hn
  exact ⟨na, nc, ra, rc, e, h1.below h, h2.below h⟩
end Go.Proofs.YthfilnflgahcjaaGreatDoor

namespace Go.Proofs.YthfilnflgahcjaaGreatDoor
open Go.RowKit Go.Shelf Go.Maps
set_option linter.unusedVariables false
set_option linter.unusedSimpArgs false
attribute [local go_sem] Oper.semAt_some
set_option maxRecDepth 100000 in
set_option maxHeartbeats 4000000 in
theorem f63_any (rows : List (KeyR)) (keys : List (KeyR)) (vr vk : Value) (B : Nat) (w : World) (hB : B ≤ w.heap.size) (hr : SRow 4 keyC B w vr rows) (hk : SRow 4 keyC B w vk keys) (hrs : ∀ x ∈ rows, okK x) (hks : ∀ x ∈ keys, okK x) (hrl : rows.length ≤ 100000) (hkl : keys.length ≤ 100000) :
    Calls Tryz.prog 63 #[vr, .func (.func 62) #[] #[], vk] w fun e w' => ∃ v, e = .returned v ∧ ORow 66 4 keyC w.heap.size w' v (firstsL keyK (⟨#[]⟩, ⟨#[]⟩, 0, 0) rows keys) ∧ Below w.heap.size w w' := by
  obtain ⟨ra, rc, rfl, r1, r2, r3⟩ := hr
  obtain ⟨ka, kc, rfl, k1, k2, k3⟩ := hk
  have HR3 := hidE r3
  have HK3 := hidE k3
  have HRS := hidE hrs
  have HKS := hidE hks
  obtain ⟨m, hm⟩ : ∃ n, rows.length = n := ⟨_, rfl⟩
  obtain ⟨n, hn⟩ : ∃ n, keys.length = n := ⟨_, rfl⟩
  have HM := hidE hm
  have HN := hidE hn
  rw [hm] at r1 hrl ⊢
  rw [hn] at k1 hkl ⊢
  clear r3 k3 hrs hks hm hn
  have hmk : ∀ W : World, (Instr.makeMap 170 none).run Tryz.prog W = .ok (.map (some W.heap.size)) (W.alloc (.map #[] 0)) := fun W => rfl
  go_enter Tryz.func63, Tryz.ntmps63
  go_wp2_with fail
  go_loopw [18] (fun i wr => ∃ j : Nat, j ≤ n ∧ i = .int .i64 j ∧ w.heap.size + 1 ≤ wr.heap.size ∧ Below w.heap.size w wr ∧ MS keyV okK wr w.heap.size ((keys.take j).foldl putS [])) (fun i _ => n - (intOf i).toNat)
  case atStart => exact ⟨0, Nat.zero_le _, rfl, by simp, (Below.refl _ _).alloc (Nat.le_refl _) _, mg_none _⟩
  case round =>
    obtain ⟨j, hj, rfl, hsz, hbr, hms⟩ := hrel
    have HBR := hidE hbr
    have HMS := hidE hms
    have HSZ := hidE hsz
    clear hbr hms hsz
    by_cases hlt : j < n
    · have hlt' : (j : Int) < n := by omega
      obtain ⟨⟨s, t, p, q⟩, hx⟩ : ∃ q, keys[j]? = some q := ⟨_, List.getElem?_eq_getElem (by have := HN.out; omega)⟩
      obtain ⟨bl, off, rfl, hbl, hc⟩ := HK3.out.resolve_left (by intro e; rw [e] at hx; simp at hx)
      have cx0 := (HBR.out.cell (p := ⟨bl, off + j * 4 + 0, none⟩) (show bl < w.heap.size by omega)).trans (hc j (s, t, p, q) hx 0 _ rfl)
      have cx1 := (HBR.out.cell (p := ⟨bl, off + j * 4 + 1, none⟩) (show bl < w.heap.size by omega)).trans (hc j (s, t, p, q) hx 1 _ rfl)
      have cx2 := (HBR.out.cell (p := ⟨bl, off + j * 4 + 2, none⟩) (show bl < w.heap.size by omega)).trans (hc j (s, t, p, q) hx 2 _ rfl)
      have cx3 := (HBR.out.cell (p := ⟨bl, off + j * 4 + 3, none⟩) (show bl < w.heap.size by omega)).trans (hc j (s, t, p, q) hx 3 _ rfl)
      rw [Nat.add_zero] at cx0
      simp only at cx0 cx1 cx2 cx3
      have HX := hidE hx
      have hbA : Below wr.heap.size wr (wr.alloc (.cells #[.string s, .string t, .int .i64 p, .int .i64 q] 66)) := (Below.refl _ _).alloc (Nat.le_refl _) _
      have hszA : (wr.alloc (.cells #[.string s, .string t, .int .i64 p, .int .i64 q] 66)).heap.size = wr.heap.size + 1 := by simp
      have HBA := hidE hbA
      have HSA := hidE hszA
      obtain ⟨W, q1, q2, q3, q4, q5⟩ := ms_put keyT map170 (HMS.out.block (hbA.block _ HMS.out.lt)) (puts_nodup _ _ List.nodup_nil) (s, t, p, q) (HKS.out _ (List.mem_of_getElem? hx))
      simp only [keyV] at q1
      have HQ := hidE (And.intro q2 (And.intro q3 q5))
      clear hx hc q2 q3 q4 q5 hbA hszA
      go_wp2_with fail
      go_roundw
      case rel => exact ⟨j + 1, by omega, by go_num, by have := HSZ.out; have := HQ.out.2.1; have := HSA.out; omega, (HBR.out.trans (HBA.out.mono HBR.out.size)).trans HQ.out.2.2, by rw [puts_at HX.out]; exact HQ.out.1⟩
      case measure => simp [intOf]; omega
    · have hlt' : ¬ (j : Int) < n := by omega
      have HL := HMS.out
      rw [List.take_of_length_le (by have := HN.out; omega)] at HL
      obtain ⟨W0, hW0⟩ : ∃ W0, W0 = wr := ⟨_, rfl⟩
      subst hW0
      obtain ⟨K0, hK0⟩ : ∃ l, keys.foldl putS [] = l := ⟨_, rfl⟩
      have HND : Hid (K0.Nodup) := by show _; rw [← hK0]; exact puts_nodup _ _ List.nodup_nil
      have HKL : Hid (K0.length ≤ 100000) := by
        have := puts_len keys ([] : List (KeyR))
        rw [hK0] at this
        have h2 := HN.out
        show K0.length ≤ 100000
        simp only [List.length_nil] at this; omega
      have HKO : Hid (firstsL keyK (⟨#[]⟩, ⟨#[]⟩, 0, 0) rows keys = (goFirst keyK rows K0).1 ++ List.replicate (goFirst keyK rows K0).2.length (⟨#[]⟩, ⟨#[]⟩, 0, 0)) := by
        show _ = _
        unfold firstsL
        rw [hK0]
      rw [hK0] at HL
      have HL := hidE HL
      clear hK0 HMS
      have FIN : Hid (∀ (W : World) (v : Value) (out : List (KeyR)) (left : List (KeyR)), Below w.heap.size w W → w.heap.size + 1 ≤ W.heap.size → ORow 66 4 keyC (w.heap.size + 1) W v out → out.length + left.length ≤ 100000 → ∃ v' W', (Builtin.append_ #[31, 3] 31 #[v, .int .i64 left.length]).run Tryz.prog W = .ok v' W' ∧ ORow 66 4 keyC w.heap.size W' v' (out ++ List.replicate left.length (⟨#[]⟩, ⟨#[]⟩, 0, 0)) ∧ Below w.heap.size w W') := by
        intro W v out left hb hs ho hl
        obtain ⟨v', W', p1, p2, p3⟩ := append_zeros (ty := 31) (tn := 3) (x := ((⟨#[]⟩, ⟨#[]⟩, 0, 0) : KeyR)) (m := left.length) elem31 Tryz.underlying3 (fun x => rfl) one_key rfl ho (by omega) hs
        exact ⟨v', W', p1, p2.base (by omega), hb.trans (p3.mono (by omega))⟩
      go_wp2_with fail
      go_loopw [10, 28] (fun v i wr => ∃ (j : Nat) (out : List (KeyR)) (left : List (KeyR)), j ≤ m ∧ i = .int .i64 j ∧ w.heap.size + 1 ≤ wr.heap.size ∧ Below w.heap.size w wr ∧ MS keyV okK wr w.heap.size left ∧ left.Nodup ∧ ORow 66 4 keyC (w.heap.size + 1) wr v out ∧ out.length + left.length ≤ 100000 ∧ out ++ (goFirst keyK (rows.drop j) left).1 = (goFirst keyK rows K0).1 ∧ (goFirst keyK (rows.drop j) left).2 = (goFirst keyK rows K0).2) (fun _ i _ => m - (intOf i).toNat)
      case atStart => exact ⟨0, [], K0, Nat.zero_le _, rfl, HSZ.out, HBR.out, HL.out, HND.out, orow_nil _ _ _ _ _, by have := HKL.out; simpa using this, rfl, rfl⟩
      case round =>
        obtain ⟨j, out, left, hj, rfl, hsz, hbr, hms, hnd, hor, hln, e1, e2⟩ := hrel
        have HB2 := hidE hbr
        have HM2 := hidE hms
        have HO2 := hidE hor
        have HNd := hidE hnd
        have HS2 := hidE hsz
        have HLn := hidE hln
        have HE := hidE (And.intro e1 e2)
        clear hbr hms hor hnd hsz hln e1 e2
        by_cases hlt : j < m
        · have hlt' : (j : Int) < m := by omega
          obtain ⟨⟨s, t, p, q⟩, hx⟩ : ∃ q, rows[j]? = some q := ⟨_, List.getElem?_eq_getElem (by have := HM.out; omega)⟩
          obtain ⟨bl, off, rfl, hbl, hc⟩ := HR3.out.resolve_left (by intro e; rw [e] at hx; simp at hx)
          have c0 := (HB2.out.cell (p := ⟨bl, off + j * 4 + 0, none⟩) (show bl < w.heap.size by omega)).trans (hc j (s, t, p, q) hx 0 _ rfl)
          have c1 := (HB2.out.cell (p := ⟨bl, off + j * 4 + 1, none⟩) (show bl < w.heap.size by omega)).trans (hc j (s, t, p, q) hx 1 _ rfl)
          have c2 := (HB2.out.cell (p := ⟨bl, off + j * 4 + 2, none⟩) (show bl < w.heap.size by omega)).trans (hc j (s, t, p, q) hx 2 _ rfl)
          have c3 := (HB2.out.cell (p := ⟨bl, off + j * 4 + 3, none⟩) (show bl < w.heap.size by omega)).trans (hc j (s, t, p, q) hx 3 _ rfl)
          rw [Nat.add_zero] at c0
          simp only at c0 c1 c2 c3
          have HX := hidE hx
          clear hx hc
          go_upto_region 11 with fail
          have g0 : (wr.alloc (.cells #[.string s, .string t, .int .i64 p, .int .i64 q] 66)).cell? ⟨wr.heap.size, 0, none⟩ = some _ := cell_new _ _ _ _ _ rfl
          have g1 : (wr.alloc (.cells #[.string s, .string t, .int .i64 p, .int .i64 q] 66)).cell? ⟨wr.heap.size, 1, none⟩ = some _ := cell_new _ _ _ _ _ rfl
          have g2 : (wr.alloc (.cells #[.string s, .string t, .int .i64 p, .int .i64 q] 66)).cell? ⟨wr.heap.size, 2, none⟩ = some _ := cell_new _ _ _ _ _ rfl
          have g3 : (wr.alloc (.cells #[.string s, .string t, .int .i64 p, .int .i64 q] 66)).cell? ⟨wr.heap.size, 3, none⟩ = some _ := cell_new _ _ _ _ _ rfl
          have hb1 : Below wr.heap.size wr (wr.alloc (.cells #[.string s, .string t, .int .i64 p, .int .i64 q] 66)) := (Below.refl _ _).alloc (Nat.le_refl _) _
          obtain ⟨W1, hW1⟩ : ∃ W, wr.alloc (.cells #[.string s, .string t, .int .i64 p, .int .i64 q] 66) = W := ⟨_, rfl⟩
          have hx1 : wr.heap.size < W1.heap.size := by rw [← hW1]; simp
          rw [hW1] at g0 g1 g2 g3 hb1 ⊢
          clear hW1 c0 c1 c2 c3
          have HM3 : Hid (MS keyV okK W1 w.heap.size left) := HM2.out.block (hb1.block _ HM2.out.lt)
          have HO3 : Hid (ORow 66 4 keyC (w.heap.size + 1) W1 _ out) := HO2.out.below hb1
          have HB3 := hidE (HB2.out.trans (hb1.mono HB2.out.size))
          have HX1 := hidE hx1
          obtain ⟨X, hX⟩ : ∃ X, wr.heap.size = X := ⟨_, rfl⟩
          rw [hX] at g0 g1 g2 g3 hx1 HX1 ⊢
          have HS3 : Hid (w.heap.size + 1 ≤ X) := by show _ ≤ _; rw [← hX]; exact HS2.out
          clear hb1 hX hx1
          have hlen := ms_len (ty := 3) map170 HM3.out
          by_cases hl0 : left = []
          · subst hl0
            simp only [List.length_nil] at hlen
            obtain ⟨v', W', p1, p2, p3⟩ := FIN.out W1 _ out [] HB3.out (by have := HS3.out; have := HX1.out; omega) HO3.out HLn.out
            simp only [List.length_nil, Int.ofNat_zero] at p1
            have HP := hidE (And.intro p2 p3)
            clear p2 p3
            go_wp2_with (at_builtin; refine Lib.wpList_append_run _ rfl _ _ _ _ rfl _ _ rfl rfl _ _ p1 ?_)
            go_ret
            refine ⟨_, rfl, ?_, HP.out.2⟩
            have h1 := HE.out
            rw [goFirst_none] at h1
            rw [HKO.out, ← h1.1, ← h1.2]
            simpa using HP.out.1
          · have hl1 : (left.length : Int) ≠ 0 := by
              have : left.length ≠ 0 := fun e => hl0 (List.eq_nil_of_length_eq_zero e)
              omega
            have hl2 : ((left.length : Int) == 0) = false := beq_eq_false_iff_ne.2 hl1
            have HL0 := hidE hl0
            clear hl0 hl1
            have HOK : Hid (okK (keyK (s, t, p, q))) := (fun h => ⟨h.1, h.2.1, w64_zero, w64_zero⟩ : okK (s, t, p, q) → okK (keyK (s, t, p, q))) (HRS.out _ (List.mem_of_getElem? HX.out))
            obtain ⟨z, hz⟩ : ∃ z : Bool, (z = true ↔ (keyK (s, t, p, q)) ∈ left) := by
              by_cases h : (keyK (s, t, p, q)) ∈ left
              · exact ⟨true, by simp [h]⟩
              · exact ⟨false, by simp [h]⟩
            have HZ := hidE hz
            clear hz
            go_upto_region 13 with (go_at_call 62; refine (f62_any s t p q _).mono ?_; rintro e W2 ⟨rfl, hb2⟩; have hlk := ms_lookB keyT map170 zero164 (HM3.out.block (hb2.block _ HM3.out.lt)) (keyK (s, t, p, q)) HOK.out z HZ.out; simp only [keyV, keyK] at hlk; have HB4 := hidE hb2; have hsz2 := hb2.size; clear hb2)
            clear hlk hlen
            have hb3 : Below W1.heap.size W1 (W2.alloc (.cells #[] 164)) := HB4.out.alloc hsz2 _
            have hx3 : W2.heap.size < (W2.alloc (.cells #[] 164)).heap.size := by simp
            obtain ⟨W3, hW3⟩ : ∃ W, W2.alloc (.cells #[] 164) = W := ⟨_, rfl⟩
            rw [hW3] at hb3 hx3 ⊢
            have hxl : X < W1.heap.size := HX1.out
            have hxl3 : X < W3.heap.size := by omega
            have g10 := (hb3.cell (p := ⟨X, 0, none⟩) hxl).trans g0
            have g11 := (hb3.cell (p := ⟨X, 1, none⟩) hxl).trans g1
            have g12 := (hb3.cell (p := ⟨X, 2, none⟩) hxl).trans g2
            have g13 := (hb3.cell (p := ⟨X, 3, none⟩) hxl).trans g3
            have HM4 : Hid (MS keyV okK W3 w.heap.size left) := HM3.out.block (hb3.block _ HM3.out.lt)
            have HO4 : Hid (ORow 66 4 keyC (w.heap.size + 1) W3 _ out) := HO3.out.below hb3
            have HB5 : Hid (Below w.heap.size w W3) := HB3.out.trans (hb3.mono (by have := HB3.out.size; omega))
            have HXL := hidE hxl3
            clear hW3 hb3 hx3 hsz2 HB4 HX1 hxl hxl3 g0 g1 g2 g3
            cases z with
            | true =>
              have hm : (keyK (s, t, p, q)) ∈ left := HZ.out.1 rfl
              go_upto_region 15 with (go_at_call 62; refine (f62_any s t p q _).mono ?_; rintro e W4 ⟨rfl, hb4⟩; obtain ⟨W5, d1, d2, d3, d4, d5⟩ := ms_del (ty := 0) keyT map170 (HM4.out.block (hb4.block _ HM4.out.lt)) HNd.out (keyK (s, t, p, q)) HOK.out hm; simp only [keyV, keyK] at d1; have HD := hidE (And.intro hb4 (And.intro d2 (And.intro d3 (And.intro d4 d5)))); clear hb4 d2 d3 d4 d5)
              obtain ⟨hb4, d2, d3, d4, d5⟩ := HD.out
              have hX4 : X < W4.heap.size := Nat.lt_of_lt_of_le HXL.out hb4.size
              have hXb : X ≠ w.heap.size := by have := HS3.out; omega
              have k10 := ((World.cell?_of_block (w := W4) (a := ⟨X, 0, none⟩) (d4 X hXb)).trans (hb4.cell (p := ⟨X, 0, none⟩) HXL.out)).trans g10
              have k11 := ((World.cell?_of_block (w := W4) (a := ⟨X, 1, none⟩) (d4 X hXb)).trans (hb4.cell (p := ⟨X, 1, none⟩) HXL.out)).trans g11
              have k12 := ((World.cell?_of_block (w := W4) (a := ⟨X, 2, none⟩) (d4 X hXb)).trans (hb4.cell (p := ⟨X, 2, none⟩) HXL.out)).trans g12
              have k13 := ((World.cell?_of_block (w := W4) (a := ⟨X, 3, none⟩) (d4 X hXb)).trans (hb4.cell (p := ⟨X, 3, none⟩) HXL.out)).trans g13
              have HO5 : ORow 66 4 keyC (w.heap.size + 1) W5 _ out := (HO4.out.below hb4).keep fun g hg _ => d4 g (by omega)
              have hs5 : w.heap.size + 1 ≤ W5.heap.size := by have := HS3.out; omega
              have HB6 : Below w.heap.size w W5 := (HB5.out.trans (hb4.mono HB5.out.size)).trans (d5.mono (Nat.le_refl _))
              obtain ⟨v6, W6, p1, p2, p3, p4⟩ := append_one (ty := 31) (c := 1) (bl := W5.heap.size) (off := 0) (x := (s, t, p, q)) elem31 (fun x => rfl) one_key (HO5.below ((Below.refl _ _).alloc (Nat.le_refl _) (.cells #[.string s, .string t, .int .i64 p, .int .i64 q] 66))) (fun jj u hu => by
                rw [Nat.zero_add]
                exact cell_new _ _ _ _ _ (by simpa [keyC] using hu)) (by have := HLn.out; omega) (by simp; omega)
              have HP := hidE (And.intro p2 (And.intro p3 (And.intro HB6 (And.intro d2 hs5))))
              clear hb4 d2 d3 d4 d5 HD p2 p3 p4 HB6 hs5 HO5 hX4 hXb
              go_wp2_with (at_builtin; refine Lib.wpList_append_run _ rfl _ _ _ _ rfl _ _ rfl rfl _ _ p1 ?_)
              go_roundw
              case rel =>
                obtain ⟨p2, p3, p5, p6, p7⟩ := HP.out
                have hbA : Below W5.heap.size W5 (W5.alloc (.cells #[.string s, .string t, .int .i64 p, .int .i64 q] 66)) := (Below.refl _ _).alloc (Nat.le_refl _) _
                have p8 := p6.block ((p3.block _ (by omega)).trans (hbA.block _ (by omega)))
                have hh := goFirst_hit (key := keyK) HX.out HL0.out hm
                have hE := HE.out
                rw [hh] at hE
                refine ⟨j + 1, out ++ [(s, t, p, q)], delS (keyK (s, t, p, q)) left, by omega, by go_num, ?_, (p5.trans (hbA.mono (by omega))).trans (p3.mono (by omega)), p8, delS_nodup HNd.out _, p2, ?_, ?_, hE.2⟩
                · have := p3.size; have := hbA.size; omega
                · have h1 := HLn.out
                  have h2 := delS_len hm
                  simp only [List.length_append, List.length_cons, List.length_nil]; omega
                · rw [← hE.1]; simp
              case measure => simp [intOf]; omega
            | false =>
              have hm : ¬ (keyK (s, t, p, q)) ∈ left := fun h => by have := HZ.out.2 h; cases this
              go_wp2_with fail
              go_roundw
              case rel => exact ⟨j + 1, out, left, by omega, by go_num, by have := HS3.out; have := HXL.out; omega, HB5.out, HM4.out, HNd.out, HO4.out, HLn.out, by rw [← goFirst_miss HX.out HL0.out hm]; exact HE.out.1, by rw [← goFirst_miss HX.out HL0.out hm]; exact HE.out.2⟩
              case measure => simp [intOf]; omega
        · have hlt' : ¬ (j : Int) < m := by omega
          have hlen := ms_len (ty := 3) map170 HM2.out
          obtain ⟨v', W', p1, p2, p3⟩ := FIN.out wr _ out left HB2.out HS2.out HO2.out HLn.out
          have HP := hidE (And.intro p2 p3)
          clear p2 p3
          go_wp2_with (at_builtin; refine Lib.wpList_append_run _ rfl _ _ _ _ rfl _ _ rfl rfl _ _ p1 ?_)
          go_ret
          refine ⟨_, rfl, ?_, HP.out.2⟩
          have h1 := HE.out
          rw [List.drop_of_length_le (by have := HM.out; omega)] at h1
          simp only [goFirst, List.append_nil] at h1
          rw [HKO.out, ← h1.1, ← h1.2]
          exact HP.out.1
end Go.Proofs.YthfilnflgahcjaaGreatDoor

