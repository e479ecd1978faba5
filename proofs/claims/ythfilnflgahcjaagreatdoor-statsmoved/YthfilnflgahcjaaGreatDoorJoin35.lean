/- Every small graph that may be is counted. What a graph that may be lends to its counts. Rows in order are one list; counts of things that are moved; how great a small graph's counts are. A graph whose numbers are moved. Where a small graph's counts lie, and how great they are. What StatsSums asks of counts: pure. -/
import Derived.Test.YthfilnflgahcjaaGreatDoorJoin31
import Derived.Test.YthfilnflgahcjaaGreatDoorJoin15
import Derived.Test.YthfilnflgahcjaaGreatDoorJoin34
import Derived.Test.YthfilnflgahcjaaGreatDoorJoin29
import Derived.Test.YthfilnflgahcjaaGreatDoorJoin8
import Derived.Test.YthfilnflgahcjaaGreatDoorJoin6
import Derived.Test.YthfilnflgahcjaaGreatDoorJoin7
namespace Go.Proofs.YthfilnflgahcjaaGreatDoor
open Go.RowKit Go.Shelf
set_option linter.unusedVariables false
set_option linter.unusedSimpArgs false
/-- A value's text. -/
def txG (T : Tree) : ByteArray := ⟨(tellG T).toArray⟩
theorem count_small (g : GraphP) (v : Value) (B : Nat) (w : World) (hB : B ≤ w.heap.size) (hE : Env2 w) (h : GraphLies B w v g) (hs : smallG g = true) (hn1 : -9223372036854775808 ≤ g.nn ∧ g.nn ≤ 9223372036854775807) (hn2 : -9223372036854775808 ≤ g.nr ∧ g.nr ≤ 9223372036854775807) (hok : checkPB g = true)
    (hlab : ∀ n ∈ g.nodes, (n.labels.length : Int) ≤ keyBytes n.labels + 1) (hfr : ∀ r ∈ g.rels, W64 r.fr ∧ W64 r.tt) (hnd : (g.nodes.map NodeP.id).Nodup) (hid : ∀ n ∈ g.nodes, W64 n.id)
    (hran : ∀ n ∈ g.nodes, ∀ p ∈ n.props, Ranged p.2) (hchk : ∀ n ∈ g.nodes, ∀ p ∈ n.props, checkN p.2 = 0) :
    Calls Tryz.prog 11 #[v] w fun e w' => ∃ s vl vt ve vk, e = .returned (.tuple #[statV s vl vt ve vk, .int .i64 0]) ∧ CntIs txG g (fun a b => ¬ cfL b a < 0) (fun a b => ¬ cfL b a < 0) (fun a b => ¬ cfE b a < 0) (fun a b => ¬ cfK b a < 0) s ∧ CntL w.heap.size w' vl vt ve vk s ∧ Below w.heap.size w w' := by
  refine count_good (most := 900000) (fun W v base xs h1 h2 h3 => sort84_whole W v base xs h1 (by omega) h3) (fun W v base xs h1 h2 h3 => sort88_whole W v base xs h1 (by omega) h3) (fun W v base xs h1 h2 h3 => sort92_whole W v base xs h1 (by omega) h3) (fun W v base xs h1 h2 h3 => sort98_whole W v base xs h1 (by omega) h3) (by omega) txG 3000 g v B w hB hE.e h (small_mild hs) hn1 hn2 (small_fit txG hs hlab hfr hnd hid) hok ?_
  intro n hn p hp
  have ht := ((small_node_parts hs hn).2.2.2 p hp).2
  have hr := hran n hn p hp
  refine ⟨?_, fun W u hb hl => ?_⟩
  · have h1 := tellG_len p.2 hr
    have h2 : (txG p.2).size = (tellG p.2).length := by simp [txG, ByteArray.size]
    unfold okS maxLen
    omega
  · exact Text_anyG p.2 (hchk n hn p hp) hr (by omega) (small_modest ht) B u W (Nat.le_trans hB hb.size) hl (hE.below hb)
end Go.Proofs.YthfilnflgahcjaaGreatDoor

namespace Go.Proofs.YthfilnflgahcjaaGreatDoor
open Go.RowKit Go.Shelf
set_option linter.unusedVariables false
set_option linter.unusedSimpArgs false
theorem nrB_bytes : ∀ {ks : List ByteArray} {l : ByteArray}, nrB l ks = true → (ks.length : Int) ≤ keyBytes ks
  | [], _, _ => by simp [keyBytes]
  | x :: r, l, h => by
    simp only [nrB, Bool.and_eq_true] at h
    obtain ⟨h1, _, h3⟩ := h
    have h4 := nrB_bytes h3
    simp only [nameOk, Bool.and_eq_true, decide_eq_true_eq] at h1
    have h5 : x.data.toList.length = x.size := rfl
    rw [keyBytes_cons, List.length_cons]
    omega
theorem labelsB_bytes : ∀ {ns : List NodeP}, labelsB ns = true → ∀ n ∈ ns, (n.labels.length : Int) ≤ keyBytes n.labels
  | x :: r, h, n, hn => by
    simp only [labelsB, Bool.and_eq_true] at h
    rcases List.mem_cons.1 hn with rfl | hn
    · exact nrB_bytes h.1
    · exact labelsB_bytes h.2 n hn
theorem storsB_check : ∀ {ps : List (ByteArray × Tree)}, storsB ps = true → ∀ q ∈ ps, checkN q.2 = 0
  | x :: r, h, q, hq => by
    simp only [storsB, Bool.and_eq_true, decide_eq_true_eq] at h
    rcases List.mem_cons.1 hq with rfl | hq
    · exact h.1.1
    · exact storsB_check h.2 q hq
theorem nodeProps_check : ∀ {ns : List NodeP}, nodePropsB ns = true → ∀ n ∈ ns, ∀ q ∈ n.props, checkN q.2 = 0
  | x :: r, h, n, hn, q, hq => by
    simp only [nodePropsB, mayPB, Bool.and_eq_true] at h
    rcases List.mem_cons.1 hn with rfl | hn
    · exact storsB_check h.1.1 q hq
    · exact nodeProps_check h.2 n hn q hq
/-- Every small graph that may be is counted. -/
theorem count_may (g : GraphP) (v : Value) (B : Nat) (w : World) (hB : B ≤ w.heap.size) (hE : Env2 w) (h : GraphLies B w v g) (hs : smallG g = true) (hn1 : -9223372036854775808 ≤ g.nn ∧ g.nn ≤ 9223372036854775807) (hn2 : -9223372036854775808 ≤ g.nr ∧ g.nr ≤ 9223372036854775807) (hok : checkPB g = true)
    (hfr : ∀ r ∈ g.rels, W64 r.fr ∧ W64 r.tt) (hid : ∀ n ∈ g.nodes, W64 n.id) (hran : ∀ n ∈ g.nodes, ∀ p ∈ n.props, Ranged p.2) :
    Calls Tryz.prog 11 #[v] w fun e w' => ∃ s vl vt ve vk, e = .returned (.tuple #[statV s vl vt ve vk, .int .i64 0]) ∧ CntIs txG g (fun a b => ¬ cfL b a < 0) (fun a b => ¬ cfL b a < 0) (fun a b => ¬ cfE b a < 0) (fun a b => ¬ cfK b a < 0) s ∧ CntL w.heap.size w' vl vt ve vk s ∧ Below w.heap.size w w' := by
  have hk := hok
  simp only [checkPB, Bool.and_eq_true] at hk
  obtain ⟨_, ⟨h1, _⟩, h3, ⟨h4, _⟩, _⟩ := hk
  exact count_small g v B w hB hE h hs hn1 hn2 hok (fun n hn => by have := labelsB_bytes h3 n hn; omega) hfr (riseI_all h1).2 hid hran (nodeProps_check h4)
end Go.Proofs.YthfilnflgahcjaaGreatDoor

namespace Go.Proofs.YthfilnflgahcjaaGreatDoor
open Go.RowKit Go.Shelf
set_option linter.unusedVariables false
set_option linter.unusedSimpArgs false
theorem sorted_one {α : Type} {le : α → α → Prop} : ∀ {xs ys : List α}, xs.Perm ys → xs.Pairwise le → ys.Pairwise le → (∀ a ∈ xs, ∀ b ∈ xs, le a b → le b a → a = b) → xs = ys
  | [], ys, h, _, _, _ => (List.nil_perm.1 h).symm
  | x :: xs, [], h, _, _, _ => absurd (List.perm_nil.1 h) (by simp)
  | x :: xs, y :: ys, h, h1, h2, ha => by
    have e : x = y := by
      have hy : y ∈ x :: xs := h.mem_iff.2 List.mem_cons_self
      have hx : x ∈ y :: ys := h.mem_iff.1 List.mem_cons_self
      rcases List.mem_cons.1 hy with e | hy'
      · exact e.symm
      · rcases List.mem_cons.1 hx with e | hx'
        · exact e
        · exact ha x List.mem_cons_self y hy (List.rel_of_pairwise_cons h1 hy') (List.rel_of_pairwise_cons h2 hx')
    subst e
    rw [sorted_one h.cons_inv (List.Pairwise.of_cons h1) (List.Pairwise.of_cons h2) fun a ha' b hb' => ha a (List.mem_cons_of_mem _ ha') b (List.mem_cons_of_mem _ hb')]
theorem rows_one {α β : Type} {cf : β → β → Int} (hc : ∀ x y, cf y x = -cf x y) {L : List α} {f : α → β} {xs ys : List β} (h1 : xs.Perm (L.map f)) (h2 : xs.Pairwise (fun a b => ¬ cf b a < 0)) (g1 : ys.Perm (L.map f)) (g2 : ys.Pairwise (fun a b => ¬ cf b a < 0)) (hz : ∀ p ∈ L, ∀ q ∈ L, cf (f p) (f q) = 0 → f p = f q) : xs = ys := by
  refine sorted_one (h1.trans g1.symm) h2 g2 fun a ha b hb x1 x2 => ?_
  obtain ⟨p, hp, rfl⟩ := List.mem_map.1 (h1.mem_iff.1 ha)
  obtain ⟨q, hq, rfl⟩ := List.mem_map.1 (h1.mem_iff.1 hb)
  have := hc (f p) (f q)
  exact hz p hp q hq (by omega)
theorem cmp_zero : ∀ {a b : List UInt8}, Lib.compareBytes a b = 0 → a = b
  | [], [], _ => rfl
  | [], _ :: _, h => by simp [Lib.compareBytes] at h
  | _ :: _, [], h => by simp [Lib.compareBytes] at h
  | a :: r, b :: t, h => by
    rw [Cm.cmpB_eq] at h
    split at h
    · rename_i h0
      have e : a.toNat = b.toNat := by
        unfold Cm.cmpI at h0
        split at h0
        · omega
        · split at h0
          · omega
          · omega
      rw [UInt8.toNat_inj.1 e, cmp_zero h]
    · rename_i h0; exact absurd h h0
theorem cmpB_same {a b : ByteArray} (h : cmpB a b = 0) : a = b := by
  have e := cmp_zero h
  cases a; cases b
  simp only [ByteArray.mk.injEq] at e ⊢
  exact Array.toList_inj.1 e
theorem cfE_same {a b : EndR} (h : cfE a b = 0) : (a.1, a.2.1, a.2.2.1) = (b.1, b.2.1, b.2.2.1) := by
  simp only [cfE, orI] at h
  split at h
  · rename_i h1
    split at h
    · rename_i h2
      split at h
      · rename_i h3
        have e3 : a.2.2.1 = b.2.2.1 := by
          unfold cmpT at h3
          split at h3
          · assumption
          · split at h3 <;> omega
        rw [cmpB_same h1, cmpB_same h2, e3]
      · rename_i h3; exact absurd h h3
    · rename_i h2; exact absurd h h2
  · rename_i h1; exact absurd h h1
theorem cfK_same {a b : KeyR} (h : cfK a b = 0) : (a.1, a.2.1) = (b.1, b.2.1) := by
  simp only [cfK, orI] at h
  split at h
  · rename_i h1
    split at h
    · rename_i h2
      rw [cmpB_same h1, cmpB_same h2]
    · rename_i h2; exact absurd h h2
  · rename_i h1; exact absurd h h1
theorem fst_one {α : Type} {l : List (α × Int)} (h : (l.map Prod.fst).Nodup) {p q : α × Int} (hp : p ∈ l) (hq : q ∈ l) (e : p.1 = q.1) : p = q := by
  induction l with
  | nil => cases hp
  | cons x r ih =>
    simp only [List.map_cons, List.nodup_cons] at h
    rcases List.mem_cons.1 hp with rfl | hp'
    · rcases List.mem_cons.1 hq with rfl | hq'
      · rfl
      · exact absurd (e ▸ List.mem_map_of_mem hq') h.1
    · rcases List.mem_cons.1 hq with rfl | hq'
      · exact absurd (e ▸ List.mem_map_of_mem hp') h.1
      · exact ih h.2 hp' hq'
theorem tally_eq (ts : List ByteArray) : tally ts = gather (ts.map fun t => ((t, (0 : Int)), (1 : Int))) := by
  unfold tally gather
  rw [List.foldl_map]
theorem tally_zero {ts : List ByteArray} {p : (ByteArray × Int) × Int} (hp : p ∈ tally ts) : p.1.2 = 0 ∧ p.1.1 ∈ ts := by
  have h : p.1 ∈ (tally ts).map Prod.fst := List.mem_map_of_mem hp
  rw [tally_eq, gather_keys, List.map_map] at h
  obtain ⟨t, ht, e⟩ := List.mem_map.1 h
  have e : (t, (0 : Int)) = p.1 := e
  rw [← e]; exact ⟨rfl, ht⟩
theorem ends_key {ns : List NodeP} {js : List (JointR × Int)} {p : EndR × Int} (hp : p ∈ gather (endsOf ns js)) : ∃ q ∈ js, p.1.1 = q.1.2.1 ∧ p.1.2.1 ∈ labsAt ns q.1.1 ∧ p.1.2.2.1 = q.1.2.2 ∧ p.1.2.2.2 = 0 := by
  have h : p.1 ∈ (gather (endsOf ns js)).map Prod.fst := List.mem_map_of_mem hp
  rw [gather_keys] at h
  obtain ⟨y, hy, e⟩ := List.mem_map.1 h
  obtain ⟨q, hq, hy⟩ := List.mem_flatMap.1 hy
  obtain ⟨l, hl, rfl⟩ := List.mem_map.1 hy
  rw [← e]
  exact ⟨q, hq, rfl, hl, rfl, rfl⟩
theorem keys_key {ws : List WorR} {p : KeyR × Int} (hp : p ∈ nodesK ws) : ∃ x ∈ ws, p.1 = x.1 := by
  have h : p.1 ∈ (nodesK ws).map Prod.fst := List.mem_map_of_mem hp
  unfold nodesK at h
  rw [gather_keys, List.map_map] at h
  obtain ⟨y, hy, e⟩ := List.mem_map.1 h
  have hy2 : y.1 ∈ (cnt ws).map Prod.fst := List.mem_map_of_mem hy
  rw [cnt_keys] at hy2
  exact ⟨y.1, hy2, e.symm⟩
/-- Counts of one count's parts are one. -/
theorem cnt_one {tx tx' : Tree → ByteArray} {g h : GraphP} {s t : StatP} (hs : CntIs tx g (fun a b => ¬ cfL b a < 0) (fun a b => ¬ cfL b a < 0) (fun a b => ¬ cfE b a < 0) (fun a b => ¬ cfK b a < 0) s) (ht : CntIs tx' h (fun a b => ¬ cfL b a < 0) (fun a b => ¬ cfL b a < 0) (fun a b => ¬ cfE b a < 0) (fun a b => ¬ cfK b a < 0) t)
    (e1 : g.nodes.length = h.nodes.length) (e2 : g.rels.length = h.rels.length) (e3 : labelsOf g.nodes = labelsOf h.nodes) (e4 : (g.rels.map fun r => r.type) = h.rels.map fun r => r.type) (e5 : endsOf g.nodes (cnt (jointsOf g.rels)) = endsOf h.nodes (cnt (jointsOf h.rels))) (e6 : itemsOf tx g.nodes = itemsOf tx' h.nodes) : s = t := by
  have k1 : s.labels = t.labels := by
    refine rows_one goodL.2.1 hs.l1 hs.l2 (by rw [e3]; exact ht.l1) ht.l2 fun p hp q hq e => ?_
    have e0 : p.1.1 = q.1.1 := cmpB_same e
    have z1 := (tally_zero hp).1
    have z2 := (tally_zero hq).1
    rw [fst_one (tally_nodup _) hp hq (Prod.ext e0 (z1.trans z2.symm))]
  have k2 : s.types = t.types := by
    refine rows_one goodL.2.1 hs.t1 hs.t2 (by rw [e4]; exact ht.t1) ht.t2 fun p hp q hq e => ?_
    have e0 : p.1.1 = q.1.1 := cmpB_same e
    have z1 := (tally_zero hp).1
    have z2 := (tally_zero hq).1
    rw [fst_one (tally_nodup _) hp hq (Prod.ext e0 (z1.trans z2.symm))]
  have k3 : s.ends = t.ends := by
    refine rows_one goodE.2.1 hs.e1 hs.e2 (by rw [e5]; exact ht.e1) ht.e2 fun p hp q hq e => ?_
    have e0 := cfE_same e
    simp only [Prod.mk.injEq] at e0
    obtain ⟨_, _, _, _, _, z1⟩ := ends_key hp
    obtain ⟨_, _, _, _, _, z2⟩ := ends_key hq
    rw [fst_one (gather_nodup _) hp hq (Prod.ext e0.1 (Prod.ext e0.2.1 (Prod.ext e0.2.2 (z1.trans z2.symm))))]
  have k4 : s.keys = t.keys := by
    refine rows_one goodK.2.1 hs.k1 hs.k2 (by rw [e6]; exact ht.k1) ht.k2 fun p hp q hq e => ?_
    have e0 := cfK_same e
    simp only [Prod.mk.injEq] at e0
    obtain ⟨x, hx, z1⟩ := keys_key hp
    obtain ⟨y, hy, z2⟩ := keys_key hq
    have w1 := (kAll_facts _).2.2.2 x hx
    have w2 := (kAll_facts _).2.2.2 y hy
    have e1 : p.1.1 = q.1.1 := e0.1
    have e2 : p.1.2.1 = q.1.2.1 := e0.2
    have e3 : p.1.2.2 = q.1.2.2 := by rw [z1, z2, w1, w2]
    rw [fst_one (gather_nodup _) hp hq (Prod.ext e1 (Prod.ext e2 e3))]
  have k5 : s.nodes = t.nodes := by rw [hs.n, ht.n, e1]
  have k6 : s.rels = t.rels := by rw [hs.r, ht.r, e2]
  cases s; cases t
  simp only at k1 k2 k3 k4 k5 k6
  subst k1 k2 k3 k4 k5 k6
  rfl
end Go.Proofs.YthfilnflgahcjaaGreatDoor

namespace Go.Proofs.YthfilnflgahcjaaGreatDoor
open Go.RowKit Go.Shelf
set_option linter.unusedVariables false
set_option linter.unusedSimpArgs false
def movN (b : Int) (n : NodeP) : NodeP := ⟨n.id + b, n.labels, n.props⟩
def movR (b : Int) (r : RelP) : RelP := ⟨r.id + b, r.fr + b, r.tt + b, r.type, r.props⟩
def movG (b : Int) (g : GraphP) : GraphP := ⟨g.nodes.map (movN b), g.rels.map (movR b), g.nn + b, g.nr + b⟩
theorem mov_labels (b : Int) (ns : List NodeP) : labelsOf (ns.map (movN b)) = labelsOf ns := by
  unfold labelsOf; rw [List.flatMap_map]; rfl
theorem mov_items (tx : Tree → ByteArray) (b : Int) (ns : List NodeP) : itemsOf tx (ns.map (movN b)) = itemsOf tx ns := by
  unfold itemsOf; rw [List.flatMap_map]; rfl
theorem mov_types (b : Int) (rs : List RelP) : (rs.map (movR b)).map (fun r => r.type) = rs.map fun r => r.type := by
  rw [List.map_map]; rfl
theorem mov_labsAt (b : Int) (i : Int) : ∀ ns : List NodeP, labsAt (ns.map (movN b)) (i + b) = labsAt ns i
  | [] => rfl
  | n :: r => by
    rw [List.map_cons, labsAt, labsAt, mov_labsAt b i r]
    by_cases h : n.id = i
    · rw [if_pos h, if_pos (show (movN b n).id = i + b by show n.id + b = i + b; omega)]; rfl
    · rw [if_neg h, if_neg (show ¬ (movN b n).id = i + b from fun e => h (by have e : n.id + b = i + b := e; omega))]
def movJ (b : Int) (j : JointR) : JointR := (j.1 + b, j.2)
theorem mov_joints (b : Int) (rs : List RelP) : jointsOf (rs.map (movR b)) = (jointsOf rs).map (movJ b) := by
  unfold jointsOf
  rw [List.flatMap_map, List.map_flatMap]
  rfl
theorem mov_bump {α β : Type} [DecidableEq α] [DecidableEq β] {f : α → β} (hf : ∀ x y, f x = f y → x = y) (k : α) (d : Int) : ∀ cs : List (α × Int), bump (f k) d (cs.map fun p => (f p.1, p.2)) = (bump k d cs).map fun p => (f p.1, p.2)
  | [] => rfl
  | (a, n) :: r => by
    rw [List.map_cons, bump, bump]
    by_cases h : a = k
    · subst h; rw [if_pos rfl, if_pos rfl]; rfl
    · rw [if_neg h, if_neg (fun e => h (hf _ _ e)), mov_bump hf k d r]; rfl
theorem mov_cnt {α β : Type} [DecidableEq α] [DecidableEq β] {f : α → β} (hf : ∀ x y, f x = f y → x = y) (ts : List α) : cnt (ts.map f) = (cnt ts).map fun p => (f p.1, p.2) := by
  unfold cnt
  suffices h : ∀ (ts : List α) (cs : List (α × Int)), (ts.map f).foldl (fun cs t => bump t 1 cs) (cs.map fun p => (f p.1, p.2)) = (ts.foldl (fun cs t => bump t 1 cs) cs).map fun p => (f p.1, p.2) from h ts []
  intro ts
  induction ts with
  | nil => intro cs; rfl
  | cons t r ih => intro cs; rw [List.map_cons, List.foldl_cons, List.foldl_cons, mov_bump hf, ih]
theorem mov_ends (b : Int) (g : GraphP) : endsOf (movG b g).nodes (cnt (jointsOf (movG b g).rels)) = endsOf g.nodes (cnt (jointsOf g.rels)) := by
  show endsOf (g.nodes.map (movN b)) (cnt (jointsOf (g.rels.map (movR b)))) = _
  rw [mov_joints, mov_cnt (fun x y e => by
    obtain ⟨x1, x2⟩ := x
    obtain ⟨y1, y2⟩ := y
    simp only [movJ, Prod.mk.injEq] at e ⊢
    exact ⟨by omega, e.2⟩)]
  unfold endsOf
  rw [List.flatMap_map]
  congr 1
  funext p
  unfold outOf
  rw [show (movJ b p.1).1 = p.1.1 + b from rfl, mov_labsAt]
  rfl
theorem mov_gZN (b : Int) : ∀ (ns : List NodeP) (n : Int), gZ fN n (ns.map (movN b)) = gZ fN n ns
  | [], n => rfl
  | x :: r, n => by
    rw [List.map_cons, gZ, gZ, show fN n (movN b x) = fN n x from rfl, mov_gZN b r]
theorem mov_gZR (b : Int) : ∀ (ns : List RelP) (n : Int), gZ fR n (ns.map (movR b)) = gZ fR n ns
  | [], n => rfl
  | x :: r, n => by
    rw [List.map_cons, gZ, gZ, show fR n (movR b x) = fR n x from rfl, mov_gZR b r]
theorem mov_small (b : Int) (g : GraphP) : smallG (movG b g) = smallG g := by
  unfold smallG movG
  simp only [List.length_map, mov_gZN, mov_gZR]
theorem mov_rise {b next : Int} (h1 : 0 ≤ b) (h2 : next + b ≤ 4611686018427387904) : ∀ (ks : List Int) (l : Int), 0 ≤ l → riseI next l ks = true → ∀ l', l' ≤ l + b → riseI (next + b) l' (ks.map (· + b)) = true
  | [], l, hl, h, l', hl' => by
    simp only [List.map_nil, riseI, Bool.and_eq_true, decide_eq_true_eq] at h ⊢
    omega
  | x :: r, l, hl, h, l', hl' => by
    simp only [List.map_cons, riseI, Bool.and_eq_true, Bool.not_eq_true', decide_eq_false_iff_not] at h ⊢
    exact ⟨by omega, by omega, mov_rise h1 h2 r (x + 1) (by omega) h.2.2 _ (by omega)⟩
theorem mov_labelsB (b : Int) : ∀ ns : List NodeP, labelsB (ns.map (movN b)) = labelsB ns
  | [] => rfl
  | n :: r => by rw [List.map_cons, labelsB, labelsB, mov_labelsB b r]; rfl
theorem mov_nodePropsB (b : Int) : ∀ ns : List NodeP, nodePropsB (ns.map (movN b)) = nodePropsB ns
  | [] => rfl
  | n :: r => by rw [List.map_cons, nodePropsB, nodePropsB, mov_nodePropsB b r]; rfl
theorem mov_typesB (b : Int) : ∀ ns : List RelP, typesB (ns.map (movR b)) = typesB ns
  | [] => rfl
  | n :: r => by rw [List.map_cons, typesB, typesB, mov_typesB b r]; rfl
theorem mov_relPropsB (b : Int) : ∀ ns : List RelP, relPropsB (ns.map (movR b)) = relPropsB ns
  | [] => rfl
  | n :: r => by rw [List.map_cons, relPropsB, relPropsB, mov_relPropsB b r]; rfl
theorem mov_has (b i : Int) : ∀ ns : List NodeP, hasB (i + b) (idsE (ns.map (movN b))) = hasB i (idsE ns)
  | [] => rfl
  | n :: r => by
    have h := mov_has b i r
    unfold hasB idsE at h ⊢
    rw [List.map_cons, List.map_cons, List.map_cons, List.any_cons, List.any_cons, h]
    congr 1
    show ((n.id + b == i + b) : Bool) = (n.id == i)
    by_cases e : n.id = i
    · rw [e, beq_self_eq_true, beq_self_eq_true]
    · have e2 : ¬ n.id + b = i + b := by omega
      rw [beq_eq_false_iff_ne.2 e, beq_eq_false_iff_ne.2 e2]
theorem mov_endsB (b : Int) (ns : List NodeP) : ∀ rs : List RelP, endsB (idsE (ns.map (movN b))) (rs.map (movR b)) = endsB (idsE ns) rs
  | [] => rfl
  | r :: t => by
    rw [List.map_cons, endsB, endsB, mov_endsB b ns t, show (movR b r).fr = r.fr + b from rfl, show (movR b r).tt = r.tt + b from rfl, mov_has, mov_has]
theorem mov_check {b : Int} {g : GraphP} (h0 : 0 ≤ b) (h1 : b ≤ 1099511627776) (h2 : g.nn ≤ 1152921504606846976) (h3 : g.nr ≤ 1152921504606846976) (h : checkPB g = true) : checkPB (movG b g) = true := by
  simp only [checkPB, Bool.and_eq_true] at h
  obtain ⟨a1, ⟨a2, a3⟩, a4, ⟨a5, a6⟩, a7, a8⟩ := h
  simp only [checkPB, Bool.and_eq_true]
  have e1 : (movG b g).nodes.map NodeP.id = (g.nodes.map NodeP.id).map (· + b) := by
    show (g.nodes.map (movN b)).map NodeP.id = _
    rw [List.map_map, List.map_map]; rfl
  have e2 : (movG b g).rels.map RelP.id = (g.rels.map RelP.id).map (· + b) := by
    show (g.rels.map (movR b)).map RelP.id = _
    rw [List.map_map, List.map_map]; rfl
  refine ⟨?_, ⟨?_, ?_⟩, ?_, ⟨?_, ?_⟩, ?_, ?_⟩
  · show decide (((g.nodes.map (movN b)).length : Int) + ((g.rels.map (movR b)).length : Int) ≤ 65536) = true
    rw [List.length_map, List.length_map]; exact a1
  · rw [e1]; exact mov_rise h0 (by omega) _ 0 (Int.le_refl _) a2 0 (by omega)
  · rw [e2]; exact mov_rise h0 (by omega) _ 0 (Int.le_refl _) a3 0 (by omega)
  · exact (mov_labelsB b g.nodes).trans a4
  · exact (mov_nodePropsB b g.nodes).trans a5
  · exact (mov_relPropsB b g.rels).trans a6
  · exact (mov_typesB b g.rels).trans a7
  · exact (mov_endsB b g.nodes g.rels).trans a8
/-- Counts do not hang on numbers. -/
theorem mov_counts {tx : Tree → ByteArray} {b : Int} {g : GraphP} {s t : StatP} (hs : CntIs tx g (fun a b => ¬ cfL b a < 0) (fun a b => ¬ cfL b a < 0) (fun a b => ¬ cfE b a < 0) (fun a b => ¬ cfK b a < 0) s) (ht : CntIs tx (movG b g) (fun a b => ¬ cfL b a < 0) (fun a b => ¬ cfL b a < 0) (fun a b => ¬ cfE b a < 0) (fun a b => ¬ cfK b a < 0) t) : s = t :=
  cnt_one hs ht (by show _ = (g.nodes.map (movN b)).length; rw [List.length_map]) (by show _ = (g.rels.map (movR b)).length; rw [List.length_map]) (mov_labels b g.nodes).symm (mov_types b g.rels).symm (mov_ends b g).symm (mov_items tx b g.nodes).symm
end Go.Proofs.YthfilnflgahcjaaGreatDoor

namespace Go.Proofs.YthfilnflgahcjaaGreatDoor
open Go.RowKit Go.Shelf
set_option linter.unusedVariables false
set_option linter.unusedSimpArgs false
theorem w64_of {n : Int} (h : -9223372036854775808 ≤ n ∧ n ≤ 9223372036854775807) : W64 n := w64 h.1 h.2
theorem kAll_mem (its : List ItemR) : ∀ x ∈ (kAll its).2, ∃ it ∈ its, x.1.1 ∈ it.1 ∧ x.1.2.1 = it.2.1 := by
  suffices h : ∀ (its : List ItemR) (s : List ByteArray × List WorR), ∀ x ∈ (its.foldl kStep s).2, x ∈ s.2 ∨ ∃ it ∈ its, x.1.1 ∈ it.1 ∧ x.1.2.1 = it.2.1 by
    intro x hx
    rcases h its ([], []) x hx with h | h
    · simp at h
    · exact h
  intro its
  induction its with
  | nil => intro s x hx; exact .inl hx
  | cons i r ih =>
    intro s x hx
    rw [List.foldl_cons] at hx
    rcases ih _ x hx with h | ⟨it, h1, h2⟩
    · unfold kStep at h
      simp only [List.mem_append, List.mem_map] at h
      rcases h with h | ⟨l, hl, rfl⟩
      · exact .inl h
      · exact .inr ⟨i, List.mem_cons_self, hl, rfl⟩
    · exact .inr ⟨it, List.mem_cons_of_mem _ h1, h2⟩
/-- What a small graph's counts are at most. -/
structure CntB (s : StatP) : Prop where
  w : StatW s
  l : s.labels.length ≤ 3000
  t : s.types.length ≤ 60
  e : s.ends.length ≤ 900000
  k : s.keys.length ≤ 900000
theorem cnt_bounds {g : GraphP} {s : StatP} {leL leT : ByteArray × Int → ByteArray × Int → Prop} {leE : EndR → EndR → Prop} {leK : KeyR → KeyR → Prop} (hs : smallG g = true) (hf : CntFit txG g 900000 3000) (hc : CntIs txG g leL leT leE leK s) : CntB s := by
  obtain ⟨hw1, hw2⟩ := small_weighs hs
  have h3 := sum_pos nodeW_pos g.nodes
  have h4 := sum_pos (fun x => Int.le_trans (by omega) (relW_pos x)) g.rels
  have hL := labs_sum g.nodes
  have hlab : ∀ n ∈ g.nodes, ∀ l ∈ n.labels, l.size ≤ 3000 := fun n hn => (small_node_parts hs hn).2.1
  have hkey : ∀ n ∈ g.nodes, ∀ q ∈ n.props, q.1.size ≤ 3000 := fun n hn q hq => ((small_node_parts hs hn).2.2.2 q hq).1
  have htyp : ∀ r ∈ g.rels, r.type.size ≤ 3000 := fun r hr => (small_rel_parts hs hr).1
  have hw : ∀ {n : Int}, 0 ≤ n → n ≤ 9000000000000000000 → W64 n := fun h1 h2 => w64_of ⟨by omega, by omega⟩
  have hll : (labelsOf g.nodes).length ≤ 3000 := by omega
  refine ⟨⟨by rw [hc.n]; exact hw (by omega) (by omega), by rw [hc.r]; exact hw (by omega) (by omega), ?_, ?_, ?_, ?_⟩, ?_, ?_, ?_, ?_⟩
  · intro x hx
    obtain ⟨p, hp, rfl⟩ := List.mem_map.1 (hc.l1.mem_iff.1 hx)
    obtain ⟨_, h6⟩ := tally_zero hp
    obtain ⟨n, hn, hl⟩ := List.mem_flatMap.1 h6
    have h7 := ((mem_count (tally_nodup _)).1 (show (p.1, p.2) ∈ tally (labelsOf g.nodes) from hp)).2
    have h8 := tally_count (labelsOf g.nodes) p.1
    exact ⟨hlab n hn _ hl, hw (by simp only; omega) (by simp only; omega)⟩
  · intro x hx
    obtain ⟨p, hp, rfl⟩ := List.mem_map.1 (hc.t1.mem_iff.1 hx)
    obtain ⟨_, h6⟩ := tally_zero hp
    obtain ⟨r, hr, e⟩ := List.mem_map.1 h6
    have h7 := ((mem_count (tally_nodup _)).1 (show (p.1, p.2) ∈ tally (g.rels.map fun r => r.type) from hp)).2
    have h8 := tally_count (g.rels.map fun r => r.type) p.1
    rw [List.length_map] at h8
    refine ⟨?_, hw (by simp only; omega) (by simp only; omega)⟩
    simp only
    rw [← e]; exact htyp r hr
  · intro x hx
    obtain ⟨p, hp, rfl⟩ := List.mem_map.1 (hc.e1.mem_iff.1 hx)
    obtain ⟨q, hq, e1, e2, e3, e4⟩ := ends_key hp
    have hj : q.1 ∈ (cnt (jointsOf g.rels)).map Prod.fst := List.mem_map_of_mem hq
    rw [cnt_keys] at hj
    obtain ⟨r, hr, hj⟩ := List.mem_flatMap.1 hj
    obtain ⟨n, hn, _, hl⟩ := labsAt_mem e2
    have hty : p.1.1.size ≤ 3000 := by
      rw [e1]
      simp only [List.mem_cons, List.not_mem_nil, or_false] at hj
      rcases hj with e | e <;> rw [e] <;> exact htyp r hr
    have h7 := ((mem_count (gather_nodup _)).1 (show (p.1, p.2) ∈ gather (endsOf g.nodes (cnt (jointsOf g.rels))) from hp)).2
    rw [gather_count] at h7
    have h8 := sumAt_le (x := p.1) (c := 120) (by omega) (l := endsOf g.nodes (cnt (jointsOf g.rels))) fun y hy => by
      obtain ⟨z, hz, hy⟩ := List.mem_flatMap.1 hy
      obtain ⟨l, _, rfl⟩ := List.mem_map.1 hy
      have := cnt_vals (jointsOf g.rels) z hz
      have h9 := jointsOf_len g.rels
      simp only
      omega
    have h9 := endsOf_len g.nodes 3000 (labsAt_le hf.kk) (cnt (jointsOf g.rels))
    have h10 := cnt_len (jointsOf g.rels)
    have h11 := jointsOf_len g.rels
    exact ⟨hty, hlab n hn _ hl, hw (by simp only; omega) (by simp only; omega)⟩
  · intro x hx
    obtain ⟨p, hp, rfl⟩ := List.mem_map.1 (hc.k1.mem_iff.1 hx)
    obtain ⟨y, hy, e1⟩ := keys_key hp
    obtain ⟨it, hit, e2, e3⟩ := kAll_mem _ y hy
    obtain ⟨n, hn, hit⟩ := List.mem_flatMap.1 hit
    obtain ⟨q, hq, rfl⟩ := List.mem_map.1 hit
    have hwl := hf.wl
    have hlen := (kAll_facts (itemsOf txG g.nodes)).2.2.1
    have h5 := cnt_len (kAll (itemsOf txG g.nodes)).2
    have h7 := ((mem_count (gather_nodup _)).1 (show (p.1, p.2) ∈ nodesK (kAll (itemsOf txG g.nodes)).2 from hp)).2
    unfold nodesK at h7
    rw [gather_count] at h7
    have h8 := sumAt_le (x := p.1) (c := 100000000) (by omega) (l := (cnt (kAll (itemsOf txG g.nodes)).2).map fun p => (p.1.1, p.2)) fun y hy => by
      obtain ⟨z, hz, rfl⟩ := List.mem_map.1 hy
      have := cnt_vals _ z hz
      simp only
      omega
    have h9 := sumAt_le (x := p.1) (c := 1) (by omega) (l := (cnt (kAll (itemsOf txG g.nodes)).2).map fun p => (p.1.1, (1 : Int))) fun y hy => by
      obtain ⟨z, hz, rfl⟩ := List.mem_map.1 hy
      simp only
      omega
    rw [List.length_map] at h8 h9
    refine ⟨?_, ?_, hw ?_ ?_, hw ?_ ?_⟩
    · show p.1.1.size ≤ 3000
      rw [e1]; exact hlab n hn _ e2
    · show p.1.2.1.size ≤ 3000
      rw [e1, e3]; exact hkey n hn q hq
    · show 0 ≤ p.2; omega
    · show p.2 ≤ _; omega
    · show 0 ≤ countOf p.1 (valuesK _); unfold valuesK; rw [gather_count]; omega
    · show countOf p.1 (valuesK _) ≤ _; unfold valuesK; rw [gather_count]; omega
  · have := hc.l1.length_eq
    have h5 := tally_len (labelsOf g.nodes)
    rw [List.length_map] at this; omega
  · have := hc.t1.length_eq
    have h5 := tally_len (g.rels.map fun r => r.type)
    rw [List.length_map] at this h5; omega
  · have := hc.e1.length_eq
    rw [List.length_map] at this; have := hf.ce; omega
  · have := hc.k1.length_eq
    unfold keysK at this
    rw [List.length_map] at this; have := hf.ck; omega
theorem cnt_lies {base : Nat} {w : World} {vl vt ve vk : Value} {s : StatP} (hb : CntB s) (h : CntL base w vl vt ve vk s) : StatL w.heap.size w vl vt ve vk s := by
  have ok : ∀ {x : ByteArray}, x.size ≤ 3000 → okS x := fun h => Nat.le_trans h (by decide)
  exact ⟨h.l.srow (fun _ => rfl), h.t.srow (fun _ => rfl), h.e.srow (fun _ => rfl), h.k.srow (fun _ => rfl), fun x hx => ok (hb.w.l x hx).1, fun x hx => ok (hb.w.t x hx).1, fun x hx => ⟨ok (hb.w.e x hx).1, ok (hb.w.e x hx).2.1, (hb.w.e x hx).2.2⟩, fun x hx => ⟨ok (hb.w.k x hx).1, ok (hb.w.k x hx).2.1, (hb.w.k x hx).2.2⟩, by have := hb.l; omega, by have := hb.t; omega, hb.e, hb.k⟩
end Go.Proofs.YthfilnflgahcjaaGreatDoor

namespace Go.Proofs.YthfilnflgahcjaaGreatDoor
open Go.RowKit Go.Shelf
set_option linter.unusedVariables false
set_option linter.unusedSimpArgs false
/-- Sums over lists. -/
def isum {α : Type} (f : α → Int) : List α → Int
  | [] => 0
  | x :: r => f x + isum f r
section
variable {α : Type} [DecidableEq α]
end
section
variable {α : Type} [DecidableEq α]
end
theorem gofirst_hit1 {R K : Type} [DecidableEq K] {key : R → K} : ∀ {rows : List R}, (rows.map key).Nodup → ∀ r ∈ rows, goFirst key rows [key r] = ([r], [])
  | x :: rs, h, r, hr => by
    simp only [List.map_cons, List.nodup_cons] at h
    rw [goFirst, if_neg (by simp)]
    rcases List.mem_cons.1 hr with rfl | hr
    · rw [if_pos (by simp)]
      have e : delS (key r) [key r] = [] := by simp [delS]
      rw [e, goFirst_none]
    · have hne : key x ≠ key r := fun e => h.1 (e ▸ List.mem_map_of_mem hr)
      rw [if_neg (by simpa using hne)]
      exact gofirst_hit1 h.2 r hr
theorem firsts_hit {R K : Type} [DecidableEq K] {key : R → K} {zero : R} {rows : List R} (h : (rows.map key).Nodup) {r : R} (hr : r ∈ rows) : firstsL key zero rows [key r] = [r] := by
  unfold firstsL
  have e : [key r].foldl putS [] = [key r] := by simp [putS]
  rw [e, gofirst_hit1 h r hr]
  rfl
theorem firsts_hit2 {R K : Type} [DecidableEq K] {key : R → K} {zero : R} {rows : List R} (h : (rows.map key).Nodup) {r : R} (hr : r ∈ rows) : firstsL key zero rows [key r, key r] = [r] := by
  unfold firstsL
  have e : [key r, key r].foldl putS [] = [key r] := by simp [putS]
  rw [e, gofirst_hit1 h r hr]
  rfl
/-- How often a text is in a row. -/
def oftenI (t : ByteArray) (ts : List ByteArray) : Int := isum (fun x => if x = t then 1 else 0) ts
/-- Rows of texts and numbers that stand for a tally, in order. -/
structure RowsOf (xs : List (ByteArray × Int)) (ts : List ByteArray) : Prop where
  all : isum (fun x => x.2) xs = ts.length
  val : ∀ x ∈ xs, x.2 = oftenI x.1 ts ∧ 1 ≤ x.2 ∧ x.1 ∈ ts
  hit : ∀ t ∈ ts, (t, oftenI t ts) ∈ xs
  nd : (xs.map Prod.fst).Nodup
  up : xs.Pairwise fun a b => cmpB a.1 b.1 < 0
theorem RowsOf.first {xs : List (ByteArray × Int)} {ts : List ByteArray} (h : RowsOf xs ts) {x : ByteArray × Int} (hx : x ∈ xs) (zero : ByteArray × Int) : firstsL Prod.fst zero xs [x.1] = [x] ∧ firstsL Prod.fst zero xs [x.1, x.1] = [x] := ⟨firsts_hit h.nd hx, firsts_hit2 h.nd hx⟩
/-- What is counted of a graph. -/
def CntA (g : GraphP) (s : StatP) : Prop := CntIs txG g (fun a b => ¬ cfL b a < 0) (fun a b => ¬ cfL b a < 0) (fun a b => ¬ cfE b a < 0) (fun a b => ¬ cfK b a < 0) s
theorem may_b {g : GraphP} {s : StatP} (hs : smallG g = true) (hok : checkPB g = true) (hfr : ∀ r ∈ g.rels, W64 r.fr ∧ W64 r.tt) (hid : ∀ n ∈ g.nodes, W64 n.id) (hc : CntIs txG g (fun a b => ¬ cfL b a < 0) (fun a b => ¬ cfL b a < 0) (fun a b => ¬ cfE b a < 0) (fun a b => ¬ cfK b a < 0) s) : CntB s := by
  have hk := hok
  simp only [checkPB, Bool.and_eq_true] at hk
  obtain ⟨_, ⟨h1, _⟩, h3, _⟩ := hk
  exact cnt_bounds hs (small_fit txG hs (fun n hn => by have := labelsB_bytes h3 n hn; omega) hfr (riseI_all h1).2 hid) hc
end Go.Proofs.YthfilnflgahcjaaGreatDoor

