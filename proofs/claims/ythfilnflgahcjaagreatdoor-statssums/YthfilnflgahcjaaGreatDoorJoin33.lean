/- Every small graph that may be is counted. What a graph that may be lends to its counts. Rows in order are one list; counts of things that are moved; how great a small graph's counts are. Where a small graph's counts lie, and how great they are. -/
import Derived.Test.YthfilnflgahcjaaGreatDoorJoin29
import Derived.Test.YthfilnflgahcjaaGreatDoorJoin14
import Derived.Test.YthfilnflgahcjaaGreatDoorJoin32
import Derived.Test.YthfilnflgahcjaaGreatDoorJoin27
namespace Go.Proofs.YthfilnflgahcjaaGreatDoor
open Go.RowKit Go.Shelf
set_option linter.unusedVariables false
set_option linter.unusedSimpArgs false
/-- A value's text. -/
def txG (T : Tree) : ByteArray := ⟨(tellG T).toArray⟩
theorem count_small (g : GraphP) (v : Value) (B : Nat) (w : World) (hB : B ≤ w.heap.size) (hE : Env2 w) (h : GraphLies B w v g) (hs : smallG g = true) (hn1 : -9223372036854775808 ≤ g.nn ∧ g.nn ≤ 9223372036854775807) (hn2 : -9223372036854775808 ≤ g.nr ∧ g.nr ≤ 9223372036854775807) (hok : checkPB g = true)
    (hlab : ∀ n ∈ g.nodes, (n.labels.length : Int) ≤ keyBytes n.labels + 1) (hfr : ∀ r ∈ g.rels, W64 r.fr ∧ W64 r.tt) (hnd : (g.nodes.map NodeP.id).Nodup) (hid : ∀ n ∈ g.nodes, W64 n.id)
    (hran : ∀ n ∈ g.nodes, ∀ p ∈ n.props, Ranged p.2) (hchk : ∀ n ∈ g.nodes, ∀ p ∈ n.props, checkN p.2 = 0) :
    Calls Tryz.prog 11 #[v] w fun e w' => ∃ s vl vt ve vk, e = .returned (.tuple #[statV s vl vt ve vk, .int .i64 0]) ∧ CntIs txG g (fun a b => ¬ cfL b a < 0) (fun a b => ¬ cfL b a < 0) (fun a b => ¬ cfE b a < 0) (fun a b => ¬ cfK b a < 0) s ∧ CntL w.heap.size w' vl vt ve vk s ∧ Below w.heap.size w w' := by
  refine count_good (most := 900000) (fun W v base xs h1 h2 h3 => sort84_whole W v base xs h1 (by omega) h3) (fun W v base xs h1 h2 h3 => sort88_whole W v base xs h1 (by omega) h3) (fun W v base xs h1 h2 h3 => sort92_whole W v base xs h1 (by omega) h3) (fun W v base xs h1 h2 h3 => sort98_whole W v base xs h1 (by omega) h3) (by omega) txG 3000 g v B w hB hE.e h (small_mild hs) hn1 hn2 (small_fit txG hs hlab hfr hnd hid) hok ?_
  intro n hn p hp
  have ht := ((small_node_parts hs hn).2.2.2 p hp).2
  have hr := hran n hn p hp
  refine ⟨?_, fun W u hb hl => ?_⟩
  · have h1 := tellG_len p.2 hr
    have h2 : (txG p.2).size = (tellG p.2).length := by simp [txG, ByteArray.size]
    unfold okS maxLen
    omega
  · exact Text_anyG p.2 (hchk n hn p hp) hr (by omega) (small_modest ht) B u W (Nat.le_trans hB hb.size) hl (hE.below hb)
end Go.Proofs.YthfilnflgahcjaaGreatDoor

namespace Go.Proofs.YthfilnflgahcjaaGreatDoor
open Go.RowKit Go.Shelf
set_option linter.unusedVariables false
set_option linter.unusedSimpArgs false
theorem nrB_bytes : ∀ {ks : List ByteArray} {l : ByteArray}, nrB l ks = true → (ks.length : Int) ≤ keyBytes ks
  | [], _, _ => by simp [keyBytes]
  | x :: r, l, h => by
    simp only [nrB, Bool.and_eq_true] at h
    obtain ⟨h1, _, h3⟩ := h
    have h4 := nrB_bytes h3
    simp only [nameOk, Bool.and_eq_true, decide_eq_true_eq] at h1
    have h5 : x.data.toList.length = x.size := rfl
    rw [keyBytes_cons, List.length_cons]
    omega
theorem labelsB_bytes : ∀ {ns : List NodeP}, labelsB ns = true → ∀ n ∈ ns, (n.labels.length : Int) ≤ keyBytes n.labels
  | x :: r, h, n, hn => by
    simp only [labelsB, Bool.and_eq_true] at h
    rcases List.mem_cons.1 hn with rfl | hn
    · exact nrB_bytes h.1
    · exact labelsB_bytes h.2 n hn
theorem storsB_check : ∀ {ps : List (ByteArray × Tree)}, storsB ps = true → ∀ q ∈ ps, checkN q.2 = 0
  | x :: r, h, q, hq => by
    simp only [storsB, Bool.and_eq_true, decide_eq_true_eq] at h
    rcases List.mem_cons.1 hq with rfl | hq
    · exact h.1.1
    · exact storsB_check h.2 q hq
theorem nodeProps_check : ∀ {ns : List NodeP}, nodePropsB ns = true → ∀ n ∈ ns, ∀ q ∈ n.props, checkN q.2 = 0
  | x :: r, h, n, hn, q, hq => by
    simp only [nodePropsB, mayPB, Bool.and_eq_true] at h
    rcases List.mem_cons.1 hn with rfl | hn
    · exact storsB_check h.1.1 q hq
    · exact nodeProps_check h.2 n hn q hq
/-- Every small graph that may be is counted. -/
theorem count_may (g : GraphP) (v : Value) (B : Nat) (w : World) (hB : B ≤ w.heap.size) (hE : Env2 w) (h : GraphLies B w v g) (hs : smallG g = true) (hn1 : -9223372036854775808 ≤ g.nn ∧ g.nn ≤ 9223372036854775807) (hn2 : -9223372036854775808 ≤ g.nr ∧ g.nr ≤ 9223372036854775807) (hok : checkPB g = true)
    (hfr : ∀ r ∈ g.rels, W64 r.fr ∧ W64 r.tt) (hid : ∀ n ∈ g.nodes, W64 n.id) (hran : ∀ n ∈ g.nodes, ∀ p ∈ n.props, Ranged p.2) :
    Calls Tryz.prog 11 #[v] w fun e w' => ∃ s vl vt ve vk, e = .returned (.tuple #[statV s vl vt ve vk, .int .i64 0]) ∧ CntIs txG g (fun a b => ¬ cfL b a < 0) (fun a b => ¬ cfL b a < 0) (fun a b => ¬ cfE b a < 0) (fun a b => ¬ cfK b a < 0) s ∧ CntL w.heap.size w' vl vt ve vk s ∧ Below w.heap.size w w' := by
  have hk := hok
  simp only [checkPB, Bool.and_eq_true] at hk
  obtain ⟨_, ⟨h1, _⟩, h3, ⟨h4, _⟩, _⟩ := hk
  exact count_small g v B w hB hE h hs hn1 hn2 hok (fun n hn => by have := labelsB_bytes h3 n hn; omega) hfr (riseI_all h1).2 hid hran (nodeProps_check h4)
end Go.Proofs.YthfilnflgahcjaaGreatDoor

namespace Go.Proofs.YthfilnflgahcjaaGreatDoor
open Go.RowKit Go.Shelf
set_option linter.unusedVariables false
set_option linter.unusedSimpArgs false
theorem cmp_zero : ∀ {a b : List UInt8}, Lib.compareBytes a b = 0 → a = b
  | [], [], _ => rfl
  | [], _ :: _, h => by simp [Lib.compareBytes] at h
  | _ :: _, [], h => by simp [Lib.compareBytes] at h
  | a :: r, b :: t, h => by
    rw [Cm.cmpB_eq] at h
    split at h
    · rename_i h0
      have e : a.toNat = b.toNat := by
        unfold Cm.cmpI at h0
        split at h0
        · omega
        · split at h0
          · omega
          · omega
      rw [UInt8.toNat_inj.1 e, cmp_zero h]
    · rename_i h0; exact absurd h h0
theorem cmpB_same {a b : ByteArray} (h : cmpB a b = 0) : a = b := by
  have e := cmp_zero h
  cases a; cases b
  simp only [ByteArray.mk.injEq] at e ⊢
  exact Array.toList_inj.1 e
theorem tally_eq (ts : List ByteArray) : tally ts = gather (ts.map fun t => ((t, (0 : Int)), (1 : Int))) := by
  unfold tally gather
  rw [List.foldl_map]
theorem tally_zero {ts : List ByteArray} {p : (ByteArray × Int) × Int} (hp : p ∈ tally ts) : p.1.2 = 0 ∧ p.1.1 ∈ ts := by
  have h : p.1 ∈ (tally ts).map Prod.fst := List.mem_map_of_mem hp
  rw [tally_eq, gather_keys, List.map_map] at h
  obtain ⟨t, ht, e⟩ := List.mem_map.1 h
  have e : (t, (0 : Int)) = p.1 := e
  rw [← e]; exact ⟨rfl, ht⟩
theorem ends_key {ns : List NodeP} {js : List (JointR × Int)} {p : EndR × Int} (hp : p ∈ gather (endsOf ns js)) : ∃ q ∈ js, p.1.1 = q.1.2.1 ∧ p.1.2.1 ∈ labsAt ns q.1.1 ∧ p.1.2.2.1 = q.1.2.2 ∧ p.1.2.2.2 = 0 := by
  have h : p.1 ∈ (gather (endsOf ns js)).map Prod.fst := List.mem_map_of_mem hp
  rw [gather_keys] at h
  obtain ⟨y, hy, e⟩ := List.mem_map.1 h
  obtain ⟨q, hq, hy⟩ := List.mem_flatMap.1 hy
  obtain ⟨l, hl, rfl⟩ := List.mem_map.1 hy
  rw [← e]
  exact ⟨q, hq, rfl, hl, rfl, rfl⟩
theorem keys_key {ws : List WorR} {p : KeyR × Int} (hp : p ∈ nodesK ws) : ∃ x ∈ ws, p.1 = x.1 := by
  have h : p.1 ∈ (nodesK ws).map Prod.fst := List.mem_map_of_mem hp
  unfold nodesK at h
  rw [gather_keys, List.map_map] at h
  obtain ⟨y, hy, e⟩ := List.mem_map.1 h
  have hy2 : y.1 ∈ (cnt ws).map Prod.fst := List.mem_map_of_mem hy
  rw [cnt_keys] at hy2
  exact ⟨y.1, hy2, e.symm⟩
end Go.Proofs.YthfilnflgahcjaaGreatDoor

namespace Go.Proofs.YthfilnflgahcjaaGreatDoor
open Go.RowKit Go.Shelf
set_option linter.unusedVariables false
set_option linter.unusedSimpArgs false
theorem w64_of {n : Int} (h : -9223372036854775808 ≤ n ∧ n ≤ 9223372036854775807) : W64 n := w64 h.1 h.2
theorem kAll_mem (its : List ItemR) : ∀ x ∈ (kAll its).2, ∃ it ∈ its, x.1.1 ∈ it.1 ∧ x.1.2.1 = it.2.1 := by
  suffices h : ∀ (its : List ItemR) (s : List ByteArray × List WorR), ∀ x ∈ (its.foldl kStep s).2, x ∈ s.2 ∨ ∃ it ∈ its, x.1.1 ∈ it.1 ∧ x.1.2.1 = it.2.1 by
    intro x hx
    rcases h its ([], []) x hx with h | h
    · simp at h
    · exact h
  intro its
  induction its with
  | nil => intro s x hx; exact .inl hx
  | cons i r ih =>
    intro s x hx
    rw [List.foldl_cons] at hx
    rcases ih _ x hx with h | ⟨it, h1, h2⟩
    · unfold kStep at h
      simp only [List.mem_append, List.mem_map] at h
      rcases h with h | ⟨l, hl, rfl⟩
      · exact .inl h
      · exact .inr ⟨i, List.mem_cons_self, hl, rfl⟩
    · exact .inr ⟨it, List.mem_cons_of_mem _ h1, h2⟩
/-- What a small graph's counts are at most. -/
structure CntB (s : StatP) : Prop where
  w : StatW s
  l : s.labels.length ≤ 3000
  t : s.types.length ≤ 60
  e : s.ends.length ≤ 900000
  k : s.keys.length ≤ 900000
theorem cnt_bounds {g : GraphP} {s : StatP} {leL leT : ByteArray × Int → ByteArray × Int → Prop} {leE : EndR → EndR → Prop} {leK : KeyR → KeyR → Prop} (hs : smallG g = true) (hf : CntFit txG g 900000 3000) (hc : CntIs txG g leL leT leE leK s) : CntB s := by
  obtain ⟨hw1, hw2⟩ := small_weighs hs
  have h3 := sum_pos nodeW_pos g.nodes
  have h4 := sum_pos (fun x => Int.le_trans (by omega) (relW_pos x)) g.rels
  have hL := labs_sum g.nodes
  have hlab : ∀ n ∈ g.nodes, ∀ l ∈ n.labels, l.size ≤ 3000 := fun n hn => (small_node_parts hs hn).2.1
  have hkey : ∀ n ∈ g.nodes, ∀ q ∈ n.props, q.1.size ≤ 3000 := fun n hn q hq => ((small_node_parts hs hn).2.2.2 q hq).1
  have htyp : ∀ r ∈ g.rels, r.type.size ≤ 3000 := fun r hr => (small_rel_parts hs hr).1
  have hw : ∀ {n : Int}, 0 ≤ n → n ≤ 9000000000000000000 → W64 n := fun h1 h2 => w64_of ⟨by omega, by omega⟩
  have hll : (labelsOf g.nodes).length ≤ 3000 := by omega
  refine ⟨⟨by rw [hc.n]; exact hw (by omega) (by omega), by rw [hc.r]; exact hw (by omega) (by omega), ?_, ?_, ?_, ?_⟩, ?_, ?_, ?_, ?_⟩
  · intro x hx
    obtain ⟨p, hp, rfl⟩ := List.mem_map.1 (hc.l1.mem_iff.1 hx)
    obtain ⟨_, h6⟩ := tally_zero hp
    obtain ⟨n, hn, hl⟩ := List.mem_flatMap.1 h6
    have h7 := ((mem_count (tally_nodup _)).1 (show (p.1, p.2) ∈ tally (labelsOf g.nodes) from hp)).2
    have h8 := tally_count (labelsOf g.nodes) p.1
    exact ⟨hlab n hn _ hl, hw (by simp only; omega) (by simp only; omega)⟩
  · intro x hx
    obtain ⟨p, hp, rfl⟩ := List.mem_map.1 (hc.t1.mem_iff.1 hx)
    obtain ⟨_, h6⟩ := tally_zero hp
    obtain ⟨r, hr, e⟩ := List.mem_map.1 h6
    have h7 := ((mem_count (tally_nodup _)).1 (show (p.1, p.2) ∈ tally (g.rels.map fun r => r.type) from hp)).2
    have h8 := tally_count (g.rels.map fun r => r.type) p.1
    rw [List.length_map] at h8
    refine ⟨?_, hw (by simp only; omega) (by simp only; omega)⟩
    simp only
    rw [← e]; exact htyp r hr
  · intro x hx
    obtain ⟨p, hp, rfl⟩ := List.mem_map.1 (hc.e1.mem_iff.1 hx)
    obtain ⟨q, hq, e1, e2, e3, e4⟩ := ends_key hp
    have hj : q.1 ∈ (cnt (jointsOf g.rels)).map Prod.fst := List.mem_map_of_mem hq
    rw [cnt_keys] at hj
    obtain ⟨r, hr, hj⟩ := List.mem_flatMap.1 hj
    obtain ⟨n, hn, _, hl⟩ := labsAt_mem e2
    have hty : p.1.1.size ≤ 3000 := by
      rw [e1]
      simp only [List.mem_cons, List.not_mem_nil, or_false] at hj
      rcases hj with e | e <;> rw [e] <;> exact htyp r hr
    have h7 := ((mem_count (gather_nodup _)).1 (show (p.1, p.2) ∈ gather (endsOf g.nodes (cnt (jointsOf g.rels))) from hp)).2
    rw [gather_count] at h7
    have h8 := sumAt_le (x := p.1) (c := 120) (by omega) (l := endsOf g.nodes (cnt (jointsOf g.rels))) fun y hy => by
      obtain ⟨z, hz, hy⟩ := List.mem_flatMap.1 hy
      obtain ⟨l, _, rfl⟩ := List.mem_map.1 hy
      have := cnt_vals (jointsOf g.rels) z hz
      have h9 := jointsOf_len g.rels
      simp only
      omega
    have h9 := endsOf_len g.nodes 3000 (labsAt_le hf.kk) (cnt (jointsOf g.rels))
    have h10 := cnt_len (jointsOf g.rels)
    have h11 := jointsOf_len g.rels
    exact ⟨hty, hlab n hn _ hl, hw (by simp only; omega) (by simp only; omega)⟩
  · intro x hx
    obtain ⟨p, hp, rfl⟩ := List.mem_map.1 (hc.k1.mem_iff.1 hx)
    obtain ⟨y, hy, e1⟩ := keys_key hp
    obtain ⟨it, hit, e2, e3⟩ := kAll_mem _ y hy
    obtain ⟨n, hn, hit⟩ := List.mem_flatMap.1 hit
    obtain ⟨q, hq, rfl⟩ := List.mem_map.1 hit
    have hwl := hf.wl
    have hlen := (kAll_facts (itemsOf txG g.nodes)).2.2.1
    have h5 := cnt_len (kAll (itemsOf txG g.nodes)).2
    have h7 := ((mem_count (gather_nodup _)).1 (show (p.1, p.2) ∈ nodesK (kAll (itemsOf txG g.nodes)).2 from hp)).2
    unfold nodesK at h7
    rw [gather_count] at h7
    have h8 := sumAt_le (x := p.1) (c := 100000000) (by omega) (l := (cnt (kAll (itemsOf txG g.nodes)).2).map fun p => (p.1.1, p.2)) fun y hy => by
      obtain ⟨z, hz, rfl⟩ := List.mem_map.1 hy
      have := cnt_vals _ z hz
      simp only
      omega
    have h9 := sumAt_le (x := p.1) (c := 1) (by omega) (l := (cnt (kAll (itemsOf txG g.nodes)).2).map fun p => (p.1.1, (1 : Int))) fun y hy => by
      obtain ⟨z, hz, rfl⟩ := List.mem_map.1 hy
      simp only
      omega
    rw [List.length_map] at h8 h9
    refine ⟨?_, ?_, hw ?_ ?_, hw ?_ ?_⟩
    · show p.1.1.size ≤ 3000
      rw [e1]; exact hlab n hn _ e2
    · show p.1.2.1.size ≤ 3000
      rw [e1, e3]; exact hkey n hn q hq
    · show 0 ≤ p.2; omega
    · show p.2 ≤ _; omega
    · show 0 ≤ countOf p.1 (valuesK _); unfold valuesK; rw [gather_count]; omega
    · show countOf p.1 (valuesK _) ≤ _; unfold valuesK; rw [gather_count]; omega
  · have := hc.l1.length_eq
    have h5 := tally_len (labelsOf g.nodes)
    rw [List.length_map] at this; omega
  · have := hc.t1.length_eq
    have h5 := tally_len (g.rels.map fun r => r.type)
    rw [List.length_map] at this h5; omega
  · have := hc.e1.length_eq
    rw [List.length_map] at this; have := hf.ce; omega
  · have := hc.k1.length_eq
    unfold keysK at this
    rw [List.length_map] at this; have := hf.ck; omega
theorem cnt_lies {base : Nat} {w : World} {vl vt ve vk : Value} {s : StatP} (hb : CntB s) (h : CntL base w vl vt ve vk s) : StatL w.heap.size w vl vt ve vk s := by
  have ok : ∀ {x : ByteArray}, x.size ≤ 3000 → okS x := fun h => Nat.le_trans h (by decide)
  exact ⟨h.l.srow (fun _ => rfl), h.t.srow (fun _ => rfl), h.e.srow (fun _ => rfl), h.k.srow (fun _ => rfl), fun x hx => ok (hb.w.l x hx).1, fun x hx => ok (hb.w.t x hx).1, fun x hx => ⟨ok (hb.w.e x hx).1, ok (hb.w.e x hx).2.1, (hb.w.e x hx).2.2⟩, fun x hx => ⟨ok (hb.w.k x hx).1, ok (hb.w.k x hx).2.1, (hb.w.k x hx).2.2⟩, by have := hb.l; omega, by have := hb.t; omega, hb.e, hb.k⟩
end Go.Proofs.YthfilnflgahcjaaGreatDoor

