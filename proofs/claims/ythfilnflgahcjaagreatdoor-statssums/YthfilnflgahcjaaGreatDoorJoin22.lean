/- What was counted, in order. What nodes have under their keys, numbered as it comes; what is counted of it. -/
import Derived.Test.YthfilnflgahcjaaGreatDoorJoin7
import Derived.Maps.RangeRun
import Derived.Test.YthfilnflgahcjaaGreatDoorJoin9
import Derived.Test.YthfilnflgahcjaaGreatDoorJoin21
namespace Go.Proofs.YthfilnflgahcjaaGreatDoor
open Go.RowKit Go.Shelf Go.Maps
set_option linter.unusedVariables false
set_option linter.unusedSimpArgs false
attribute [local go_sem] Oper.semAt_some
/-- A row with its numbers. -/
def numK (vs : List (KeyR × Int)) (p : KeyR × Int) : KeyR := (p.1.1, p.1.2.1, p.2, countOf p.1 vs)
structure Rowing98 (vs : List (KeyR × Int)) (w : World) (ar : Array MapEntry) (clock b r : Nat) (wr : World) (v : Value) (seen : Array Nat) (c0 : Nat) (done : List MapEntry) (D : List ((KeyR) × Int)) : Prop where
  it : wr.heap[r]? = some (.mapIter (some b) clock seen c0)
  cl : clock ≤ c0
  bw : Below w.heap.size w wr
  row : ORow 66 4 keyC (r + 1) wr v (D.map (numK vs))
  dn : D.map (fun p => (keyV p.1, Value.int .i64 p.2)) = done.map (fun e => (e.key, e.val))
  nd : done.Nodup
  sub : ∀ x ∈ done, x ∈ ar.toList
  has : ∀ x ∈ ar.toList, seen.contains x.born = true ↔ x ∈ done
/-- A sort that does so. -/
def Sorts98 (le : KeyR → KeyR → Prop) (most : Nat) : Prop := ∀ (W : World) (v : Value) (base : Nat) (xs : List (KeyR)), base ≤ W.heap.size → xs.length ≤ most → ORow 66 4 keyC base W v xs → Calls Tryz.prog 128 #[v, .func (.func 99) #[] #[]] W fun e w' => e = .returned (.tuple #[]) ∧ ∃ ys, ys.Perm xs ∧ ys.Pairwise le ∧ ORow 66 4 keyC base w' v ys ∧ Below base W w'
set_option maxRecDepth 100000 in
set_option maxHeartbeats 8000000 in
theorem rows98_any {le : KeyR → KeyR → Prop} {most : Nat} (hsort : Sorts98 le most) (hmost : most ≤ 900000) {w : World} {b : Nat} {cs : List ((KeyR) × Int)} (h : MC keyV okK w b cs) (hl : cs.length ≤ most) (bx m : Nat) (vs : List (KeyR × Int)) (hrec : Rec w bx #[.map (some m)] 157) (hvs : MC keyV okK w m vs) (hvn : (vs.map Prod.fst).Nodup) (hz : ∀ p ∈ cs, p.1.2.2 = (0, 0)) :
    Calls Tryz.prog 98 #[.map (some b), .func (.func 97) #[] #[.pointer (some ⟨bx, 0, none⟩)], .func (.func 99) #[] #[]] w fun e w' => ∃ v L, e = .returned v ∧ L.Perm (cs.map (numK vs)) ∧ L.Pairwise le ∧ ORow 66 4 keyC w.heap.size w' v L ∧ Below w.heap.size w w' := by
  have hbl := MG.lt h
  obtain ⟨ar, clock, hb, hent, hoks, hst⟩ := h
  have HOK : Hid (∀ p ∈ cs, okK p.1) := fun p hp => hoks (p.1, .int .i64 p.2) (List.mem_map.2 ⟨p, hp, rfl⟩)
  have HZ := hidE hz
  have HF97 : Hid (∀ (s t : ByteArray) (z : Int), okK (s, t, 0, 0) → ∀ W, Below w.heap.size w W → Calls Tryz.prog 97 #[.agg #[.string s, .string t, .int .i64 0, .int .i64 0], .int .i64 z, .pointer (some ⟨bx, 0, none⟩)] W fun e w' => e = .returned (.agg #[.string s, .string t, .int .i64 z, .int .i64 (countOf (s, t, 0, 0) vs)]) ∧ Below W.heap.size W w') := fun s t z hk W hb => by
    have hlm := MG.lt hvs
    have hmW : MC keyV okK W m vs := MG.block hvs (hb.block m hlm)
    exact f97_any s t z _ bx m W (hrec.below hb hrec.lt) (fun W' h' => by
      obtain ⟨_, _, _, q1, _⟩ := mc_bump keyT map157 (MG.block hmW h' : MC keyV okK W' m vs) hvn (s, t, 0, 0) hk 1
      exact q1) (Nat.lt_of_lt_of_le hlm hb.size)
  clear hz hrec hvs hvn
  have hn : ar.size = cs.length := by have := congrArg List.length hent; simpa using this
  have HENT : Hid (∀ x ∈ ar.toList, ∃ p ∈ cs, x.key = keyV p.1 ∧ x.val = .int .i64 p.2) := fun x hx => by
    have h1 : (x.key, x.val) ∈ ar.toList.map (fun e => (e.key, e.val)) := List.mem_map.2 ⟨x, hx, rfl⟩
    rw [hent] at h1
    obtain ⟨q, hq, e⟩ := List.mem_map.1 h1
    obtain ⟨p, hp, rfl⟩ := List.mem_map.1 hq
    obtain ⟨e1, e2⟩ := Prod.mk.inj e
    exact ⟨p, hp, e1.symm, e2.symm⟩
  have HEQ : Hid (ar.toList.map (fun e => (e.key, e.val)) = cs.map (fun p => (keyV p.1, Value.int .i64 p.2))) := by
    show _ = _
    rw [hent, List.map_map]; rfl
  have HND : Hid (ar.toList.Nodup) := by
    have := hst.2.1
    rw [List.nodup_iff_pairwise_ne] at *
    exact (List.pairwise_map.1 this).imp fun h e => h (by rw [e])
  have HBORN : Hid (∀ x ∈ ar.toList, ∀ y ∈ ar.toList, x.born = y.born → x = y) := fun x hx y hy e => by
    obtain ⟨i, hi⟩ := List.getElem?_of_mem hx
    obtain ⟨j, hj⟩ := List.getElem?_of_mem hy
    have := (List.getElem?_inj (l := ar.toList.map (·.born)) (by simpa using (List.getElem?_eq_some_iff.1 hi).1) hst.2.1 (i := i) (j := j)).1 (by rw [List.getElem?_map, List.getElem?_map, hi, hj, Option.map_some, Option.map_some, e])
    subst this
    rw [hi] at hj
    exact Option.some.inj hj
  have HLEN : Hid (∀ done : List MapEntry, done.Nodup → (∀ x ∈ done, x ∈ ar.toList) → done.length ≤ most) := fun done h1 h2 => by
    have := nodup_len h1 h2
    simp only [Array.length_toList] at this
    omega
  have HST := hidE hst
  have HB := hidE hb
  have HCS := hidE hl
  clear hent hoks hst hn hb hl
  go_enter Tryz.func98, Tryz.ntmps98
  have hrg := run_range_map (P := Tryz.prog) w 157 66 2 b ar clock (by kernel_rfl) HB.out
  go_wp2_with fail
  go_loopw [7] (fun v wr => ∃ seen c0 done D, Rowing98 vs w ar clock b w.heap.size wr v seen c0 done D) (fun _ wr => wr.rangeLeft b w.heap.size)
  case atStart =>
    exact ⟨#[], clock, [], [], World.alloc_heap_new _ _, Nat.le_refl _, (Below.refl _ _).alloc (Nat.le_refl _) _, orow_nil _ _ _ _ _, rfl, List.nodup_nil, fun x hx => by simp at hx, fun x hx => by simp⟩
  case round =>
    obtain ⟨seen, c0, done, D, hC⟩ := hrel
    have HC := hidE hC
    have hb2 : wr.heap[b]? = some (.map ar clock) := (hC.bw.block b hbl).trans HB.out
    rcases run_next_at (P := Tryz.prog) wr 0 w.heap.size b clock c0 seen ar clock hC.it hb2 HST.out.1 hC.cl with ⟨h0, hnx⟩ | ⟨x, hx, w1, hw1, hnx⟩
    · have HF : Hid ((D.map (numK vs)).Perm (cs.map (numK vs))) := by
        have hp : done.Perm ar.toList := (List.perm_ext_iff_of_nodup hC.nd HND.out).2 fun x => ⟨hC.sub x, fun hx => (hC.has x hx).1 (all_seen ar seen h0 x hx)⟩
        have h1 := hp.map (fun e => (e.key, e.val))
        rw [← hC.dn, HEQ.out] at h1
        exact (perm_back keyV_inj h1).map _
      have hlen : (D.map (numK vs)).length ≤ most := by rw [HF.out.length_eq, List.length_map]; exact HCS.out
      have HS := hidE (hsort wr _ (w.heap.size + 1) _ (by have := (Array.getElem?_eq_some_iff.1 hC.it).1; omega) hlen hC.row)
      have HBW := hidE hC.bw
      clear hC HC hb2 h0 hlen
      go_wp2_with (go_at_call 128; refine HS.out.mono ?_; rintro e W3 ⟨rfl, ys, y1, y2, y3, y4⟩; have HY := hidE (And.intro y1 (And.intro y2 (And.intro y3 y4))); clear y1 y2 y3 y4)
      go_ret
      obtain ⟨y1, y2, y3, y4⟩ := HY.out
      exact ⟨_, ys, rfl, y1.trans HF.out, y2, y3.base (by omega), HBW.out.trans (y4.mono (by omega))⟩
    · obtain ⟨hxm, hxs⟩ := mem_left hx
      obtain ⟨⟨⟨s, t, p, q⟩, z⟩, hpc, ek, ev⟩ := HENT.out x hxm
      obtain ⟨rfl, rfl⟩ : p = 0 ∧ q = 0 := by have := HZ.out _ hpc; simpa using this
      have HOKX : Hid (okK (s, t, 0, 0)) := HOK.out _ hpc
      simp only [keyV] at ek ev
      obtain ⟨U, hU⟩ : ∃ V, Go.ChangeMaps.setBlock w1 w.heap.size (.mapIter (some b) clock (seen.push x.born) clock) = V := ⟨_, rfl⟩
      rw [hU, ek, ev] at hnx
      have hit1 : w1.heap[w.heap.size]? = some (.mapIter (some b) clock seen c0) := by rcases hw1 with rfl | rfl <;> exact hC.it
      have hset := MapKept.heap_set (o' := .mapIter (some b) clock (seen.push x.born) clock) hit1
      have hVo : ∀ q, q ≠ w.heap.size → U.heap[q]? = wr.heap[q]? := fun q hq => by
        rw [← hU]
        have : w1.heap[q]? = wr.heap[q]? := by rcases hw1 with rfl | rfl <;> rfl
        exact (hset.2 q hq).trans this
      have hVs : U.heap.size = wr.heap.size := by
        rw [← hU]
        have : w1.heap.size = wr.heap.size := by rcases hw1 with rfl | rfl <;> rfl
        simp [Go.ChangeMaps.setBlock, this]
      have hVi : U.heap[w.heap.size]? = some (.mapIter (some b) clock (seen.push x.born) clock) := by rw [← hU]; exact hset.1
      have hVt : U.os = wr.os ∧ U.tape = wr.tape ∧ U.output = wr.output := by
        rw [← hU]
        rcases hw1 with rfl | rfl <;> exact ⟨rfl, rfl, rfl⟩
      have hbV : Below w.heap.size w U := ⟨hVt.1.trans hC.bw.os, hVt.2.1.trans hC.bw.tape, hVt.2.2.trans hC.bw.output, by rw [hVs]; exact hC.bw.size, fun q hq => (hVo q (by omega)).trans (hC.bw.block q hq)⟩
      have hen := run_entry_at (P := Tryz.prog) U w.heap.size b clock seen ar clock x hVi ((hbV.block b hbl).trans HB.out) hxm HST.out.2.1
      rw [ek, ev] at hen
      have hor : ORow 66 4 keyC (w.heap.size + 1) U _ (D.map (numK vs)) := hC.row.keep fun g hg _ => hVo g (by omega)
      have hmeas : (leftOf ar (seen.push x.born)).size < (leftOf ar seen).size := left_shrinks ar seen x hx
      have hmeas2 : wr.rangeLeft b w.heap.size = (leftOf ar seen).size := by simp only [World.rangeLeft, hb2, hC.it]
      have hszr : w.heap.size < U.heap.size := (Array.getElem?_eq_some_iff.1 hVi).1
      have hdl : D.length ≤ most := by
        have h1 := congrArg List.length hC.dn
        simp only [List.length_map] at h1
        rw [h1]; exact HLEN.out done hC.nd hC.sub
      have HA : Hid (Below U.heap.size U (U.alloc (.cells #[.string s, .string t, .int .i64 0, .int .i64 0] 66))) := (Below.refl _ _).alloc (Nat.le_refl _) _
      have HU := hidE (And.intro hVi (And.intro hbV (And.intro hor (And.intro hszr hdl))))
      have HX := hidE (And.intro hxm (And.intro hxs (And.intro ek ev)))
      have HM := hidE (And.intro hmeas hmeas2)
      clear hC hb2 hU hit1 hset hVo hVs hVi hVt hbV hxm hxs ek ev hx hw1 hmeas hmeas2 hpc hor hszr hdl
      go_wp2_with (first
        | (go_at_call 97; refine (HF97.out s t z HOKX.out _ (HU.out.2.1.trans (HA.out.mono (by have := HU.out.2.2.2.1; omega)))).mono ?_; rintro e W2 ⟨rfl, hb2⟩
           obtain ⟨v6, W6, p1, p2, p3, p4⟩ := append_one (ty := 31) (c := 1) (bl := W2.heap.size) (off := 0) (x := (s, t, z, countOf (s, t, 0, 0) vs)) elem31 (fun x => rfl) one_key (((HU.out.2.2.1.below HA.out).below hb2).below ((Below.refl _ _).alloc (Nat.le_refl _) (.cells #[.string s, .string t, .int .i64 z, .int .i64 (countOf (s, t, 0, 0) vs)] 66))) (fun jj u hu => by
             rw [Nat.zero_add]
             exact cell_new _ _ _ _ _ (by simpa [keyC] using hu)) (by rw [List.length_map]; have := HU.out.2.2.2.2; omega) (by have h1 := HU.out.2.2.2.1; have h2 := HA.out.size; have h3 := hb2.size; simp; omega)
           have HP := hidE (And.intro p2 (And.intro p3 hb2))
           clear p2 p3 p4 hb2)
        | (at_builtin; refine Lib.wpList_append_run _ rfl _ _ _ _ rfl _ _ rfl rfl _ _ p1 ?_))
      have HNEW : Hid (Rowing98 vs w ar clock b w.heap.size W6 v6 (seen.push x.born) clock (done ++ [x]) (D ++ [((s, t, 0, 0), z)])) := by
        obtain ⟨p2, p3, hb2⟩ := HP.out
        obtain ⟨u1, u2, u3, u4, u5⟩ := HU.out
        have hbig : Below (w.heap.size + 1) U W6 := (((HA.out.mono (by omega)).trans (hb2.mono (by have := HA.out.size; omega))).trans (((Below.refl _ _).alloc (Nat.le_refl _) _ : Below W2.heap.size W2 (W2.alloc (.cells #[.string s, .string t, .int .i64 z, .int .i64 (countOf (s, t, 0, 0) vs)] 66))).mono (by have := HA.out.size; have := hb2.size; omega))).trans p3
        refine ⟨(hbig.block _ (by omega)).trans u1, Nat.le_refl _, u2.trans (hbig.mono (by omega)), ?_, ?_, ?_, ?_, ?_⟩
        · rw [List.map_append]; exact p2
        · rw [List.map_append, List.map_append, HC.out.dn]
          simp [keyV, HX.out.2.2.1, HX.out.2.2.2]
        · refine List.nodup_append.2 ⟨HC.out.nd, by simp, fun a ha c hc => ?_⟩
          simp only [List.mem_singleton] at hc
          subst hc
          intro e
          subst e
          have := (HC.out.has _ HX.out.1).2 ha
          rw [HX.out.2.1] at this
          cases this
        · intro y hy
          rcases List.mem_append.1 hy with hy | hy
          · exact HC.out.sub y hy
          · rw [List.mem_singleton.1 hy]; exact HX.out.1
        · intro y hy
          rw [contains_push]
          simp only [Bool.or_eq_true, HC.out.has y hy, beq_iff_eq, List.mem_append, List.mem_singleton]
          constructor
          · rintro (h1 | h1)
            · exact .inl h1
            · exact .inr (HBORN.out y hy x HX.out.1 h1)
          · rintro (h1 | h1)
            · exact .inl h1
            · exact .inr (by rw [h1])
      go_roundw
      case rel => exact ⟨_, _, _, _, HNEW.out⟩
      case measure =>
        have h1 : W6.rangeLeft b w.heap.size = (leftOf ar (seen.push x.born)).size := by
          have hb4 : W6.heap[b]? = some (.map ar clock) := (HNEW.out.bw.block b hbl).trans HB.out
          simp only [World.rangeLeft, hb4, HNEW.out.it]
        rw [h1, HM.out.2]
        exact HM.out.1
end Go.Proofs.YthfilnflgahcjaaGreatDoor

namespace Go.Proofs.YthfilnflgahcjaaGreatDoor
open Go.RowKit Go.Shelf Go.Maps
set_option linter.unusedVariables false
set_option linter.unusedSimpArgs false
/-- A node's labels, a key, a value's text. -/
abbrev ItemR := List ByteArray × ByteArray × ByteArray
def kStep (s : List ByteArray × List WorR) (x : ItemR) : List ByteArray × List WorR := (withT x.2.2 s.1, s.2 ++ x.1.map fun l => ((l, x.2.1, 0, 0), (posOf x.2.2 s.1 : Int)))
def kAll (its : List ItemR) : List ByteArray × List WorR := its.foldl kStep ([], [])
theorem kAll_snoc (its : List ItemR) (x : ItemR) : kAll (its ++ [x]) = kStep (kAll its) x := by simp [kAll]
def wlen : List ItemR → Nat
  | [] => 0
  | x :: r => x.1.length + wlen r
theorem wlen_append : ∀ (a b : List ItemR), wlen (a ++ b) = wlen a + wlen b
  | [], b => by simp [wlen]
  | x :: r, b => by simp only [List.cons_append, wlen, wlen_append r b]; omega
theorem withT_len (t : ByteArray) (ts : List ByteArray) : (withT t ts).length ≤ ts.length + 1 := by
  unfold withT
  split <;> simp
theorem withT_nodup {t : ByteArray} {ts : List ByteArray} (h : ts.Nodup) : (withT t ts).Nodup := by
  by_cases hm : t ∈ ts
  · rw [withT_old hm]; exact h
  · rw [withT_new hm]
    exact List.nodup_append.2 ⟨h, by simp, fun a ha c hc => by simp only [List.mem_singleton] at hc; subst hc; exact fun e => hm (e ▸ ha)⟩
theorem kAll_facts (its : List ItemR) : (kAll its).1.Nodup ∧ (kAll its).1.length ≤ its.length ∧ (kAll its).2.length = wlen its ∧ (∀ x ∈ (kAll its).2, x.1.2.2 = (0, 0)) := by
  unfold kAll
  suffices h : ∀ (its : List ItemR) (s : List ByteArray × List WorR), s.1.Nodup → (∀ x ∈ s.2, x.1.2.2 = (0, 0)) → (its.foldl kStep s).1.Nodup ∧ (its.foldl kStep s).1.length ≤ s.1.length + its.length ∧ (its.foldl kStep s).2.length = s.2.length + wlen its ∧ (∀ x ∈ (its.foldl kStep s).2, x.1.2.2 = (0, 0)) by
    have := h its ([], []) List.nodup_nil (by simp)
    simpa using this
  intro its
  induction its with
  | nil => intro s h1 h2; exact ⟨h1, by simp, by simp [wlen], h2⟩
  | cons x r ih =>
    intro s h1 h2
    obtain ⟨a, b, c, d⟩ := ih (kStep s x) (withT_nodup h1) (by
      intro y hy
      rcases List.mem_append.1 hy with hy | hy
      · exact h2 y hy
      · obtain ⟨l, _, rfl⟩ := List.mem_map.1 hy
        rfl)
    refine ⟨a, ?_, ?_, d⟩
    · have := withT_len x.2.2 s.1
      have e : (kStep s x).1 = withT x.2.2 s.1 := rfl
      rw [e] at b
      simp only [List.foldl_cons, List.length_cons]; omega
    · have e : (kStep s x).2.length = s.2.length + x.1.length := by simp [kStep]
      rw [List.foldl_cons, c, e, wlen]; omega
def itemAt (tx : Tree → ByteArray) (ls : List ByteArray) (p : ByteArray × Tree) : ItemR := (ls, p.1, tx p.2)
def itemsOf (tx : Tree → ByteArray) (ns : List NodeP) : List ItemR := ns.flatMap fun n => n.props.map (itemAt tx n.labels)
theorem itemsOf_at {tx : Tree → ByteArray} {ns : List NodeP} {j : Nat} {x : NodeP} (h : ns[j]? = some x) : itemsOf tx (ns.take (j + 1)) = itemsOf tx (ns.take j) ++ x.props.map (itemAt tx x.labels) := by
  unfold itemsOf
  rw [List.take_add_one, h, List.flatMap_append]
  simp
theorem itemsOf_le {tx : Tree → ByteArray} {ns : List NodeP} {j : Nat} {x : NodeP} (h : ns[j]? = some x) : (itemsOf tx (ns.take j)).length + x.props.length ≤ (itemsOf tx ns).length ∧ wlen (itemsOf tx (ns.take j)) + wlen (x.props.map (itemAt tx x.labels)) ≤ wlen (itemsOf tx ns) := by
  have h1 : itemsOf tx ns = itemsOf tx (ns.take (j + 1)) ++ itemsOf tx (ns.drop (j + 1)) := by
    unfold itemsOf
    rw [← List.flatMap_append, List.take_append_drop]
  rw [h1, itemsOf_at h]
  simp only [List.length_append, List.length_map, wlen_append]; omega
theorem wlen_take {its : List ItemR} {k : Nat} {x : ItemR} (h : its[k]? = some x) : wlen (its.take k) + x.1.length ≤ wlen its := by
  have h1 : its = its.take (k + 1) ++ its.drop (k + 1) := (List.take_append_drop _ _).symm
  have h2 : its.take (k + 1) = its.take k ++ [x] := by rw [List.take_add_one, h]; rfl
  have h3 := congrArg wlen h1
  rw [wlen_append, h2, wlen_append] at h3
  simp only [wlen] at h3
  omega
/-- Nodes, and values, by their rows. -/
def nodesK (ws : List WorR) : List (KeyR × Int) := gather ((cnt ws).map fun p => (p.1.1, p.2))
def valuesK (ws : List WorR) : List (KeyR × Int) := gather ((cnt ws).map fun p => (p.1.1, (1 : Int)))
def keysK (ws : List WorR) : List KeyR := (nodesK ws).map (numK (valuesK ws))
/-- What holds while worths are counted. -/
structure KcI (w : World) (bx m : Nat) (s : List ByteArray × List WorR) (wr : World) : Prop where
  bw : Below w.heap.size w wr
  rb : Rec wr bx #[.map (some m)] 187
  mt : MG strV okS wr m (placed s.1 0)
  mw : MC worV okW wr (w.heap.size + 1) (cnt s.2)
theorem KcI.below {w wr wr' : World} {bx m : Nat} {s : List ByteArray × List WorR} (h : KcI w bx m s wr) (hb : Below wr.heap.size wr wr') : KcI w bx m s wr' :=
  ⟨Below.on h.bw hb, h.rb.below hb h.rb.lt, MG.block h.mt (hb.block _ (MG.lt h.mt)), MG.block h.mw (hb.block _ (MG.lt h.mw))⟩
/-- Numbers summed up of some. -/
structure KdI (w : World) (Z : Nat) (D : List (WorR × Int)) (wr : World) : Prop where
  bw : Below w.heap.size w wr
  rb : Rec wr (Z + 2) #[.map (some (Z + 1))] 157
  mn : MC keyV okK wr Z (gather (D.map fun p => (p.1.1, p.2)))
  mv : MC keyV okK wr (Z + 1) (gather (D.map fun p => (p.1.1, (1 : Int))))
theorem KdI.below {w wr wr' : World} {Z : Nat} {D : List (WorR × Int)} (h : KdI w Z D wr) (hb : Below wr.heap.size wr wr') : KdI w Z D wr' :=
  ⟨Below.on h.bw hb, h.rb.below hb h.rb.lt, MG.block h.mn (hb.block _ (MG.lt h.mn)), MG.block h.mv (hb.block _ (MG.lt h.mv))⟩
theorem worV_inj (x y : WorR) (h : worV x = worV y) : x = y := worT.inj x y h
theorem numK_perm {vs vs' : List (KeyR × Int)} (h : ∀ x, countOf x vs = countOf x vs') : numK vs = numK vs' := by
  funext p
  simp only [numK, h]
/-- What holds between two worths. -/
structure Kloop (w : World) (ar : Array MapEntry) (clock b r Z : Nat) (wr : World) (seen : Array Nat) (c0 : Nat) (done : List MapEntry) (D : List (WorR × Int)) : Prop where
  it : wr.heap[r]? = some (.mapIter (some b) clock seen c0)
  cl : clock ≤ c0
  i : KdI w Z D wr
  hb : wr.heap[b]? = some (.map ar clock)
  dn : D.map (fun p => (worV p.1, Value.int .i64 p.2)) = done.map (fun e => (e.key, e.val))
  nd : done.Nodup
  sub : ∀ x ∈ done, x ∈ ar.toList
  has : ∀ x ∈ ar.toList, seen.contains x.born = true ↔ x ∈ done
end Go.Proofs.YthfilnflgahcjaaGreatDoor

