/- A graph's ends, counted (endCounts 45). What Check does with a panic: the function that it defers. Check: whether a value may be, and is not too great. -/
import Derived.Test.YthfilnflgahcjaaGreatDoorJoin23
import Derived.Test.YthfilnflgahcjaaGreatDoorSr92
import Derived.Stop.RegionWithIn
import Derived.Test.YthfilnflgahcjaaGreatDoorJoin19
import Derived.RecoverIn
import Derived.LaidEql
import Derived.WideLaws
namespace Go.Proofs.YthfilnflgahcjaaGreatDoor
open Go.RowKit Go.Shelf Go.Maps
set_option linter.unusedVariables false
set_option linter.unusedSimpArgs false
attribute [local go_sem] Oper.semAt_some
theorem map143 : Tryz.prog.underlying 143 = some (.map 64 2) := by kernel_rfl
theorem wpIn_fixed {F : Fence} {n : Nat} {P : Program} {c : Code} {Q : Exit → Act → World → Prop} {a : Act} {w : World} (w2 : World) (h : ∃ A, c.wpIn F n P (Exit.then (fun a W => a = A ∧ W = w2) fun _ _ _ => False) a w ∧ Q .normal A w2) : c.wpIn F n P Q a w := by
  obtain ⟨A, h1, h2⟩ := h
  exact wpIn_mono h1 (fun e a W q => by cases e <;> first | (obtain ⟨e2, e3⟩ := q; subst e2; subst e3; exact h2) | exact q.elim)
theorem end_bump {W : World} {b : Nat} {cs : List (EndR × Int)} (h : MC endV okE W b cs) (hn : (cs.map Prod.fst).Nodup) (x : EndR) (hx : okE x) (d : Int) :
    ∃ (st : Nat) (w1 w2 : World), (Instr.lookup 143 (.map (some b)) (endV x) false).run Tryz.prog W.drew = .ok (.int .i64 (countOf x cs)) W.drew ∧ (Instr.mapEntry 143 (.map (some b)) (endV x)).run Tryz.prog W.drew = .ok (.tuple #[.int .i64 (countOf x cs), .int .i64 st]) w1 ∧ (Instr.lookup 143 (.map (some b)) (endV x) false).run Tryz.prog w1 = .ok (.int .i64 (countOf x cs)) w1 ∧ (Instr.entryStore 143 (.map (some b)) (.int .i64 st) (.int .i64 (countOf x cs + d))).run Tryz.prog w1 = .ok () w2 ∧ MC endV okE w2 b (bump x d cs) ∧ w2.heap.size = W.heap.size ∧ (∀ i, i ≠ b → w2.heap[i]? = W.heap[i]?) ∧ Below b W w2 := by
  obtain ⟨st, w1, w2, q1, q2, q3, q4, q5, q6, q7, q8⟩ := mc_bump endT map143 (w := W.drew) h hn x hx d
  exact ⟨st, w1, w2, q1, q2, q3, q4, q5, q6, q7, ((Below.refl b W).drew).trans q8⟩
/-- What the rounds keep. -/
structure EndJ (B : Nat) (w W1 w2 : World) (rec : Loop) (pre : List (EndR × Int)) (W : World) : Prop where
  room : w2.heap.size + 2 ≤ W.heap.size
  loop : W.heap[w2.heap.size + 1]? = some (.loop rec)
  dfr : W.heap[w2.heap.size]? = some (.deferred (some []))
  mc : MC endV okE W (w.heap.size + 1) (gather pre)
  keep : ∀ i, i < w2.heap.size → i ≠ w.heap.size + 1 → W.heap[i]? = w2.heap[i]?
  below : Below w.heap.size w W
  lab : Below B W1 W
  small : ∀ p ∈ pre, 0 ≤ p.2 ∧ p.2 ≤ 200000
set_option maxRecDepth 100000 in
set_option maxHeartbeats 8000000 in
theorem ends_cnt {le : EndR → EndR → Prop} {most : Nat} (hsort : Sorts92 le most) (hmost : most ≤ 100000) (g : GraphP) (v : Value) (B : Nat) (w : World) (hB : B ≤ w.heap.size) (h : GraphLies B w v g) (hl : g.rels.length ≤ 100000) (hln : g.nodes.length ≤ 100000) (hw64 : ∀ r ∈ g.rels, W64 r.fr ∧ W64 r.tt) (hnd : (g.nodes.map NodeP.id).Nodup) (hid : ∀ n ∈ g.nodes, W64 n.id)
    (K : Nat) (hK : ∀ n ∈ g.nodes, n.labels.length ≤ K) (hKm : K ≤ 1000000000) (hN : (cnt (jointsOf g.rels)).length * K ≤ 1000000000) (hm : (gather (endsOf g.nodes (cnt (jointsOf g.rels)))).length ≤ most) :
    Calls Tryz.prog 45 #[v] w fun e w' => ∃ v L, e = .returned v ∧ L.Perm ((gather (endsOf g.nodes (cnt (jointsOf g.rels)))).map (fun p : EndR × Int => (p.1.1, p.1.2.1, p.1.2.2.1, p.2))) ∧ L.Pairwise le ∧ ORow 64 4 endC w.heap.size w' v L ∧ Below w.heap.size w w' := by
  have HG := hidE h
  obtain ⟨na, nc, ra, rc, rfl, _, _⟩ := h
  have HE := hidE (fun W (hW : B ≤ W.heap.size) (hg : GraphLies B W (.agg #[.slice na g.nodes.length nc, .slice ra g.rels.length rc, .int .i64 g.nn, .int .i64 g.nr]) g) => ends_any g _ B W hW hg hl hln hw64 hnd hid)
  have HND := hidE hnd
  have HKK := hidE (labsAt_le hK)
  have HN := hidE hN
  have HMO := hidE hm
  have HJS : Hid (∀ p ∈ cnt (jointsOf g.rels), 0 ≤ p.2 ∧ p.2 ≤ 200000) := fun p hp => by
    have h1 := cnt_vals _ p hp
    have h2 := jointsOf_len g.rels
    omega
  generalize g.nodes.length = l1 at *
  generalize g.rels.length = l2 at *
  generalize g.nn = nn at *
  generalize g.nr = nr at *
  clear hw64 hnd hid hK hN hm
  have hmk : ∀ W : World, (Instr.makeMap 143 none).run Tryz.prog W = .ok (.map (some W.heap.size)) (W.alloc (.map #[] 0)) := fun W => rfl
  refine (callsIn_wide (n := 0)).1 ?_
  obtain ⟨Fe, hF⟩ : ∃ F, F = Fence.wide := ⟨_, rfl⟩
  rw [← hF]
  have hd : Fe.depth = none := by rw [hF]; rfl
  have hro : Fe.round = none := by rw [hF]; rfl
  have hfn : ∀ f, Fe.fn f := by rw [hF]; exact fun _ => trivial
  refine callsIn_of_wp_marks Tryz.func45 rfl (hfn _) ?_ hro
  simp only [Tryz.ntmps45, List.size_toArray, List.length_cons, List.length_nil, Nat.reduceAdd, Nat.reduceSub, Array.replicate_succ, Array.replicate_zero, List.push_toArray, List.append_toArray, List.nil_append, List.cons_append]
  subst hF
  refine wpIn_wide.2 ?_
  go_upto_region 2 with fail
  obtain ⟨Wa, hWa⟩ : ∃ W, w.alloc (.cells #[.slice na l1 nc, .slice ra l2 rc, .int .i64 nn, .int .i64 nr] 25) = W := ⟨_, rfl⟩
  have ra0 : Rec Wa w.heap.size #[.slice na l1 nc, .slice ra l2 rc, .int .i64 nn, .int .i64 nr] 25 := by rw [← hWa]; exact rec_new _ _ _
  have hza : Wa.heap.size = w.heap.size + 1 := by rw [← hWa]; simp
  have hba : Below w.heap.size w Wa := by rw [← hWa]; exact (Below.refl _ _).alloc (Nat.le_refl _) _
  try rw [hWa]
  obtain ⟨Wb, hWb⟩ : ∃ W, Wa.alloc (.map #[] 0) = W := ⟨_, rfl⟩
  have hbb : Below Wa.heap.size Wa Wb := by rw [← hWb]; exact (Below.refl _ _).alloc (Nat.le_refl _) _
  have hmb : MC endV okE Wb (w.heap.size + 1) [] := by rw [← hWb, ← hza]; exact mg_none _
  have hzb : Wb.heap.size = w.heap.size + 1 + 1 := by rw [← hWb, ← hza]; simp
  try rw [hWb]
  obtain ⟨W1, hW1⟩ : ∃ W, Wb.alloc (.cells #[.map (some (w.heap.size + 1))] 143) = W := ⟨_, rfl⟩
  have hbc : Below Wb.heap.size Wb W1 := by rw [← hW1]; exact (Below.refl _ _).alloc (Nat.le_refl _) _
  have rb1 : Rec W1 (w.heap.size + 1 + 1) #[.map (some (w.heap.size + 1))] 143 := by rw [← hW1, ← hzb]; exact rec_new _ _ _
  have hz1 : W1.heap.size = w.heap.size + 1 + 1 + 1 := by rw [← hW1, ← hzb]; simp
  have ra1 : Rec W1 w.heap.size #[.slice na l1 nc, .slice ra l2 rc, .int .i64 nn, .int .i64 nr] 25 := (ra0.below hbb (by omega)).below hbc (by omega)
  have HM1 : Hid (MC endV okE W1 (w.heap.size + 1) []) := MG.block hmb (hbc.block _ (by omega))
  have hb1 : Below w.heap.size w W1 := Below.on (Below.on hba hbb) hbc
  have HB1 := hidE hb1
  have HE1 := hidE (HE.out W1 (by omega) (HG.out.below (hb1.mono hB)))
  have HZ1 := hidE hz1
  have HR1 := hidE rb1
  try rw [hW1]
  have c0 := ra1.cell 0 rfl
  have c1 := ra1.cell 1 rfl
  have c2 := ra1.cell 2 rfl
  have c3 := ra1.cell 3 rfl
  clear hWa hWb hW1 hza hzb hz1 hba hbb hbc hmb ra0 ra1 rb1 hb1 HE
  go_wp2_with fail
  refine HE1.out.mono ?_
  rintro e w2 ⟨bj, bl, mj, ml, rfl, rj, rl, g1, g2, g3, g4, mcj, lbm, hb2⟩
  have hz1 := HZ1.out
  have hs2 := hb2.size
  have hlj := rj.lt
  have hll := rl.lt
  have hmj := MG.lt mcj
  have hml := lbm.lt
  have HRJ := hidE rj
  have HRL := hidE rl
  have HMJ := hidE mcj
  have HLB := hidE lbm
  have HB2 := hidE hb2
  have HM2 : Hid (MC endV okE w2 (w.heap.size + 1) []) := MG.block HM1.out (hb2.block _ (by omega))
  have HR2 : Hid (Rec w2 (w.heap.size + 1 + 1) #[.map (some (w.heap.size + 1))] 143) := HR1.out.below hb2 HR1.out.lt
  clear rj rl mcj lbm hb2 HE1 HM1 HR1 c0 c1 c2 c3
  go_wp2_with fail
  refine (wpIn_wide (n := 0)).1 ?_
  obtain ⟨Fe, hF⟩ : ∃ F, F = Fence.wide := ⟨_, rfl⟩
  rw [← hF] at hd hro hfn ⊢
  refine range_wp hro hd (gf := 124) (lb := #[.pointer (some ⟨bj, 0, none⟩), .pointer (some ⟨bl, 0, none⟩)]) rfl (hfn _) (enters_of Tryz.func124 (by kernel_rfl) rfl) ?_
  intro fn hfn0
  have HFe := hidE hF
  clear hF
  generalize hrec : Loop.mk _ _ _ _ _ _ _ _ = rec
  simp only [World.size_alloc]
  generalize hW0 : World.alloc _ (Obj.loop rec) = W0
  have hsz : W0.heap.size = w2.heap.size + 2 := by rw [← hW0]; simp
  have b1 : W0.heap[w2.heap.size]? = some (.deferred (some [])) := by rw [← hW0]; simp only [heap_alloc_at, World.size_alloc]; repeat (first | rw [if_pos trivial] | rw [if_pos (by omega)] | rw [if_neg (by omega)])
  have b2 : W0.heap[w2.heap.size + 1]? = some (.loop rec) := by rw [← hW0]; simp only [heap_alloc_at, World.size_alloc]; repeat (first | rw [if_pos trivial] | rw [if_pos (by omega)] | rw [if_neg (by omega)])
  have hb0 : Below w2.heap.size w2 W0 := by
    rw [← hW0]
    exact ((Below.refl _ _).alloc (Nat.le_refl _) _).alloc (by simp) _
  have hBw : B ≤ w.heap.size := hB
  have HJ0 : Hid (EndJ B w W1 w2 rec [] W0) := ⟨by omega, b2, b1, MG.block HM2.out (hb0.block _ (by omega)), fun i hi _ => hb0.block i hi, ((HB1.out.trans (HB2.out.mono (by omega)))).trans (hb0.mono (by omega)), (HB2.out.mono (by omega)).trans (hb0.mono (by omega)), fun p hp => by simp at hp⟩
  have HRJ0 : Hid (Rec W0 bj #[.map (some mj)] 181) := HRJ.out.below hb0 hlj
  have HRL0 : Hid (Rec W0 bl #[.map (some ml)] 184) := HRL.out.below hb0 hll
  have HMJ0 : Hid (MC jntV okJ W0 mj (cnt (jointsOf g.rels))) := MG.block HMJ.out (hb0.block _ hmj)
  have HLB0 : Hid (LabM B W1 W0 ml g.nodes) := HLB.out.block (hb0.block _ hml)
  clear hW0 b1 b2 hb0 HRJ HRL HMJ HLB HM2
  have HYI : Hid (∀ m pre x W, EndJ B w W1 w2 rec pre W → okE x.1 → x.1.2.2.2 = 0 → 0 ≤ x.2 → x.2 ≤ 200000 → pre.length + 1 ≤ (cnt (jointsOf g.rels)).length * K → YieldAt Fe m Tryz.prog (w2.heap.size + 1) #[endV x.1, .int .i64 x.2] W fun e W' => e = .returned (.bool true) ∧ EndJ B w W1 w2 rec (pre ++ [x]) W' ∧ ∀ i, W0.heap.size ≤ i → i < W.heap.size → W'.heap[i]? = W.heap[i]?) := by
    rintro m pre ⟨⟨s, t, o, q⟩, z⟩ W hJ hok hq hz0 hz1' hlen
    simp only at hq hz0 hz1'
    subst hq
    have HOK := hidE hok
    have HJ := hidE hJ
    have ea := congrArg Loop.assign hrec
    have eb := congrArg Loop.body hrec
    have et := congrArg Loop.tmps hrec
    have ep := congrArg Loop.params hrec
    have es := congrArg Loop.state hrec
    have hr0' : asReady (asBusy rec) = rec := by rw [← hrec]; rfl
    dsimp only at ea eb et ep es
    clear hrec hok
    refine yield_round (hfn _) ea eb et ep hJ.loop es.symm (by rw [← ep]; rfl) ?_
    clear ea eb et ep es hJ
    have hrm := HJ.out.room
    simp only [endV]
    gi_upto_region 5 with fail
    obtain ⟨Wc, hWc⟩ : ∃ V, W.alloc (.cells #[.string s, .string t, .bool o, .int .i64 0] 64) = V := ⟨_, rfl⟩
    have hbc : Below W.heap.size W Wc := by rw [← hWc]; exact (Below.refl _ _).alloc (Nat.le_refl _) _
    have rx : Rec Wc W.heap.size #[.string s, .string t, .bool o, .int .i64 0] 64 := by rw [← hWc]; exact rec_new _ _ _
    have hzc : Wc.heap.size = W.heap.size + 1 := by rw [← hWc]; simp
    rw [hWc]
    refine ⟨(hbc.block _ (by omega)).trans HJ.out.loop, ?_⟩
    generalize hW2 : World.putObj _ _ _ = Wd
    have a2 : Wd.heap[w2.heap.size + 1]? = some (.loop (asBusy rec)) := by rw [← hW2]; exact World.putObj_heap_same (by omega)
    have ak : ∀ i, i ≠ w2.heap.size + 1 → Wd.heap[i]? = Wc.heap[i]? := fun i hi => by rw [← hW2]; exact World.putObj_heap_other hi
    have hzd : Wd.heap.size = W.heap.size + 1 := by rw [← hW2]; simp [hzc]
    have hbd : Below (w2.heap.size + 1) W Wd := by rw [← hW2]; exact (But.putObj _ _).below (hbc.mono (by omega)) (Nat.le_refl _)
    clear hW2
    have rx' : Rec Wd W.heap.size #[.string s, .string t, .bool o, .int .i64 0] 64 := rx.keep (ak _ (by omega))
    have hk2 : ∀ i, i < W.heap.size → i ≠ w2.heap.size + 1 → Wd.heap[i]? = W.heap[i]? := fun i h1 h2 => (ak i h2).trans (hbc.block i h1)
    have rb : Rec Wd (w.heap.size + 1 + 1) #[.map (some (w.heap.size + 1))] 143 := HR2.out.keep ((hk2 _ (by omega) (by omega)).trans (HJ.out.keep _ (by omega) (by omega)))
    have hmc : MC endV okE Wd (w.heap.size + 1) (gather pre) := MG.block HJ.out.mc (hk2 _ (by omega) (by omega))
    obtain ⟨st, w3, w4, q1, q2, q3, q4, q5, q6, q7, q8⟩ := end_bump hmc (gather_nodup _) (s, t, o, 0) HOK.out z
    have hcl := sumAt_le (x := (s, t, o, (0 : Int))) (c := 200000) (by omega) HJ.out.small
    rw [← gather_count] at hcl
    obtain ⟨cn, hcn⟩ : ∃ c, countOf ((s, t, o, 0) : EndR) (gather pre) = c := ⟨_, rfl⟩
    rw [hcn] at q1 q2 q3 q4 hcl
    have hcb : 0 ≤ cn ∧ cn ≤ 200000000000000 := by have := HN.out; omega
    have hwp : IntKind.i64.wrap (cn + z) = cn + z := by rw [IntKind.wrap_i64]; omega
    simp only [endV] at q1 q2 q3 q4
    have HNEW : Hid (w4.heap[w2.heap.size + 1]? = some (.loop (asBusy rec)) ∧ EndJ B w W1 w2 rec (pre ++ [((s, t, o, 0), z)]) (w4.putObj (w2.heap.size + 1) (.loop (asReady (asBusy rec)))) ∧ ∀ i, w2.heap.size + 2 ≤ i → i < W.heap.size → (w4.putObj (w2.heap.size + 1) (.loop (asReady (asBusy rec)))).heap[i]? = W.heap[i]?) := by
      have hpo : ∀ i, i ≠ w2.heap.size + 1 → (w4.putObj (w2.heap.size + 1) (.loop (asReady (asBusy rec)))).heap[i]? = w4.heap[i]? := fun i hi => World.putObj_heap_other hi
      have h4 : ∀ i, i < W.heap.size → i ≠ w2.heap.size + 1 → i ≠ w.heap.size + 1 → (w4.putObj (w2.heap.size + 1) (.loop (asReady (asBusy rec)))).heap[i]? = W.heap[i]? := fun i i1 i2 i3 => (hpo i i2).trans ((q7 i i3).trans (hk2 i i1 i2))
      have hb4 : Below (w.heap.size + 1) W (w4.putObj (w2.heap.size + 1) (.loop (asReady (asBusy rec)))) := (But.putObj _ _).below ((hbd.mono (by omega)).trans q8) (by omega)
      refine ⟨(q7 _ (by omega)).trans a2, ⟨?_, ?_, (h4 _ (by omega) (by omega) (by omega)).trans HJ.out.dfr, ?_, ?_, HJ.out.below.trans (hb4.mono (by omega)), HJ.out.lab.trans (hb4.mono (by omega)), ?_⟩, fun i i1 i2 => h4 i i2 (by omega) (by omega)⟩
      · have := hb4.size
        omega
      · rw [hr0']; exact World.putObj_heap_same (by omega)
      · rw [gather_snoc]
        exact MG.block q5 (hpo _ (by omega))
      · intro i i1 i2
        exact (h4 i (by omega) (by omega) i2).trans (HJ.out.keep i i1 i2)
      · intro p hp
        rcases List.mem_append.1 hp with hp | hp
        · exact HJ.out.small p hp
        · rw [List.mem_singleton.1 hp]; exact ⟨hz0, hz1'⟩
    have e0 := rb.cell 0 rfl
    have e1 := rx'.cell 0 rfl
    have e2 := rx'.cell 1 rfl
    have e3 := rx'.cell 2 rfl
    have e4 := rx'.cell 3 rfl
    clear q5 q6 q7 q8 hcl hcb hcn hbc rx hzc hWc a2 ak hzd hbd rx' hk2 rb hmc hz0 hz1' hlen
    gi_upto_region 5 with fail
    apply wpIn_fixed w4
    apply Exists.intro
    apply And.intro
    · gi_region_with fail
      all_goals exact ⟨rfl, rfl⟩
    · gi_wp2_with fail
      exact ⟨HNEW.out.1, rfl, HNEW.out.2.1, HNEW.out.2.2⟩
  have HV := hidE (ends1_any hd hro hfn (l := w2.heap.size + 1) (B := B) (w0 := W1) g.nodes (cnt (jointsOf g.rels)) bj mj bl ml K HKK.out hKm HND.out 200000 HJS.out W0 HRJ0.out HRL0.out HMJ0.out HLB0.out (by omega) (EndJ B w W1 w2 rec)
    (fun pre W hJ => ⟨(hJ.keep _ hmj (by omega)).trans (HJ0.out.keep _ hmj (by omega)).symm, (hJ.keep _ hml (by omega)).trans (HJ0.out.keep _ hml (by omega)).symm, (hJ.keep _ hlj (by omega)).trans (HJ0.out.keep _ hlj (by omega)).symm, (hJ.keep _ hll (by omega)).trans (HJ0.out.keep _ hll (by omega)).symm, hJ.lab, by have := hJ.room; omega⟩)
    (fun pre W W' hJ hi hz ho ht hu => ⟨by have := hJ.room; omega, (hi _ (by omega)).trans hJ.loop, (hi _ (by omega)).trans hJ.dfr, MG.block hJ.mc (hi _ (by omega)), fun i i1 i2 => (hi i (by omega)).trans (hJ.keep i i1 i2), ⟨ho.trans hJ.below.os, ht.trans hJ.below.tape, hu.trans hJ.below.output, by have := hJ.below.size; omega, fun i i1 => (hi i (by omega)).trans (hJ.below.block i i1)⟩, ⟨ho.trans hJ.lab.os, ht.trans hJ.lab.tape, hu.trans hJ.lab.output, by have := hJ.lab.size; omega, fun i i1 => (hi i (by omega)).trans (hJ.lab.block i i1)⟩, hJ.small⟩)
    HYI.out HJ0.out (0 - 1))
  clear HYI HJ0 HRJ0 HRL0 HMJ0 HLB0
  refine HV.out.mono ?_
  rintro e W ⟨⟨v, rfl⟩, D, hD, hJ⟩
  have hp : rec.pending = none := by rw [← hrec]
  have hst : rec.state ≠ .busy := by rw [← hrec]; simp
  have HJ := hidE hJ
  have HD := hidE hD
  clear hrec hJ hD HV
  refine ⟨rec, HJ.out.loop, hst, ?_⟩
  simp only [hp]
  generalize hW5 : World.putObj _ _ _ = W5
  have hrm := HJ.out.room
  have HK5 : Hid (∀ i, i ≠ w2.heap.size + 1 → W5.heap[i]? = W.heap[i]?) := fun i hi => by rw [← hW5]; exact World.putObj_heap_other hi
  have HB5 : Hid (Below w.heap.size w W5) := by rw [← hW5]; exact (But.putObj _ _).below HJ.out.below (by omega)
  have hs5 : W5.heap.size = W.heap.size := by rw [← hW5]; simp
  clear hW5
  have HM5 : Hid (MC endV okE W5 (w.heap.size + 1) (gather (endsOf g.nodes D))) := MG.block HJ.out.mc (HK5.out _ (by omega))
  have HR5 : Hid (Rec W5 (w.heap.size + 1 + 1) #[.map (some (w.heap.size + 1))] 143) := HR2.out.keep ((HK5.out _ (by omega)).trans (HJ.out.keep _ (by omega) (by omega)))
  have HD5 : Hid (W5.heap[w2.heap.size]? = some (.deferred (some []))) := (HK5.out _ (by omega)).trans HJ.out.dfr
  have HPM := hidE (gather_perm (endsOf_perm g.nodes HD.out))
  have HRW := hidE (rows92_any hsort hmost HM5.out (by rw [HPM.out.length_eq]; exact HMO.out))
  have e0 := HR5.out.cell 0 rfl
  go_wp2_with (go_at_call 92; refine HRW.out.mono ?_; rintro e W6 ⟨v6, L, rfl, y1, y2, y3, y4⟩; have HY := hidE (And.intro y1 (And.intro y2 (And.intro y3 y4))); clear y1 y2 y3 y4)
  obtain ⟨y1, y2, y3, y4⟩ := HY.out
  have hd6 : W6.heap[w2.heap.size]? = some (.deferred (some [])) := (y4.block _ (by omega)).trans HD5.out
  have hz6 : Below w.heap.size w (W6.putObj w2.heap.size (.deferred none)) := (But.putObj _ _).below (Below.on HB5.out y4) (by omega)
  show LeavesInM _ _ _ _ _ _ [_] .returning _
  refine ⟨by simp, .inl ⟨_, _, rfl, run_takeDeferred hd6, ?_⟩⟩
  refine ⟨v6, ?_, v6, L, rfl, y1.trans (HPM.out.map _), y2, ?_, hz6⟩
  · simp [results, Tryz.results45, go_sem]
  · exact (y3.keep fun i hi _ => World.putObj_heap_other (show i ≠ w2.heap.size by omega)).base (by omega)
end Go.Proofs.YthfilnflgahcjaaGreatDoor

namespace Go.Proofs.YthfilnflgahcjaaGreatDoor
open Go.RowKit Go.Shelf
set_option linter.unusedVariables false
set_option maxRecDepth 100000 in
theorem under20 : ∃ ms, Tryz.prog.underlying 20 = some (.interface ms) := ⟨_, Tryz.underlying20⟩
set_option maxRecDepth 100000 in
theorem comp41 : (Tryz.prog.info? 34).map (·.comparable) = some true := by kernel_rfl
set_option maxRecDepth 100000 in
theorem eq_long (w : World) : (binOp .eql 20 (.iface 34 (.int .i64 3)) (.iface 34 (.int .i64 3))).run Tryz.prog w = .ok (.bool true) w := by
  obtain ⟨ms, h20⟩ := under20
  have h41 : ∃ i, Tryz.prog.info? 34 = some i ∧ i.comparable = true := by
    have := comp41
    cases h : Tryz.prog.info? 34 with
    | none => rw [h] at this; cases this
    | some i => rw [h] at this; exact ⟨i, rfl, by simpa using this⟩
  obtain ⟨i, hi, hc⟩ := h41
  have h : ∀ d : Nat, (Op.equalIn (d + 2) 20 (.iface 34 (.int .i64 3)) (.iface 34 (.int .i64 3))).run Tryz.prog w = .ok true w := fun d => by
    simp [Op.equalIn, run_underlying h20, run_underlying Tryz.underlying34, typeInfo, hi, hc]
  simp only [binOp]
  simp [Op.equal, Op.maxDepth, h 9998]
set_option maxRecDepth 100000 in
set_option maxHeartbeats 1000000 in
theorem catch_long (n : Nat) (p : Addr) (z : Int) (w : World) (hc : w.cell? p = some (.int .i64 z)) (hz : w.frozen? p = false) :
    CallsDIn Fence.wide n Tryz.prog 199 #[.pointer (some p)] (.panicking [{ v := .iface 34 (.int .i64 3), recovered := false }]) w fun e u' w' =>
      e = .returned (.tuple #[]) ∧ u' = .panicking [{ v := .iface 34 (.int .i64 3), recovered := true }] ∧ w' = w.setCell p (.int .i64 3) := by
  have he := eq_long w
  refine callsDIn_of_wpSIn Tryz.func199 rfl trivial fun c₀ cs hu => ?_
  apply wpSIn_seq
  apply wpSIn_region
  simp [wpOpsSIn, go_sem, recoverD, hu, Tryz.ntmps199, Exit.thenS, Oper.about, Fence.wide, Array.replicate_succ]
  refine wpSIn_of_wpIn rfl ?_
  gi_wp2
  exact ⟨rfl, _, rfl, _, (by simp [results, Tryz.results199]), rfl, rfl, rfl⟩
set_option maxRecDepth 100000 in
set_option maxHeartbeats 1000000 in
theorem catch_idle (n : Nat) (p : Addr) (w : World) :
    CallsDIn Fence.wide n Tryz.prog 199 #[.pointer (some p)] .returning w fun e u' w' => e = .returned (.tuple #[]) ∧ u' = .returning ∧ w' = w := by
  have he := run_eql_iface_nil_left (P := Tryz.prog) w 34 (.int .i64 3) Tryz.underlying20
  have hne := run_neq_nil_nil (P := Tryz.prog) w 20 (by kernel_rfl)
  refine callsDIn_of_wpSIn Tryz.func199 rfl trivial fun c₀ cs hu => ?_
  apply wpSIn_seq
  apply wpSIn_region
  simp [wpOpsSIn, go_sem, recoverD, hu, Tryz.ntmps199, Exit.thenS, Oper.about, Fence.wide, Array.replicate_succ]
  refine wpSIn_of_wpIn rfl ?_
  gi_wp2
  cases c₀
  simp only at hu
  subst hu
  exact ⟨rfl, _, rfl, _, (by simp [results, Tryz.results199]), rfl, rfl, rfl⟩
end Go.Proofs.YthfilnflgahcjaaGreatDoor

namespace Go.Proofs.YthfilnflgahcjaaGreatDoor
open Go.RowKit Go.Shelf
set_option linter.unusedVariables false
attribute [local go_sem] Oper.semAt_some
theorem in_wide {F : Fence} {n : Nat} {P : Program} {f : FuncId} {args : Array Value} {w : World} {R : Ending → World → Prop} (hF : F = Fence.wide) (h : Calls P f args w R) : CallsIn F n P f args w R := by
  rw [hF]; exact callsIn_wide.2 h
/-- What Check answers: its number. -/
def checkN (T : Tree) : Int := if (T.pre 1).all (fun x => shapedB x.2) = true then (if heavy 0 (T.pre 1) = true then 3 else 0) else 110
theorem weigh_calls (v : Value) (T : Tree) (w : World) (hv : Lies w.heap.size w v T) (hh : T.height < 100000000) (hb : bytesOf (T.pre 1) < 4611686018427387904) :
    Calls Tryz.prog 200 #[v] w fun e w' => Below w.heap.size w w' ∧ ((heavy 0 (T.pre 1) = false ∧ ∃ x, e = .returned x) ∨ (heavy 0 (T.pre 1) = true ∧ e = .panicked [{ v := .iface 34 (.int .i64 3), recovered := false }])) := by
  refine CallsIn.calls (F := Fence.list [200, 197, 234, 235] none) (n := 0) ?_ ?_
  · refine weigh_any rfl rfl (by simp [Fence.list]) (by simp [Fence.list]) (by simp [Fence.list]) (by simp [Fence.list]) ?_ 0 v T w hv hh hb
    intro f hf
    simp only [Fence.list, List.mem_cons, List.not_mem_nil, or_false] at hf
    rcases hf with rfl | rfl | rfl | rfl
    · exact ⟨_, Tryz.func200⟩
    · exact ⟨_, Tryz.func197⟩
    · exact ⟨_, Tryz.func234⟩
    · exact ⟨_, Tryz.func235⟩
  · exact room_of_none rfl
set_option maxRecDepth 100000 in
set_option maxHeartbeats 1000000 in
theorem check_any (v : Value) (T : Tree) (w : World) (hv : Lies w.heap.size w v T) (hT : Tabs w) (hh : T.height < 100000000) (hb : bytesOf (T.pre 1) < 4611686018427387904) :
    Calls Tryz.prog 151 #[v] w fun e w' => e = .returned (.int .i64 (checkN T)) ∧ Below w.heap.size w w' := by
  refine (callsIn_wide (n := 0)).1 ?_
  obtain ⟨F, hF⟩ : ∃ F, F = Fence.wide := ⟨_, rfl⟩
  rw [← hF]
  have hd : F.depth = none := by rw [hF]; rfl
  have hro : F.round = none := by rw [hF]; rfl
  have hfn : ∀ f, F.fn f := by rw [hF]; exact fun _ => trivial
  have HF : Hid (F = Fence.wide) := hF
  clear hF
  obtain ⟨k, b, n, s, ks, ts⟩ := T
  have hv0 := hv
  simp only [Lies] at hv
  obtain ⟨ka, kc, la, lc, rfl, ⟨hs1, hs2, hs3, hs4, hs5⟩, hk, ht⟩ := hv
  refine callsIn_of_wp_marks Tryz.func151 rfl (hfn _) ?_ hro
  simp only [Tryz.ntmps151, List.size_toArray, List.length_cons, List.length_nil, Nat.reduceAdd, Nat.reduceSub, Array.replicate_succ, Array.replicate_zero, List.push_toArray, List.append_toArray, List.nil_append, List.cons_append]
  gi_wp2_with (gi_at_call 197; refine (within_any (hfn _) hro _ _ _ _ _ _ _ _ _ _ _ _).mono ?_; rintro e w' ⟨rfl, rfl⟩)
  refine range_wp hro hd (gf := 234) (lb := #[.pointer (some ⟨w.heap.size + 1 + 1, 0, none⟩)]) rfl (hfn _) (enters_of Tryz.func234 (by kernel_rfl) rfl) ?_
  intro fn hfn0
  generalize hrec : Loop.mk _ _ _ _ _ _ _ _ = rec
  simp only [World.size_alloc]
  generalize hW0 : World.alloc _ (Obj.loop rec) = W0
  have hsz : W0.heap.size = w.heap.size + 5 := by rw [← hW0]; simp
  have b0 : W0.heap[w.heap.size]? = some (.cells #[.int .i64 k, .bool b, .int .i64 n, .string s, .slice ka ks.length kc, .slice la ts.length lc] 88 (0, 0)) := by rw [← hW0]; simp only [heap_alloc_at, World.size_alloc]; repeat (first | rw [if_pos trivial] | rw [if_pos (by omega)] | rw [if_neg (by omega)])
  have b1 : W0.heap[w.heap.size + 1]? = some (.cells #[.int .i64 0] 34 (0, 0)) := by rw [← hW0]; simp only [heap_alloc_at, World.size_alloc]; repeat (first | rw [if_pos trivial] | rw [if_pos (by omega)] | rw [if_neg (by omega)])
  have b2 : W0.heap[w.heap.size + 2]? = some (.cells #[.int .i64 k, .bool b, .int .i64 n, .string s, .slice ka ks.length kc, .slice la ts.length lc] 88 (0, 0)) := by rw [← hW0]; simp only [heap_alloc_at, World.size_alloc]; repeat (first | rw [if_pos trivial] | rw [if_pos (by omega)] | rw [if_neg (by omega)])
  have b3 : W0.heap[w.heap.size + 3]? = some (.deferred (some [])) := by rw [← hW0]; simp only [heap_alloc_at, World.size_alloc]; repeat (first | rw [if_pos trivial] | rw [if_pos (by omega)] | rw [if_neg (by omega)])
  have b4 : W0.heap[w.heap.size + 4]? = some (.loop rec) := by rw [← hW0]; simp only [heap_alloc_at, World.size_alloc]; repeat (first | rw [if_pos trivial] | rw [if_pos (by omega)] | rw [if_neg (by omega)])
  have hbl : Below w.heap.size w W0 := by
    rw [← hW0]; exact (((((Below.refl _ w).alloc (Nat.le_refl _) _).alloc (by simp) _).alloc (by simp; omega) _).alloc (by simp; omega) _).alloc (by simp; omega) _
  clear hW0
  have R : Rounds F (w.heap.size + 4) w.heap.size (w.heap.size + 5) w ((Tree.mk k b n s ks ts).pre 1)
      (fun pre W => W.heap[w.heap.size + 4]? = some (.loop rec) ∧ W.heap[w.heap.size + 3]? = some (.deferred (some [])) ∧ W.heap[w.heap.size + 1]? = some (.cells #[.int .i64 0] 34 (0, 0)) ∧
        W.heap[w.heap.size]? = some (.cells #[.int .i64 k, .bool b, .int .i64 n, .string s, .slice ka ks.length kc, .slice la ts.length lc] 88 (0, 0)) ∧
        Below w.heap.size w W ∧ w.heap.size + 5 ≤ W.heap.size ∧ pre.all (fun x => shapedB x.2) = true)
      (fun W => W.heap[w.heap.size + 4]? = some (.loop (asDone rec .ret)) ∧ W.heap[w.heap.size + 3]? = some (.deferred (some [])) ∧ W.heap[w.heap.size + 1]? = some (.cells #[.int .i64 110] 34 (0, 0)) ∧
        Below w.heap.size w W ∧ w.heap.size + 5 ≤ W.heap.size ∧ ((Tree.mk k b n s ks ts).pre 1).all (fun x => shapedB x.2) = false)
      (fun _ _ => False) := by
    refine ⟨?_, ?_, ?_⟩
    · rintro pre W ⟨_, _, _, _, h4, h5, _⟩
      exact ⟨h4, by omega, h5⟩
    · rintro pre W W' ⟨h1, h2, h3, h3', h4, h5, h6⟩ hb
      exact ⟨(hb.block _ (by omega)).trans h1, (hb.block _ (by omega)).trans h2, (hb.block _ (by omega)).trans h3, (hb.block _ (by omega)).trans h3', h4.trans (hb.mono (by omega)), by have := hb.size; omega, h6⟩
    · rintro m' pre d ⟨k', b', n', s', ks', us⟩ v W ⟨h1, h2, h3, h3', h4, h5, h6⟩ hlv hpre
      have hlv0 := hlv
      simp only [Lies] at hlv
      obtain ⟨ka', kc', la', lc', rfl, ⟨g1, g2, g3, g4, g5⟩, hk', ht'⟩ := hlv
      have ea := congrArg Loop.assign hrec
      have eb := congrArg Loop.body hrec
      have et := congrArg Loop.tmps hrec
      have ep := congrArg Loop.params hrec
      have es := congrArg Loop.state hrec
      have ef := congrArg Loop.fn hrec
      have hr0 : asReady rec = rec := by rw [← hrec]; rfl
      dsimp only at ea eb et ep es ef
      clear hrec
      refine yield_round (hfn _) ea eb et ep h1 es.symm (by rw [← ep]; rfl) ?_
      clear ea eb et ep es
      gi_wp2_with fail
      refine ⟨(Below.heap_alloc _ _ _ (by omega)).trans h1, ?_⟩
      generalize hW2 : World.putObj _ _ _ = W2
      have a1 : W2.heap[w.heap.size + 4]? = some (.loop (asBusy rec)) := by rw [← hW2]; refine World.putObj_heap_same ?_; simp; omega
      have a2 : Boxed W2 (w.heap.size + 1) 34 (.int .i64 0) := by rw [← hW2]; show _ = _; rw [World.putObj_heap_other (by omega), Below.heap_alloc _ _ _ (by omega)]; exact h3
      have a0 : W2.heap[w.heap.size]? = some (.cells #[.int .i64 k, .bool b, .int .i64 n, .string s, .slice ka ks.length kc, .slice la ts.length lc] 88 (0, 0)) := by rw [← hW2, World.putObj_heap_other (by omega), Below.heap_alloc _ _ _ (by omega)]; exact h3'
      have a3 : W2.heap[w.heap.size + 3]? = some (.deferred (some [])) := by rw [← hW2, World.putObj_heap_other (by omega), Below.heap_alloc _ _ _ (by omega)]; exact h2
      have a4 : W2.heap[W.heap.size]? = some (.cells #[.int .i64 k', .bool b', .int .i64 n', .string s', .slice ka' ks'.length kc', .slice la' us.length lc'] 88 (0, 0)) := by
        rw [← hW2]; exact (World.putObj_heap_other (by omega)).trans (World.alloc_heap_new _ _)
      have a5 : Below w.heap.size w W2 := by rw [← hW2]; exact (But.putObj _ _).below ((h4.alloc (by omega) _)) (by omega)
      have a6 : W2.heap.size = W.heap.size + 1 := by rw [← hW2]; simp
      have a7 : Above (w.heap.size + 5) W W2 := ⟨by omega, fun i hi hl => by rw [← hW2]; exact (World.putObj_heap_other (by omega)).trans (Below.heap_alloc _ _ _ hl)⟩
      clear hW2 h1 h2 h3 h3'
      have x0 : W2.cell? ⟨W.heap.size, 0, none⟩ = some (.int .i64 k') := by unfold World.cell?; simp only [a4]; rfl
      have x1 : W2.cell? ⟨W.heap.size, 1, none⟩ = some (.bool b') := by unfold World.cell?; simp only [a4]; rfl
      have x2 : W2.cell? ⟨W.heap.size, 2, none⟩ = some (.int .i64 n') := by unfold World.cell?; simp only [a4]; rfl
      have x3 : W2.cell? ⟨W.heap.size, 3, none⟩ = some (.string s') := by unfold World.cell?; simp only [a4]; rfl
      have x4 : W2.cell? ⟨W.heap.size, 4, none⟩ = some (.slice ka' ks'.length kc') := by unfold World.cell?; simp only [a4]; rfl
      have x5 : W2.cell? ⟨W.heap.size, 5, none⟩ = some (.slice la' us.length lc') := by unfold World.cell?; simp only [a4]; rfl
      have hsp := shaped_any w.heap.size _ _ W2 (by have := a5.size; omega) (hlv0.below a5) (hT.below a5)
      gi_wp2_with fail
      refine (CallsIn.inRound _ (in_wide HF.out hsp)).mono ?_
      rintro e W3 ⟨rfl, hb3⟩
      have c1 : W3.heap[w.heap.size + 4]? = some (.loop (asBusy rec)) := (hb3.block _ (by omega)).trans a1
      have c2 : Boxed W3 (w.heap.size + 1) 34 (.int .i64 0) := (hb3.block _ (by omega)).trans a2
      have c3 : W3.heap[w.heap.size + 3]? = some (.deferred (some [])) := (hb3.block _ (by omega)).trans a3
      have c0 : W3.heap[w.heap.size]? = some (.cells #[.int .i64 k, .bool b, .int .i64 n, .string s, .slice ka ks.length kc, .slice la ts.length lc] 88 (0, 0)) := (hb3.block _ (by omega)).trans a0
      have c5 : Below w.heap.size w W3 := a5.trans (hb3.mono (by omega))
      have c7 : Above (w.heap.size + 5) W W3 := a7.trans (Above.of_below hb3 (Nat.le_refl _))
      have hz3 := hb3.size
      have cb := c2.cell
      have fb := c2.frozen
      clear hsp hb3 a0 a1 a2 a3 a4 a5 a7 x0 x1 x2 x3 x4 x5
      cases hsh : shapedB (.mk k' b' n' s' ks' us) with
      | true =>
        have HJ : Hid ((pre ++ [(d, Tree.mk k' b' n' s' ks' us)]).all (fun x => shapedB x.2) = true) := by show _ = _; rw [List.all_append, h6]; simp [hsh]
        clear hsh h6
        gi_wp2_with fail
        refine ⟨c1, .inl ⟨rfl, ⟨?_, ?_, ?_, ?_, ?_, ?_, HJ.out⟩, ?_⟩⟩
        · rw [hr0]; exact World.putObj_heap_same (by omega)
        · rw [World.putObj_heap_other (by omega)]; exact c3
        · rw [World.putObj_heap_other (by omega)]; exact c2
        · rw [World.putObj_heap_other (by omega)]; exact c0
        · exact (But.putObj _ _).below c5 (by omega)
        · rw [World.putObj_size]; omega
        · refine c7.trans ⟨by rw [World.putObj_size]; omega, fun i hi hl => ?_⟩
          rw [World.putObj_heap_other (by omega)]
      | false =>
        have HJ : Hid (((Tree.mk k b n s ks ts).pre 1).all (fun x => shapedB x.2) = false) := by
          obtain ⟨r, hr⟩ := hpre
          show _ = _
          rw [← hr, List.all_append, List.all_append]; simp [hsh]
        clear hsh h6
        gi_wp2_with fail
        have e4 : (W3.setCell ⟨w.heap.size + 1, 0, none⟩ (.int .i64 110)).heap[w.heap.size + 4]? = some (.loop (asBusy rec)) := (Below.heap_setCell _ _ _ _ (by show w.heap.size + 4 ≠ w.heap.size + 1; omega)).trans c1
        have hsz4 : (W3.setCell ⟨w.heap.size + 1, 0, none⟩ (.int .i64 110)).heap.size = W3.heap.size := by simp [World.setCell]
        refine ⟨e4, .inr (.inl ⟨rfl, ?_, ?_, ?_, ?_, ?_, HJ.out⟩)⟩
        · exact World.putObj_heap_same (by omega)
        · rw [World.putObj_heap_other (by omega)]; exact (Below.heap_setCell _ _ _ _ (by show w.heap.size + 3 ≠ w.heap.size + 1; omega)).trans c3
        · rw [World.putObj_heap_other (by omega)]; exact c2.set _
        · exact (But.putObj _ _).below (c5.setCell (p := ⟨w.heap.size + 1, 0, none⟩) (by show _ ≤ w.heap.size + 1; omega) _) (by omega)
        · rw [World.putObj_size]; omega
  have hco : ∀ (i : Nat) (v : Value), (#[Value.int .i64 k, .bool b, .int .i64 n, .string s, .slice ka ks.length kc, .slice la ts.length lc] : Array Value)[i]? = some v → ∀ (W : World) (bx : Nat), W.heap[bx]? = some (.cells #[.int .i64 k, .bool b, .int .i64 n, .string s, .slice ka ks.length kc, .slice la ts.length lc] 88 (0, 0)) → W.cell? ⟨bx, i, none⟩ = some v := by
    intro i v hi W bx hbx; unfold World.cell?; simp only [hbx]; simpa using hi
  refine (within1_any hd (hfn _) (hfn _) hro R _ (w.heap.size + 1 + 1) W0 hv0 ⟨b4, b3, b1, b0, hbl, by omega, rfl⟩ (by simp only [Tree.height] at hh; omega)
    (hco 0 _ rfl _ _ b2) (hco 1 _ rfl _ _ b2) (hco 2 _ rfl _ _ b2) (hco 3 _ rfl _ _ b2) (hco 4 _ rfl _ _ b2) (hco 5 _ rfl _ _ b2)).mono ?_
  rintro e W' (⟨⟨x, rfl⟩, ⟨h1, h2, h3, h3', h4, h5, h6⟩ | ⟨h1, h2, h3, h4, h5, h6⟩⟩ | ⟨ch, _, hx⟩)
  · have hp : rec.pending = none := by rw [← hrec]
    have hst : rec.state ≠ .busy := by rw [← hrec]; simp
    clear hrec R b0 b1 b2 b3 b4 hbl hsz
    refine ⟨rec, h1, hst, ?_⟩
    simp only [hp]
    generalize hW4 : World.putObj _ _ _ = W4
    have d1 : Boxed W4 (w.heap.size + 1) 34 (.int .i64 0) := by rw [← hW4]; show _ = _; rw [World.putObj_heap_other (by omega)]; exact h3
    have d0 : W4.heap[w.heap.size]? = some (.cells #[.int .i64 k, .bool b, .int .i64 n, .string s, .slice ka ks.length kc, .slice la ts.length lc] 88 (0, 0)) := by rw [← hW4, World.putObj_heap_other (by omega)]; exact h3'
    have d3 : W4.heap[w.heap.size + 3]? = some (.deferred (some [])) := by rw [← hW4, World.putObj_heap_other (by omega)]; exact h2
    have d4 : Below w.heap.size w W4 := by rw [← hW4]; exact (But.putObj _ _).below h4 (by omega)
    have d5 : w.heap.size + 5 ≤ W4.heap.size := by rw [← hW4, World.putObj_size]; exact h5
    clear hW4 h1 h2 h3 h3' h4 h5 hst hp
    have x0 := hco 0 _ rfl _ _ d0
    have x1 := hco 1 _ rfl _ _ d0
    have x2 := hco 2 _ rfl _ _ d0
    have x3 := hco 3 _ rfl _ _ d0
    have x4 := hco 4 _ rfl _ _ d0
    have x5 := hco 5 _ rfl _ _ d0
    clear hco
    have hwe := weigh_calls _ _ W4 ((hv0.below d4).mono (by omega)) hh hb
    gi_wp2_with fail
    refine (in_wide HF.out hwe).mono ?_
    clear hwe x0 x1 x2 x3 x4 x5 d0
    rintro e W5 ⟨hb5, ⟨hh0, x, rfl⟩ | ⟨hh1, rfl⟩⟩
    · have f1 : Boxed W5 (w.heap.size + 1) 34 (.int .i64 0) := (hb5.block _ (by omega)).trans d1
      have f3 : W5.heap[w.heap.size + 3]? = some (.deferred (some [])) := (hb5.block _ (by omega)).trans d3
      have f4 : Below w.heap.size w W5 := d4.trans (hb5.mono (by omega))
      have f5 := hb5.size
      have cb := f1.cell
      have fb := f1.frozen
      have HN : Hid (checkN (.mk k b n s ks ts) = 0) := by show _ = _; unfold checkN; rw [if_pos h6, if_neg (by rw [hh0]; simp)]
      clear d1 d3 d4 hb5 hh0 h6
      gi_wp2_with fail
      have hq3 : (W5.setCell ⟨w.heap.size + 1, 0, none⟩ (.int .i64 0)).heap[w.heap.size + 3]? = some (.deferred (some [])) := (Below.heap_setCell _ _ _ _ (by show w.heap.size + 3 ≠ w.heap.size + 1; omega)).trans f3
      have hq4 : Below w.heap.size w (W5.setCell ⟨w.heap.size + 1, 0, none⟩ (.int .i64 0)) := f4.setCell (p := ⟨w.heap.size + 1, 0, none⟩) (by show _ ≤ w.heap.size + 1; omega) _
      have hq1 : Boxed (W5.setCell ⟨w.heap.size + 1, 0, none⟩ (.int .i64 0)) (w.heap.size + 1) 34 (.int .i64 0) := f1.set _
      show LeavesInM _ _ _ _ _ _ [_, _] _ _
      refine ⟨by simp, .inr ⟨depth_none hd _, _, _, 199, #[.pointer (some ⟨w.heap.size + 1, 0, none⟩)], rfl, by simp [invoke, go_sem], fun g _ => hfn g, ?_⟩⟩
      rw [HF.out]
      refine (catch_idle _ _ _).mono ?_
      rintro e u' w'' ⟨rfl, rfl, rfl⟩
      show LeavesInM _ _ _ _ _ _ [_] .returning _
      refine ⟨by simp, .inl ⟨_, _, rfl, run_takeDeferred hq3, ?_⟩⟩
      have hq5 : Boxed ((W5.setCell ⟨w.heap.size + 1, 0, none⟩ (.int .i64 0)).putObj (w.heap.size + 3) (.deferred none)) (w.heap.size + 1) 34 (.int .i64 0) := (World.putObj_heap_other (by omega)).trans hq1
      refine ⟨.int .i64 0, ?_, by rw [HN.out], (But.putObj _ _).below hq4 (by omega)⟩
      have hq6 := hq5.cell
      simp [results, Tryz.results151, go_sem, hq6]
    · have f1 : Boxed W5 (w.heap.size + 1) 34 (.int .i64 0) := (hb5.block _ (by omega)).trans d1
      have f3 : W5.heap[w.heap.size + 3]? = some (.deferred (some [])) := (hb5.block _ (by omega)).trans d3
      have f4 : Below w.heap.size w W5 := d4.trans (hb5.mono (by omega))
      have f5 := hb5.size
      have HN : Hid (checkN (.mk k b n s ks ts) = 3) := by show _ = _; unfold checkN; rw [if_pos h6, if_pos hh1]
      have hq3 : (W5.setCell ⟨w.heap.size + 1, 0, none⟩ (.int .i64 3)).heap[w.heap.size + 3]? = some (.deferred (some [])) := (Below.heap_setCell _ _ _ _ (by show w.heap.size + 3 ≠ w.heap.size + 1; omega)).trans f3
      have hq4 : Below w.heap.size w (W5.setCell ⟨w.heap.size + 1, 0, none⟩ (.int .i64 3)) := f4.setCell (p := ⟨w.heap.size + 1, 0, none⟩) (by show _ ≤ w.heap.size + 1; omega) _
      have hq1 : Boxed (W5.setCell ⟨w.heap.size + 1, 0, none⟩ (.int .i64 3)) (w.heap.size + 1) 34 (.int .i64 3) := f1.set _
      show LeavesInM _ _ _ _ _ _ [_, _] _ _
      refine ⟨by simp, .inr ⟨depth_none hd _, _, _, 199, #[.pointer (some ⟨w.heap.size + 1, 0, none⟩)], rfl, by simp [invoke, go_sem], fun g _ => hfn g, ?_⟩⟩
      rw [HF.out]
      refine (catch_long _ _ 0 _ f1.cell f1.frozen).mono ?_
      rintro e u' w'' ⟨rfl, rfl, rfl⟩
      show LeavesInM _ _ _ _ _ _ [_] .returning _
      refine ⟨by simp, .inl ⟨_, _, rfl, run_takeDeferred hq3, ?_⟩⟩
      have hq5 : Boxed ((W5.setCell ⟨w.heap.size + 1, 0, none⟩ (.int .i64 3)).putObj (w.heap.size + 3) (.deferred none)) (w.heap.size + 1) 34 (.int .i64 3) := (World.putObj_heap_other (by omega)).trans hq1
      refine ⟨.int .i64 3, ?_, by rw [HN.out], (But.putObj _ _).below hq4 (by omega)⟩
      have hq6 := hq5.cell
      simp [results, Tryz.results151, go_sem, hq6]
  · have HN : Hid (checkN (.mk k b n s ks ts) = 110) := by show _ = _; unfold checkN; rw [if_neg (by rw [h6]; simp)]
    refine ⟨asDone rec .ret, h1, by simp [asDone], ?_⟩
    simp only [asDone]
    clear hrec R b0 b1 b2 b3 b4 hbl hsz hco
    generalize hW4 : World.putObj _ _ _ = W4
    have d1 : Boxed W4 (w.heap.size + 1) 34 (.int .i64 110) := by rw [← hW4]; show _ = _; rw [World.putObj_heap_other (by omega)]; exact h3
    have d3 : W4.heap[w.heap.size + 3]? = some (.deferred (some [])) := by rw [← hW4, World.putObj_heap_other (by omega)]; exact h2
    have d4 : Below w.heap.size w W4 := by rw [← hW4]; exact (But.putObj _ _).below h4 (by omega)
    clear hW4 h1 h2 h3 h4 h6
    gi_wp2_with fail
    show LeavesInM _ _ _ _ _ _ [_] .returning _
    refine ⟨by simp, .inl ⟨_, _, rfl, run_takeDeferred d3, ?_⟩⟩
    have hq5 : Boxed (W4.putObj (w.heap.size + 3) (.deferred none)) (w.heap.size + 1) 34 (.int .i64 110) := (World.putObj_heap_other (by omega)).trans d1
    refine ⟨.int .i64 110, ?_, by rw [HN.out], (But.putObj _ _).below d4 (by omega)⟩
    have hq6 := hq5.cell
    simp [results, Tryz.results151, go_sem, hq6]
  · exact hx.elim
end Go.Proofs.YthfilnflgahcjaaGreatDoor

