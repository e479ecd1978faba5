/- A graph's ends, counted (endCounts 45). Numbers that rise: the program's word. -/
import Derived.Test.YthfilnflgahcjaaGreatDoorSen1
import Derived.Test.YthfilnflgahcjaaGreatDoorJoin10
import Derived.Stop.RegionWithIn
import Derived.Test.YthfilnflgahcjaaGreatDoorJoin19
namespace Go.Proofs.YthfilnflgahcjaaGreatDoor
open Go.RowKit Go.Shelf Go.Maps
set_option linter.unusedVariables false
set_option linter.unusedSimpArgs false
attribute [local go_sem] Oper.semAt_some
theorem map143 : Tryz.prog.underlying 143 = some (.map 64 2) := by kernel_rfl
theorem wpIn_fixed {F : Fence} {n : Nat} {P : Program} {c : Code} {Q : Exit → Act → World → Prop} {a : Act} {w : World} (w2 : World) (h : ∃ A, c.wpIn F n P (Exit.then (fun a W => a = A ∧ W = w2) fun _ _ _ => False) a w ∧ Q .normal A w2) : c.wpIn F n P Q a w := by
  obtain ⟨A, h1, h2⟩ := h
  exact wpIn_mono h1 (fun e a W q => by cases e <;> first | (obtain ⟨e2, e3⟩ := q; subst e2; subst e3; exact h2) | exact q.elim)
theorem end_bump {W : World} {b : Nat} {cs : List (EndR × Int)} (h : MC endV okE W b cs) (hn : (cs.map Prod.fst).Nodup) (x : EndR) (hx : okE x) (d : Int) :
    ∃ (st : Nat) (w1 w2 : World), (Instr.lookup 143 (.map (some b)) (endV x) false).run Tryz.prog W.drew = .ok (.int .i64 (countOf x cs)) W.drew ∧ (Instr.mapEntry 143 (.map (some b)) (endV x)).run Tryz.prog W.drew = .ok (.tuple #[.int .i64 (countOf x cs), .int .i64 st]) w1 ∧ (Instr.lookup 143 (.map (some b)) (endV x) false).run Tryz.prog w1 = .ok (.int .i64 (countOf x cs)) w1 ∧ (Instr.entryStore 143 (.map (some b)) (.int .i64 st) (.int .i64 (countOf x cs + d))).run Tryz.prog w1 = .ok () w2 ∧ MC endV okE w2 b (bump x d cs) ∧ w2.heap.size = W.heap.size ∧ (∀ i, i ≠ b → w2.heap[i]? = W.heap[i]?) ∧ Below b W w2 := by
  obtain ⟨st, w1, w2, q1, q2, q3, q4, q5, q6, q7, q8⟩ := mc_bump endT map143 (w := W.drew) h hn x hx d
  exact ⟨st, w1, w2, q1, q2, q3, q4, q5, q6, q7, ((Below.refl b W).drew).trans q8⟩
/-- What the rounds keep. -/
structure EndJ (B : Nat) (w W1 w2 : World) (rec : Loop) (pre : List (EndR × Int)) (W : World) : Prop where
  room : w2.heap.size + 2 ≤ W.heap.size
  loop : W.heap[w2.heap.size + 1]? = some (.loop rec)
  dfr : W.heap[w2.heap.size]? = some (.deferred (some []))
  mc : MC endV okE W (w.heap.size + 1) (gather pre)
  keep : ∀ i, i < w2.heap.size → i ≠ w.heap.size + 1 → W.heap[i]? = w2.heap[i]?
  below : Below w.heap.size w W
  lab : Below B W1 W
  small : ∀ p ∈ pre, 0 ≤ p.2 ∧ p.2 ≤ 200000
set_option maxRecDepth 100000 in
set_option maxHeartbeats 8000000 in
theorem ends_cnt {le : EndR → EndR → Prop} {most : Nat} (hsort : Sorts92 le most) (hmost : most ≤ 900000) (g : GraphP) (v : Value) (B : Nat) (w : World) (hB : B ≤ w.heap.size) (h : GraphLies B w v g) (hl : g.rels.length ≤ 100000) (hln : g.nodes.length ≤ 100000) (hw64 : ∀ r ∈ g.rels, W64 r.fr ∧ W64 r.tt) (hnd : (g.nodes.map NodeP.id).Nodup) (hid : ∀ n ∈ g.nodes, W64 n.id)
    (K : Nat) (hK : ∀ n ∈ g.nodes, n.labels.length ≤ K) (hKm : K ≤ 1000000000) (hN : (cnt (jointsOf g.rels)).length * K ≤ 1000000000) (hm : (gather (endsOf g.nodes (cnt (jointsOf g.rels)))).length ≤ most) :
    Calls Tryz.prog 45 #[v] w fun e w' => ∃ v L, e = .returned v ∧ L.Perm ((gather (endsOf g.nodes (cnt (jointsOf g.rels)))).map (fun p : EndR × Int => (p.1.1, p.1.2.1, p.1.2.2.1, p.2))) ∧ L.Pairwise le ∧ ORow 64 4 endC w.heap.size w' v L ∧ Below w.heap.size w w' := by
  have HG := hidE h
  obtain ⟨na, nc, ra, rc, rfl, _, _⟩ := h
  have HE := hidE (fun W (hW : B ≤ W.heap.size) (hg : GraphLies B W (.agg #[.slice na g.nodes.length nc, .slice ra g.rels.length rc, .int .i64 g.nn, .int .i64 g.nr]) g) => ends_any g _ B W hW hg hl hln hw64 hnd hid)
  have HND := hidE hnd
  have HKK := hidE (labsAt_le hK)
  have HN := hidE hN
  have HMO := hidE hm
  have HJS : Hid (∀ p ∈ cnt (jointsOf g.rels), 0 ≤ p.2 ∧ p.2 ≤ 200000) := fun p hp => by
    have h1 := cnt_vals _ p hp
    have h2 := jointsOf_len g.rels
    omega
  generalize g.nodes.length = l1 at *
  generalize g.rels.length = l2 at *
  generalize g.nn = nn at *
  generalize g.nr = nr at *
  clear hw64 hnd hid hK hN hm
  have hmk : ∀ W : World, (Instr.makeMap 143 none).run Tryz.prog W = .ok (.map (some W.heap.size)) (W.alloc (.map #[] 0)) := fun W => rfl
  refine (callsIn_wide (n := 0)).1 ?_
  obtain ⟨Fe, hF⟩ : ∃ F, F = Fence.wide := ⟨_, rfl⟩
  rw [← hF]
  have hd : Fe.depth = none := by rw [hF]; rfl
  have hro : Fe.round = none := by rw [hF]; rfl
  have hfn : ∀ f, Fe.fn f := by rw [hF]; exact fun _ => trivial
  refine callsIn_of_wp_marks Tryz.func45 rfl (hfn _) ?_ hro
  simp only [Tryz.ntmps45, List.size_toArray, List.length_cons, List.length_nil, Nat.reduceAdd, Nat.reduceSub, Array.replicate_succ, Array.replicate_zero, List.push_toArray, List.append_toArray, List.nil_append, List.cons_append]
  subst hF
  refine wpIn_wide.2 ?_
  go_upto_region 2 with fail
  obtain ⟨Wa, hWa⟩ : ∃ W, w.alloc (.cells #[.slice na l1 nc, .slice ra l2 rc, .int .i64 nn, .int .i64 nr] 25) = W := ⟨_, rfl⟩
  have ra0 : Rec Wa w.heap.size #[.slice na l1 nc, .slice ra l2 rc, .int .i64 nn, .int .i64 nr] 25 := by rw [← hWa]; exact rec_new _ _ _
  have hza : Wa.heap.size = w.heap.size + 1 := by rw [← hWa]; simp
  have hba : Below w.heap.size w Wa := by rw [← hWa]; exact (Below.refl _ _).alloc (Nat.le_refl _) _
  try rw [hWa]
  obtain ⟨Wb, hWb⟩ : ∃ W, Wa.alloc (.map #[] 0) = W := ⟨_, rfl⟩
  have hbb : Below Wa.heap.size Wa Wb := by rw [← hWb]; exact (Below.refl _ _).alloc (Nat.le_refl _) _
  have hmb : MC endV okE Wb (w.heap.size + 1) [] := by rw [← hWb, ← hza]; exact mg_none _
  have hzb : Wb.heap.size = w.heap.size + 1 + 1 := by rw [← hWb, ← hza]; simp
  try rw [hWb]
  obtain ⟨W1, hW1⟩ : ∃ W, Wb.alloc (.cells #[.map (some (w.heap.size + 1))] 143) = W := ⟨_, rfl⟩
  have hbc : Below Wb.heap.size Wb W1 := by rw [← hW1]; exact (Below.refl _ _).alloc (Nat.le_refl _) _
  have rb1 : Rec W1 (w.heap.size + 1 + 1) #[.map (some (w.heap.size + 1))] 143 := by rw [← hW1, ← hzb]; exact rec_new _ _ _
  have hz1 : W1.heap.size = w.heap.size + 1 + 1 + 1 := by rw [← hW1, ← hzb]; simp
  have ra1 : Rec W1 w.heap.size #[.slice na l1 nc, .slice ra l2 rc, .int .i64 nn, .int .i64 nr] 25 := (ra0.below hbb (by omega)).below hbc (by omega)
  have HM1 : Hid (MC endV okE W1 (w.heap.size + 1) []) := MG.block hmb (hbc.block _ (by omega))
  have hb1 : Below w.heap.size w W1 := Below.on (Below.on hba hbb) hbc
  have HB1 := hidE hb1
  have HE1 := hidE (HE.out W1 (by omega) (HG.out.below (hb1.mono hB)))
  have HZ1 := hidE hz1
  have HR1 := hidE rb1
  try rw [hW1]
  have c0 := ra1.cell 0 rfl
  have c1 := ra1.cell 1 rfl
  have c2 := ra1.cell 2 rfl
  have c3 := ra1.cell 3 rfl
  clear hWa hWb hW1 hza hzb hz1 hba hbb hbc hmb ra0 ra1 rb1 hb1 HE
  go_wp2_with fail
  refine HE1.out.mono ?_
  rintro e w2 ⟨bj, bl, mj, ml, rfl, rj, rl, g1, g2, g3, g4, mcj, lbm, hb2⟩
  have hz1 := HZ1.out
  have hs2 := hb2.size
  have hlj := rj.lt
  have hll := rl.lt
  have hmj := MG.lt mcj
  have hml := lbm.lt
  have HRJ := hidE rj
  have HRL := hidE rl
  have HMJ := hidE mcj
  have HLB := hidE lbm
  have HB2 := hidE hb2
  have HM2 : Hid (MC endV okE w2 (w.heap.size + 1) []) := MG.block HM1.out (hb2.block _ (by omega))
  have HR2 : Hid (Rec w2 (w.heap.size + 1 + 1) #[.map (some (w.heap.size + 1))] 143) := HR1.out.below hb2 HR1.out.lt
  clear rj rl mcj lbm hb2 HE1 HM1 HR1 c0 c1 c2 c3
  go_wp2_with fail
  refine (wpIn_wide (n := 0)).1 ?_
  obtain ⟨Fe, hF⟩ : ∃ F, F = Fence.wide := ⟨_, rfl⟩
  rw [← hF] at hd hro hfn ⊢
  refine range_wp hro hd (gf := 124) (lb := #[.pointer (some ⟨bj, 0, none⟩), .pointer (some ⟨bl, 0, none⟩)]) rfl (hfn _) (enters_of Tryz.func124 (by kernel_rfl) rfl) ?_
  intro fn hfn0
  have HFe := hidE hF
  clear hF
  generalize hrec : Loop.mk _ _ _ _ _ _ _ _ = rec
  simp only [World.size_alloc]
  generalize hW0 : World.alloc _ (Obj.loop rec) = W0
  have hsz : W0.heap.size = w2.heap.size + 2 := by rw [← hW0]; simp
  have b1 : W0.heap[w2.heap.size]? = some (.deferred (some [])) := by rw [← hW0]; simp only [heap_alloc_at, World.size_alloc]; repeat (first | rw [if_pos trivial] | rw [if_pos (by omega)] | rw [if_neg (by omega)])
  have b2 : W0.heap[w2.heap.size + 1]? = some (.loop rec) := by rw [← hW0]; simp only [heap_alloc_at, World.size_alloc]; repeat (first | rw [if_pos trivial] | rw [if_pos (by omega)] | rw [if_neg (by omega)])
  have hb0 : Below w2.heap.size w2 W0 := by
    rw [← hW0]
    exact ((Below.refl _ _).alloc (Nat.le_refl _) _).alloc (by simp) _
  have hBw : B ≤ w.heap.size := hB
  have HJ0 : Hid (EndJ B w W1 w2 rec [] W0) := ⟨by omega, b2, b1, MG.block HM2.out (hb0.block _ (by omega)), fun i hi _ => hb0.block i hi, ((HB1.out.trans (HB2.out.mono (by omega)))).trans (hb0.mono (by omega)), (HB2.out.mono (by omega)).trans (hb0.mono (by omega)), fun p hp => by simp at hp⟩
  have HRJ0 : Hid (Rec W0 bj #[.map (some mj)] 181) := HRJ.out.below hb0 hlj
  have HRL0 : Hid (Rec W0 bl #[.map (some ml)] 184) := HRL.out.below hb0 hll
  have HMJ0 : Hid (MC jntV okJ W0 mj (cnt (jointsOf g.rels))) := MG.block HMJ.out (hb0.block _ hmj)
  have HLB0 : Hid (LabM B W1 W0 ml g.nodes) := HLB.out.block (hb0.block _ hml)
  clear hW0 b1 b2 hb0 HRJ HRL HMJ HLB HM2
  have HYI : Hid (∀ m pre x W, EndJ B w W1 w2 rec pre W → okE x.1 → x.1.2.2.2 = 0 → 0 ≤ x.2 → x.2 ≤ 200000 → pre.length + 1 ≤ (cnt (jointsOf g.rels)).length * K → YieldAt Fe m Tryz.prog (w2.heap.size + 1) #[endV x.1, .int .i64 x.2] W fun e W' => e = .returned (.bool true) ∧ EndJ B w W1 w2 rec (pre ++ [x]) W' ∧ ∀ i, W0.heap.size ≤ i → i < W.heap.size → W'.heap[i]? = W.heap[i]?) := by
    rintro m pre ⟨⟨s, t, o, q⟩, z⟩ W hJ hok hq hz0 hz1' hlen
    simp only at hq hz0 hz1'
    subst hq
    have HOK := hidE hok
    have HJ := hidE hJ
    have ea := congrArg Loop.assign hrec
    have eb := congrArg Loop.body hrec
    have et := congrArg Loop.tmps hrec
    have ep := congrArg Loop.params hrec
    have es := congrArg Loop.state hrec
    have hr0' : asReady (asBusy rec) = rec := by rw [← hrec]; rfl
    dsimp only at ea eb et ep es
    clear hrec hok
    refine yield_round (hfn _) ea eb et ep hJ.loop es.symm (by rw [← ep]; rfl) ?_
    clear ea eb et ep es hJ
    have hrm := HJ.out.room
    simp only [endV]
    gi_upto_region 5 with fail
    obtain ⟨Wc, hWc⟩ : ∃ V, W.alloc (.cells #[.string s, .string t, .bool o, .int .i64 0] 64) = V := ⟨_, rfl⟩
    have hbc : Below W.heap.size W Wc := by rw [← hWc]; exact (Below.refl _ _).alloc (Nat.le_refl _) _
    have rx : Rec Wc W.heap.size #[.string s, .string t, .bool o, .int .i64 0] 64 := by rw [← hWc]; exact rec_new _ _ _
    have hzc : Wc.heap.size = W.heap.size + 1 := by rw [← hWc]; simp
    rw [hWc]
    refine ⟨(hbc.block _ (by omega)).trans HJ.out.loop, ?_⟩
    generalize hW2 : World.putObj _ _ _ = Wd
    have a2 : Wd.heap[w2.heap.size + 1]? = some (.loop (asBusy rec)) := by rw [← hW2]; exact World.putObj_heap_same (by omega)
    have ak : ∀ i, i ≠ w2.heap.size + 1 → Wd.heap[i]? = Wc.heap[i]? := fun i hi => by rw [← hW2]; exact World.putObj_heap_other hi
    have hzd : Wd.heap.size = W.heap.size + 1 := by rw [← hW2]; simp [hzc]
    have hbd : Below (w2.heap.size + 1) W Wd := by rw [← hW2]; exact (But.putObj _ _).below (hbc.mono (by omega)) (Nat.le_refl _)
    clear hW2
    have rx' : Rec Wd W.heap.size #[.string s, .string t, .bool o, .int .i64 0] 64 := rx.keep (ak _ (by omega))
    have hk2 : ∀ i, i < W.heap.size → i ≠ w2.heap.size + 1 → Wd.heap[i]? = W.heap[i]? := fun i h1 h2 => (ak i h2).trans (hbc.block i h1)
    have rb : Rec Wd (w.heap.size + 1 + 1) #[.map (some (w.heap.size + 1))] 143 := HR2.out.keep ((hk2 _ (by omega) (by omega)).trans (HJ.out.keep _ (by omega) (by omega)))
    have hmc : MC endV okE Wd (w.heap.size + 1) (gather pre) := MG.block HJ.out.mc (hk2 _ (by omega) (by omega))
    obtain ⟨st, w3, w4, q1, q2, q3, q4, q5, q6, q7, q8⟩ := end_bump hmc (gather_nodup _) (s, t, o, 0) HOK.out z
    have hcl := sumAt_le (x := (s, t, o, (0 : Int))) (c := 200000) (by omega) HJ.out.small
    rw [← gather_count] at hcl
    obtain ⟨cn, hcn⟩ : ∃ c, countOf ((s, t, o, 0) : EndR) (gather pre) = c := ⟨_, rfl⟩
    rw [hcn] at q1 q2 q3 q4 hcl
    have hcb : 0 ≤ cn ∧ cn ≤ 200000000000000 := by have := HN.out; omega
    have hwp : IntKind.i64.wrap (cn + z) = cn + z := by rw [IntKind.wrap_i64]; omega
    simp only [endV] at q1 q2 q3 q4
    have HNEW : Hid (w4.heap[w2.heap.size + 1]? = some (.loop (asBusy rec)) ∧ EndJ B w W1 w2 rec (pre ++ [((s, t, o, 0), z)]) (w4.putObj (w2.heap.size + 1) (.loop (asReady (asBusy rec)))) ∧ ∀ i, w2.heap.size + 2 ≤ i → i < W.heap.size → (w4.putObj (w2.heap.size + 1) (.loop (asReady (asBusy rec)))).heap[i]? = W.heap[i]?) := by
      have hpo : ∀ i, i ≠ w2.heap.size + 1 → (w4.putObj (w2.heap.size + 1) (.loop (asReady (asBusy rec)))).heap[i]? = w4.heap[i]? := fun i hi => World.putObj_heap_other hi
      have h4 : ∀ i, i < W.heap.size → i ≠ w2.heap.size + 1 → i ≠ w.heap.size + 1 → (w4.putObj (w2.heap.size + 1) (.loop (asReady (asBusy rec)))).heap[i]? = W.heap[i]? := fun i i1 i2 i3 => (hpo i i2).trans ((q7 i i3).trans (hk2 i i1 i2))
      have hb4 : Below (w.heap.size + 1) W (w4.putObj (w2.heap.size + 1) (.loop (asReady (asBusy rec)))) := (But.putObj _ _).below ((hbd.mono (by omega)).trans q8) (by omega)
      refine ⟨(q7 _ (by omega)).trans a2, ⟨?_, ?_, (h4 _ (by omega) (by omega) (by omega)).trans HJ.out.dfr, ?_, ?_, HJ.out.below.trans (hb4.mono (by omega)), HJ.out.lab.trans (hb4.mono (by omega)), ?_⟩, fun i i1 i2 => h4 i i2 (by omega) (by omega)⟩
      · have := hb4.size
        omega
      · rw [hr0']; exact World.putObj_heap_same (by omega)
      · rw [gather_snoc]
        exact MG.block q5 (hpo _ (by omega))
      · intro i i1 i2
        exact (h4 i (by omega) (by omega) i2).trans (HJ.out.keep i i1 i2)
      · intro p hp
        rcases List.mem_append.1 hp with hp | hp
        · exact HJ.out.small p hp
        · rw [List.mem_singleton.1 hp]; exact ⟨hz0, hz1'⟩
    have e0 := rb.cell 0 rfl
    have e1 := rx'.cell 0 rfl
    have e2 := rx'.cell 1 rfl
    have e3 := rx'.cell 2 rfl
    have e4 := rx'.cell 3 rfl
    clear q5 q6 q7 q8 hcl hcb hcn hbc rx hzc hWc a2 ak hzd hbd rx' hk2 rb hmc hz0 hz1' hlen
    gi_upto_region 5 with fail
    apply wpIn_fixed w4
    apply Exists.intro
    apply And.intro
    · gi_region_with fail
      all_goals exact ⟨rfl, rfl⟩
    · gi_wp2_with fail
      exact ⟨HNEW.out.1, rfl, HNEW.out.2.1, HNEW.out.2.2⟩
  have HV := hidE (ends1_any hd hro hfn (l := w2.heap.size + 1) (B := B) (w0 := W1) g.nodes (cnt (jointsOf g.rels)) bj mj bl ml K HKK.out hKm HND.out 200000 HJS.out W0 HRJ0.out HRL0.out HMJ0.out HLB0.out (by omega) (EndJ B w W1 w2 rec)
    (fun pre W hJ => ⟨(hJ.keep _ hmj (by omega)).trans (HJ0.out.keep _ hmj (by omega)).symm, (hJ.keep _ hml (by omega)).trans (HJ0.out.keep _ hml (by omega)).symm, (hJ.keep _ hlj (by omega)).trans (HJ0.out.keep _ hlj (by omega)).symm, (hJ.keep _ hll (by omega)).trans (HJ0.out.keep _ hll (by omega)).symm, hJ.lab, by have := hJ.room; omega⟩)
    (fun pre W W' hJ hi hz ho ht hu => ⟨by have := hJ.room; omega, (hi _ (by omega)).trans hJ.loop, (hi _ (by omega)).trans hJ.dfr, MG.block hJ.mc (hi _ (by omega)), fun i i1 i2 => (hi i (by omega)).trans (hJ.keep i i1 i2), ⟨ho.trans hJ.below.os, ht.trans hJ.below.tape, hu.trans hJ.below.output, by have := hJ.below.size; omega, fun i i1 => (hi i (by omega)).trans (hJ.below.block i i1)⟩, ⟨ho.trans hJ.lab.os, ht.trans hJ.lab.tape, hu.trans hJ.lab.output, by have := hJ.lab.size; omega, fun i i1 => (hi i (by omega)).trans (hJ.lab.block i i1)⟩, hJ.small⟩)
    HYI.out HJ0.out (0 - 1))
  clear HYI HJ0 HRJ0 HRL0 HMJ0 HLB0
  refine HV.out.mono ?_
  rintro e W ⟨⟨v, rfl⟩, D, hD, hJ⟩
  have hp : rec.pending = none := by rw [← hrec]
  have hst : rec.state ≠ .busy := by rw [← hrec]; simp
  have HJ := hidE hJ
  have HD := hidE hD
  clear hrec hJ hD HV
  refine ⟨rec, HJ.out.loop, hst, ?_⟩
  simp only [hp]
  generalize hW5 : World.putObj _ _ _ = W5
  have hrm := HJ.out.room
  have HK5 : Hid (∀ i, i ≠ w2.heap.size + 1 → W5.heap[i]? = W.heap[i]?) := fun i hi => by rw [← hW5]; exact World.putObj_heap_other hi
  have HB5 : Hid (Below w.heap.size w W5) := by rw [← hW5]; exact (But.putObj _ _).below HJ.out.below (by omega)
  have hs5 : W5.heap.size = W.heap.size := by rw [← hW5]; simp
  clear hW5
  have HM5 : Hid (MC endV okE W5 (w.heap.size + 1) (gather (endsOf g.nodes D))) := MG.block HJ.out.mc (HK5.out _ (by omega))
  have HR5 : Hid (Rec W5 (w.heap.size + 1 + 1) #[.map (some (w.heap.size + 1))] 143) := HR2.out.keep ((HK5.out _ (by omega)).trans (HJ.out.keep _ (by omega) (by omega)))
  have HD5 : Hid (W5.heap[w2.heap.size]? = some (.deferred (some []))) := (HK5.out _ (by omega)).trans HJ.out.dfr
  have HPM := hidE (gather_perm (endsOf_perm g.nodes HD.out))
  have HRW := hidE (rows92_any hsort hmost HM5.out (by rw [HPM.out.length_eq]; exact HMO.out))
  have e0 := HR5.out.cell 0 rfl
  go_wp2_with (go_at_call 92; refine HRW.out.mono ?_; rintro e W6 ⟨v6, L, rfl, y1, y2, y3, y4⟩; have HY := hidE (And.intro y1 (And.intro y2 (And.intro y3 y4))); clear y1 y2 y3 y4)
  obtain ⟨y1, y2, y3, y4⟩ := HY.out
  have hd6 : W6.heap[w2.heap.size]? = some (.deferred (some [])) := (y4.block _ (by omega)).trans HD5.out
  have hz6 : Below w.heap.size w (W6.putObj w2.heap.size (.deferred none)) := (But.putObj _ _).below (Below.on HB5.out y4) (by omega)
  show LeavesInM _ _ _ _ _ _ [_] .returning _
  refine ⟨by simp, .inl ⟨_, _, rfl, run_takeDeferred hd6, ?_⟩⟩
  refine ⟨v6, ?_, v6, L, rfl, y1.trans (HPM.out.map _), y2, ?_, hz6⟩
  · simp [results, Tryz.results45, go_sem]
  · exact (y3.keep fun i hi _ => World.putObj_heap_other (show i ≠ w2.heap.size by omega)).base (by omega)
end Go.Proofs.YthfilnflgahcjaaGreatDoor

namespace Go.Proofs.YthfilnflgahcjaaGreatDoor
open Go.RowKit Go.Shelf
set_option linter.unusedVariables false
set_option linter.unusedSimpArgs false
attribute [local go_sem] Oper.semAt_some
/-- Do numbers rise from one on, up to another? -/
def riseI (next : Int) : Int → List Int → Bool
  | _, [] => decide (0 ≤ next) && decide (next ≤ 4611686018427387904)
  | l, x :: r => !decide (x < l) && (!decide (next ≤ x) && riseI next (x + 1) r)
theorem riseI_at {next l : Int} {ks : List Int} {j : Nat} {x : Int} (h : ks[j]? = some x) : riseI next l (ks.drop j) = (!decide (x < l) && (!decide (next ≤ x) && riseI next (x + 1) (ks.drop (j + 1)))) := by
  obtain ⟨hj, hx⟩ := List.getElem?_eq_some_iff.1 h
  rw [List.drop_eq_getElem_cons hj, hx, riseI]
set_option maxHeartbeats 1000000 in
theorem nodeNum_any (xi : Int) (la : Option Addr) (ll lc : Nat) (pa : Option Addr) (pl pc : Nat) (w : World) : Calls Tryz.prog 130 #[.agg #[.int .i64 xi, .slice la ll lc, .slice pa pl pc]] w fun e w' => e = .returned (.int .i64 xi) ∧ Below w.heap.size w w' := by
  go_enter Tryz.func130, Tryz.ntmps130
  go_upto_region 1 with fail
  generalize hW1 : World.alloc _ _ = W1
  have hr := rec_new w #[.int .i64 xi, .slice la ll lc, .slice pa pl pc] 73
  rw [hW1] at hr
  have HB1 : Hid (Below w.heap.size w W1) := by rw [← hW1]; exact (Below.refl _ _).alloc (Nat.le_refl _) _
  have q0 := hr.cell 0 rfl
  clear hW1 hr
  go_wp2_with fail
  go_ret
  exact ⟨rfl, HB1.out⟩
set_option maxHeartbeats 1000000 in
theorem relNum_any (xi fr tt : Int) (ty : ByteArray) (pa : Option Addr) (pl pc : Nat) (w : World) : Calls Tryz.prog 132 #[.agg #[.int .i64 xi, .int .i64 fr, .int .i64 tt, .string ty, .slice pa pl pc]] w fun e w' => e = .returned (.int .i64 xi) ∧ Below w.heap.size w w' := by
  go_enter Tryz.func132, Tryz.ntmps132
  go_upto_region 1 with fail
  generalize hW1 : World.alloc _ _ = W1
  have hr := rec_new w #[.int .i64 xi, .int .i64 fr, .int .i64 tt, .string ty, .slice pa pl pc] 71
  rw [hW1] at hr
  have HB1 : Hid (Below w.heap.size w W1) := by rw [← hW1]; exact (Below.refl _ _).alloc (Nat.le_refl _) _
  have q0 := hr.cell 0 rfl
  clear hW1 hr
  go_wp2_with fail
  go_ret
  exact ⟨rfl, HB1.out⟩
set_option maxRecDepth 100000 in
set_option maxHeartbeats 4000000 in
theorem risingN_any (ks : List NodeP) (next : Int) (B : Nat) (v : Value) (w : World) (hB : B ≤ w.heap.size) (hk : NodesLie B w v ks) (hx1 : -9223372036854775808 ≤ next) (hx2 : next ≤ 9223372036854775807) :
    Calls Tryz.prog 129 #[v, .func (.func 130) #[] #[], .int .i64 next] w fun e w' => e = .returned (.bool (riseI next 0 (ks.map NodeP.id))) ∧ Below w.heap.size w w' := by
  obtain ⟨ka, kc, rfl, h1, h2, hk3⟩ := hk
  have HK := hidE hk3
  obtain ⟨n, hn⟩ : ∃ n, ks.length = n := ⟨_, rfl⟩
  have HN := hidE hn
  rw [hn] at h1 ⊢
  obtain ⟨res, hres⟩ : ∃ r, riseI next 0 (ks.map NodeP.id) = r := ⟨_, rfl⟩
  have HR := hidE hres
  rw [hres]
  clear hk3 hn hres
  go_enter Tryz.func129, Tryz.ntmps129
  go_wp2_with fail
  go_loopw [13, 7] (fun i l wr => ∃ (j : Nat) (s : Int), j ≤ n ∧ i = .int .i64 j ∧ l = .int .i64 s ∧ 0 ≤ s ∧ Below w.heap.size w wr ∧ riseI next s ((ks.map NodeP.id).drop j) = res) (fun i _ _ => n - (intOf i).toNat)
  case atStart => exact ⟨0, 0, Nat.zero_le _, rfl, rfl, by omega, Below.refl _ _, HR.out⟩
  case round =>
    obtain ⟨j, s, hj, rfl, rfl, hs0, hbr, hrs⟩ := hrel
    have HBR := hidE hbr
    have HRS := hidE hrs
    have hwz : w.heap.size ≤ wr.heap.size := hbr.size
    clear hbr hrs
    by_cases hlt : j < n
    · have hlt' : (j : Int) < n := by omega
      obtain ⟨⟨xi, xl, xp⟩, hx⟩ : ∃ x, ks[j]? = some x := ⟨_, List.getElem?_eq_getElem (by have := HN.out; omega)⟩
      have HX : Hid ((ks.map NodeP.id)[j]? = some xi) := by
        show _ = _
        rw [List.getElem?_map, hx]; rfl
      obtain ⟨bl, off, rfl, hbl, hc⟩ := HK.out.resolve_left (by intro e; rw [e] at hx; simp at hx)
      obtain ⟨la, lc, pv, ⟨c0, c1, c2⟩, _, _, hp⟩ := (hc j _ hx).below (HBR.out.mono hB) hbl
      simp only at c0 c1 c2 hp
      obtain ⟨pa, pc, rfl, _, _, _⟩ := hp
      have HE2 : Hid (res = (!decide (xi < s) && (!decide (next ≤ xi) && riseI next (xi + 1) ((ks.map NodeP.id).drop (j + 1))))) := by
        show _ = _
        rw [← HRS.out, riseI_at HX.out]
      clear hc hx
      go_upto_region 5 with fail
      generalize hW2 : World.alloc _ _ = W2
      have hr2 := rec_new wr #[.int .i64 xi, .slice la xl.length lc, .slice pa xp.length pc] 73
      rw [hW2] at hr2
      have HB2 : Hid (Below wr.heap.size wr W2) := by rw [← hW2]; exact (Below.refl _ _).alloc (Nat.le_refl _) _
      have k0 := hr2.cell 0 rfl
      have k1 := hr2.cell 1 rfl
      have k2 := hr2.cell 2 rfl
      clear hW2 hr2 c0 c1 c2
      go_wp2_with fail
      refine (nodeNum_any xi la xl.length lc pa xp.length pc _).mono ?_
      rintro e w3 ⟨rfl, hb3⟩
      have HB3 := hidE (below_on HBR.out (below_on HB2.out hb3))
      clear hb3 k0 k1 k2
      by_cases a1 : xi < s
      · have HF : Hid (res = false) := by
          show _ = _
          rw [HE2.out, decide_eq_true a1]; rfl
        go_wp2_with fail
        go_ret
        exact ⟨by rw [HF.out]; rfl, HB3.out⟩
      · by_cases a2 : next ≤ xi
        · have HF : Hid (res = false) := by
            show _ = _
            rw [HE2.out, decide_eq_false a1, decide_eq_true a2]; rfl
          go_wp2_with fail
          go_ret
          exact ⟨by rw [HF.out]; rfl, HB3.out⟩
        · have HN2 : Hid (riseI next (xi + 1) ((ks.map NodeP.id).drop (j + 1)) = res) := by
            show _ = _
            rw [HE2.out, decide_eq_false a1, decide_eq_false a2]; rfl
          have hwr : IntKind.i64.wrap (xi + 1) = xi + 1 := by rw [IntKind.wrap_i64]; omega
          go_wp2_with fail
          go_roundw
          case rel => exact ⟨j + 1, xi + 1, by omega, by go_num, rfl, by omega, HB3.out, HN2.out⟩
          case measure => simp [intOf]; omega
    · have HF : Hid (res = (decide (0 ≤ next) && decide (next ≤ 4611686018427387904))) := by
        show _ = _
        rw [← HRS.out, List.drop_of_length_le (by have := HN.out; simp; omega)]; rfl
      have hlt' : ¬ (j : Int) < n := by omega
      by_cases b1 : 0 ≤ next
      · have HF2 : Hid (res = decide (next ≤ 4611686018427387904)) := by
          show _ = _
          rw [HF.out, decide_eq_true b1]; rfl
        go_wp2_with fail
        go_ret
        exact ⟨by rw [HF2.out]; rfl, HBR.out⟩
      · have HF2 : Hid (res = false) := by
          show _ = _
          rw [HF.out, decide_eq_false b1]; rfl
        go_wp2_with fail
        go_ret
        exact ⟨by rw [HF2.out]; rfl, HBR.out⟩
set_option maxRecDepth 100000 in
set_option maxHeartbeats 4000000 in
theorem risingR_any (ks : List RelP) (next : Int) (B : Nat) (v : Value) (w : World) (hB : B ≤ w.heap.size) (hk : RelsLie B w v ks) (hx1 : -9223372036854775808 ≤ next) (hx2 : next ≤ 9223372036854775807) :
    Calls Tryz.prog 131 #[v, .func (.func 132) #[] #[], .int .i64 next] w fun e w' => e = .returned (.bool (riseI next 0 (ks.map RelP.id))) ∧ Below w.heap.size w w' := by
  obtain ⟨ka, kc, rfl, h1, h2, hk3⟩ := hk
  have HK := hidE hk3
  obtain ⟨n, hn⟩ : ∃ n, ks.length = n := ⟨_, rfl⟩
  have HN := hidE hn
  rw [hn] at h1 ⊢
  obtain ⟨res, hres⟩ : ∃ r, riseI next 0 (ks.map RelP.id) = r := ⟨_, rfl⟩
  have HR := hidE hres
  rw [hres]
  clear hk3 hn hres
  go_enter Tryz.func131, Tryz.ntmps131
  go_wp2_with fail
  go_loopw [13, 7] (fun i l wr => ∃ (j : Nat) (s : Int), j ≤ n ∧ i = .int .i64 j ∧ l = .int .i64 s ∧ 0 ≤ s ∧ Below w.heap.size w wr ∧ riseI next s ((ks.map RelP.id).drop j) = res) (fun i _ _ => n - (intOf i).toNat)
  case atStart => exact ⟨0, 0, Nat.zero_le _, rfl, rfl, by omega, Below.refl _ _, HR.out⟩
  case round =>
    obtain ⟨j, s, hj, rfl, rfl, hs0, hbr, hrs⟩ := hrel
    have HBR := hidE hbr
    have HRS := hidE hrs
    have hwz : w.heap.size ≤ wr.heap.size := hbr.size
    clear hbr hrs
    by_cases hlt : j < n
    · have hlt' : (j : Int) < n := by omega
      obtain ⟨⟨xi, fr, tt, ty, xp⟩, hx⟩ : ∃ x, ks[j]? = some x := ⟨_, List.getElem?_eq_getElem (by have := HN.out; omega)⟩
      have HX : Hid ((ks.map RelP.id)[j]? = some xi) := by
        show _ = _
        rw [List.getElem?_map, hx]; rfl
      obtain ⟨bl, off, rfl, hbl, hc⟩ := HK.out.resolve_left (by intro e; rw [e] at hx; simp at hx)
      obtain ⟨pv, ⟨c0, c1, c2, c3, c4⟩, _, hp⟩ := (hc j _ hx).below (HBR.out.mono hB) hbl
      simp only at c0 c1 c2 c3 c4 hp
      obtain ⟨pa, pc, rfl, _, _, _⟩ := hp
      have HE2 : Hid (res = (!decide (xi < s) && (!decide (next ≤ xi) && riseI next (xi + 1) ((ks.map RelP.id).drop (j + 1))))) := by
        show _ = _
        rw [← HRS.out, riseI_at HX.out]
      clear hc hx
      go_upto_region 5 with fail
      generalize hW2 : World.alloc _ _ = W2
      have hr2 := rec_new wr #[.int .i64 xi, .int .i64 fr, .int .i64 tt, .string ty, .slice pa xp.length pc] 71
      rw [hW2] at hr2
      have HB2 : Hid (Below wr.heap.size wr W2) := by rw [← hW2]; exact (Below.refl _ _).alloc (Nat.le_refl _) _
      have k0 := hr2.cell 0 rfl
      have k1 := hr2.cell 1 rfl
      have k2 := hr2.cell 2 rfl
      have k3 := hr2.cell 3 rfl
      have k4 := hr2.cell 4 rfl
      clear hW2 hr2 c0 c1 c2 c3 c4
      go_wp2_with fail
      refine (relNum_any xi fr tt ty pa xp.length pc _).mono ?_
      rintro e w3 ⟨rfl, hb3⟩
      have HB3 := hidE (below_on HBR.out (below_on HB2.out hb3))
      clear hb3 k0 k1 k2 k3 k4
      by_cases a1 : xi < s
      · have HF : Hid (res = false) := by
          show _ = _
          rw [HE2.out, decide_eq_true a1]; rfl
        go_wp2_with fail
        go_ret
        exact ⟨by rw [HF.out]; rfl, HB3.out⟩
      · by_cases a2 : next ≤ xi
        · have HF : Hid (res = false) := by
            show _ = _
            rw [HE2.out, decide_eq_false a1, decide_eq_true a2]; rfl
          go_wp2_with fail
          go_ret
          exact ⟨by rw [HF.out]; rfl, HB3.out⟩
        · have HN2 : Hid (riseI next (xi + 1) ((ks.map RelP.id).drop (j + 1)) = res) := by
            show _ = _
            rw [HE2.out, decide_eq_false a1, decide_eq_false a2]; rfl
          have hwr : IntKind.i64.wrap (xi + 1) = xi + 1 := by rw [IntKind.wrap_i64]; omega
          go_wp2_with fail
          go_roundw
          case rel => exact ⟨j + 1, xi + 1, by omega, by go_num, rfl, by omega, HB3.out, HN2.out⟩
          case measure => simp [intOf]; omega
    · have HF : Hid (res = (decide (0 ≤ next) && decide (next ≤ 4611686018427387904))) := by
        show _ = _
        rw [← HRS.out, List.drop_of_length_le (by have := HN.out; simp; omega)]; rfl
      have hlt' : ¬ (j : Int) < n := by omega
      by_cases b1 : 0 ≤ next
      · have HF2 : Hid (res = decide (next ≤ 4611686018427387904)) := by
          show _ = _
          rw [HF.out, decide_eq_true b1]; rfl
        go_wp2_with fail
        go_ret
        exact ⟨by rw [HF2.out]; rfl, HBR.out⟩
      · have HF2 : Hid (res = false) := by
          show _ = _
          rw [HF.out, decide_eq_false b1]; rfl
        go_wp2_with fail
        go_ret
        exact ⟨by rw [HF2.out]; rfl, HBR.out⟩
set_option maxRecDepth 100000 in
set_option maxHeartbeats 4000000 in
theorem numbers_any (g : GraphP) (B : Nat) (v : Value) (w : World) (hB : B ≤ w.heap.size) (hg : GraphLies B w v g) (hn1 : -9223372036854775808 ≤ g.nn ∧ g.nn ≤ 9223372036854775807) (hn2 : -9223372036854775808 ≤ g.nr ∧ g.nr ≤ 9223372036854775807) : Calls Tryz.prog 101 #[v] w fun e w' => e = .returned (.bool (riseI g.nn 0 (g.nodes.map NodeP.id) && riseI g.nr 0 (g.rels.map RelP.id))) ∧ Below w.heap.size w w' := by
  obtain ⟨na, nc, ra, rc, rfl, hn, hr⟩ := hg
  have HK1 := hidE (fun W (hb : Below w.heap.size w W) => risingN_any g.nodes g.nn B _ W (by have := hb.size; omega) (hn.below (hb.mono hB)) hn1.1 hn1.2)
  have HK2 := hidE (fun W (hb : Below w.heap.size w W) => risingR_any g.rels g.nr B _ W (by have := hb.size; omega) (hr.below (hb.mono hB)) hn2.1 hn2.2)
  obtain ⟨ns, rs, nn, nr⟩ := g
  simp only at HK1 HK2 ⊢
  obtain ⟨b1, hb1⟩ : ∃ b, riseI nn 0 (ns.map NodeP.id) = b := ⟨_, rfl⟩
  obtain ⟨b2, hb2⟩ : ∃ b, riseI nr 0 (rs.map RelP.id) = b := ⟨_, rfl⟩
  rw [hb1] at HK1 ⊢
  rw [hb2] at HK2 ⊢
  generalize ns.length = n at *
  generalize rs.length = m at *
  clear hb1 hb2 hn hr
  go_enter Tryz.func101, Tryz.ntmps101
  go_upto_region 1 with fail
  generalize hW1 : World.alloc _ _ = W1
  have hr1 := rec_new w #[.slice na n nc, .slice ra m rc, .int .i64 nn, .int .i64 nr] 25
  rw [hW1] at hr1
  have HB1 : Hid (Below w.heap.size w W1) := by rw [← hW1]; exact (Below.refl _ _).alloc (Nat.le_refl _) _
  have HR1 := hidE hr1
  have q0 := hr1.cell 0 rfl
  have q2 := hr1.cell 2 rfl
  clear hW1 hr1
  go_wp2_with fail
  refine (HK1.out W1 HB1.out).mono ?_
  rintro e w2 ⟨rfl, hb2⟩
  have HB2 := hidE (below_on HB1.out hb2)
  have k1 := (HR1.out.below hb2 HR1.out.lt).cell 1 rfl
  have k3 := (HR1.out.below hb2 HR1.out.lt).cell 3 rfl
  clear hb2 q0 q2
  cases b1 with
  | false =>
    go_wp2_with fail
    go_ret
    exact ⟨rfl, HB2.out⟩
  | true =>
    go_wp2_with fail
    refine (HK2.out w2 HB2.out).mono ?_
    rintro e w3 ⟨rfl, hb3⟩
    have HB3 := hidE (below_on HB2.out hb3)
    clear hb3 k1 k3
    go_wp2_with fail
    go_ret
    exact ⟨rfl, HB3.out⟩
end Go.Proofs.YthfilnflgahcjaaGreatDoor

