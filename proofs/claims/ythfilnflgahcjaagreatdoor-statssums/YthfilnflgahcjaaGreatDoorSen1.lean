/- What begins and ends, joint by joint, label by label, handed on (ends$1 124). -/
import Derived.Test.YthfilnflgahcjaaGreatDoorJoin21
import Derived.Test.YthfilnflgahcjaaGreatDoorJoin1
import Derived.Maps.RangeRun
import Derived.Sort.CutIn
namespace Go.Proofs.YthfilnflgahcjaaGreatDoor
open Go.RowKit Go.Shelf Go.Maps
set_option linter.unusedVariables false
set_option linter.unusedSimpArgs false
attribute [local go_sem] Oper.semAt_some
/-- What holds between two joints. -/
structure Walking (J : List (EndR × Int) → World → Prop) (ns : List NodeP) (ar : Array MapEntry) (clock mj r : Nat) (wr : World) (seen : Array Nat) (c0 : Nat) (done : List MapEntry) (D : List (JointR × Int)) : Prop where
  it : wr.heap[r]? = some (.mapIter (some mj) clock seen c0)
  cl : clock ≤ c0
  j : J (endsOf ns D) wr
  dn : D.map (fun p => (jntV p.1, Value.int .i64 p.2)) = done.map (fun e => (e.key, e.val))
  nd : done.Nodup
  sub : ∀ x ∈ done, x ∈ ar.toList
  has : ∀ x ∈ ar.toList, seen.contains x.born = true ↔ x ∈ done
theorem jntV_inj (x y : JointR) (h : jntV x = jntV y) : x = y := jntT.inj x y h
set_option maxRecDepth 100000 in
set_option maxHeartbeats 8000000 in
theorem ends1_any {F : Fence} (hd : F.depth = none) (hro : F.round = none) (hfn : ∀ f, F.fn f) {l B : Nat} {w0 : World} (ns : List NodeP) (cs : List (JointR × Int)) (bj mj bl ml K : Nat) (hK : ∀ i, (labsAt ns i).length ≤ K) (hKm : K ≤ 1000000000) (hid : (ns.map NodeP.id).Nodup) (c : Int) (hc : ∀ p ∈ cs, 0 ≤ p.2 ∧ p.2 ≤ c)
    (w : World) (h1 : Rec w bj #[.map (some mj)] 181) (h2 : Rec w bl #[.map (some ml)] 184) (hm : MC jntV okJ w mj cs) (hl : LabM B w0 w ml ns) (hB : B ≤ w.heap.size) (J : List (EndR × Int) → World → Prop)
    (hS : ∀ pre W, J pre W → W.heap[mj]? = w.heap[mj]? ∧ W.heap[ml]? = w.heap[ml]? ∧ W.heap[bj]? = w.heap[bj]? ∧ W.heap[bl]? = w.heap[bl]? ∧ Below B w0 W ∧ w.heap.size ≤ W.heap.size)
    (hA : ∀ pre W W', J pre W → (∀ i, i < w.heap.size → W'.heap[i]? = W.heap[i]?) → W.heap.size ≤ W'.heap.size → W'.os = W.os → W'.tape = W.tape → W'.output = W.output → J pre W')
    (hY : ∀ m pre x W, J pre W → okE x.1 → x.1.2.2.2 = 0 → 0 ≤ x.2 → x.2 ≤ c → pre.length + 1 ≤ cs.length * K → YieldAt F m Tryz.prog l #[endV x.1, .int .i64 x.2] W fun e W' => e = .returned (.bool true) ∧ J (pre ++ [x]) W' ∧ ∀ i, w.heap.size ≤ i → i < W.heap.size → W'.heap[i]? = W.heap[i]?)
    (h0 : J [] w) (m : Nat) :
    CallsIn F m Tryz.prog 124 #[.func (.yield l) #[] #[], .pointer (some ⟨bj, 0, none⟩), .pointer (some ⟨bl, 0, none⟩)] w fun e W' => (∃ v, e = .returned v) ∧ ∃ D, D.Perm cs ∧ J (endsOf ns D) W' := by
  have hdd := depth_none hd
  have HS := hidE hS
  have HA := hidE hA
  have HY := hidE hY
  have HC := hidE hc
  have HL := hidE hl
  have HID := hidE hid
  have HK := hidE hK
  have hlj := h1.lt
  have hll := h2.lt
  have hmlt := MG.lt hm
  have HR1 := hidE h1
  have HR2 := hidE h2
  obtain ⟨ar, clock, hb, hent, hoks, hst⟩ := hm
  have hn : ar.size = cs.length := by have := congrArg List.length hent; simpa using this
  have HENT : Hid (∀ x ∈ ar.toList, ∃ p ∈ cs, okJ p.1 ∧ x.key = jntV p.1 ∧ x.val = .int .i64 p.2) := fun x hx => by
    have h1 : (x.key, x.val) ∈ ar.toList.map (fun e => (e.key, e.val)) := List.mem_map.2 ⟨x, hx, rfl⟩
    rw [hent] at h1
    obtain ⟨q, hq, e⟩ := List.mem_map.1 h1
    have hok := hoks q hq
    obtain ⟨p, hp, rfl⟩ := List.mem_map.1 hq
    obtain ⟨e1, e2⟩ := Prod.mk.inj e
    exact ⟨p, hp, hok, e1.symm, e2.symm⟩
  have HEQ : Hid (ar.toList.map (fun e => (e.key, e.val)) = cs.map (fun p => (jntV p.1, Value.int .i64 p.2))) := by
    show _ = _
    rw [hent, List.map_map]; rfl
  have HND : Hid (ar.toList.Nodup) := by
    have := hst.2.1
    rw [List.nodup_iff_pairwise_ne] at *
    exact (List.pairwise_map.1 this).imp fun h e => h (by rw [e])
  have HBORN : Hid (∀ x ∈ ar.toList, ∀ y ∈ ar.toList, x.born = y.born → x = y) := fun x hx y hy e => by
    obtain ⟨i, hi⟩ := List.getElem?_of_mem hx
    obtain ⟨j, hj⟩ := List.getElem?_of_mem hy
    have := (List.getElem?_inj (l := ar.toList.map (·.born)) (by simpa using (List.getElem?_eq_some_iff.1 hi).1) hst.2.1 (i := i) (j := j)).1 (by rw [List.getElem?_map, List.getElem?_map, hi, hj, Option.map_some, Option.map_some, e])
    subst this
    rw [hi] at hj
    exact Option.some.inj hj
  have HLEN : Hid (∀ done : List MapEntry, done.Nodup → (∀ x ∈ done, x ∈ ar.toList) → done.length ≤ cs.length) := fun done h1 h2 => by
    have := nodup_len h1 h2
    simp only [Array.length_toList] at this
    omega
  have HST := hidE hst
  have HB := hidE hb
  have HJ0 := hidE h0
  have c1 := h1.cell 0 rfl
  have hrg := run_range_map (P := Tryz.prog) w 181 183 2 mj ar clock (by kernel_rfl) hb
  clear hent hoks hst hn hb hS hA hY hc hl hid hK h1 h2 h0
  refine callsIn_of_wp Tryz.func124 rfl (hfn _) ?_ hro
  simp only [Tryz.ntmps124, List.size_toArray, List.length_cons, List.length_nil, Nat.reduceAdd, Nat.reduceSub, Array.replicate_succ, Array.replicate_zero, List.push_toArray, List.append_toArray, List.nil_append, List.cons_append]
  gi_wp2_with fail
  gi_loopw [] (fun wr => ∃ seen c0 done D, Walking J ns ar clock mj w.heap.size wr seen c0 done D) (fun wr => wr.rangeLeft mj w.heap.size)
  case atStart =>
    exact ⟨#[], clock, [], [], World.alloc_heap_new _ _, Nat.le_refl _, HA.out _ _ _ HJ0.out (fun i hi => Below.heap_alloc _ _ _ hi) (by simp) rfl rfl rfl, rfl, List.nodup_nil, fun x hx => by simp at hx, fun x hx => by simp⟩
  case round =>
    obtain ⟨seen, c0, done, D, hC⟩ := hrel
    have HW := hidE hC
    obtain ⟨s1, s2, s3, s4, s5, s6⟩ := HS.out _ _ hC.j
    have hb2 : wr.heap[mj]? = some (.map ar clock) := s1.trans HB.out
    rcases run_next_at (P := Tryz.prog) wr 0 w.heap.size mj clock c0 seen ar clock hC.it hb2 HST.out.1 hC.cl with ⟨h0, hnx⟩ | ⟨x, hx, w1, hw1, hnx⟩
    · have HF : Hid (D.Perm cs) := by
        have hp : done.Perm ar.toList := (List.perm_ext_iff_of_nodup hC.nd HND.out).2 fun x => ⟨hC.sub x, fun hx => (hC.has x hx).1 (all_seen ar seen h0 x hx)⟩
        have h1 := hp.map (fun e => (e.key, e.val))
        rw [← hC.dn, HEQ.out] at h1
        exact perm_back jntV_inj h1
      clear hC hb2 h0 s1 s2 s3 s4 s5 s6
      gi_wp2_with fail
      go_end0
      exact ⟨⟨_, rfl⟩, D, HF.out, HW.out.j⟩
    · obtain ⟨hxm, hxs⟩ := mem_left hx
      obtain ⟨⟨⟨i, s, o⟩, z⟩, hpc, hpo, ek, ev⟩ := HENT.out x hxm
      simp only [jntV] at ek ev
      obtain ⟨U, hU⟩ : ∃ V, Go.ChangeMaps.setBlock w1 w.heap.size (.mapIter (some mj) clock (seen.push x.born) clock) = V := ⟨_, rfl⟩
      rw [hU, ek, ev] at hnx
      have hit1 : w1.heap[w.heap.size]? = some (.mapIter (some mj) clock seen c0) := by rcases hw1 with rfl | rfl <;> exact hC.it
      have hset := MapKept.heap_set (o' := .mapIter (some mj) clock (seen.push x.born) clock) hit1
      have hVo : ∀ q, q ≠ w.heap.size → U.heap[q]? = wr.heap[q]? := fun q hq => by
        rw [← hU]
        have : w1.heap[q]? = wr.heap[q]? := by rcases hw1 with rfl | rfl <;> rfl
        exact (hset.2 q hq).trans this
      have hVs : U.heap.size = wr.heap.size := by
        rw [← hU]
        have : w1.heap.size = wr.heap.size := by rcases hw1 with rfl | rfl <;> rfl
        simp [Go.ChangeMaps.setBlock, this]
      have hVi : U.heap[w.heap.size]? = some (.mapIter (some mj) clock (seen.push x.born) clock) := by rw [← hU]; exact hset.1
      have hVt : U.os = wr.os ∧ U.tape = wr.tape ∧ U.output = wr.output := by
        rw [← hU]
        rcases hw1 with rfl | rfl <;> exact ⟨rfl, rfl, rfl⟩
      have hen := run_entry_at (P := Tryz.prog) U w.heap.size mj clock seen ar clock x hVi ((hVo mj (by omega)).trans hb2) hxm HST.out.2.1
      rw [ek, ev] at hen
      have hszU : w.heap.size < U.heap.size := (Array.getElem?_eq_some_iff.1 hVi).1
      have hmeas : (leftOf ar (seen.push x.born)).size < (leftOf ar seen).size := left_shrinks ar seen x hx
      have hmeas2 : wr.rangeLeft mj w.heap.size = (leftOf ar seen).size := by simp only [World.rangeLeft, hb2, hC.it]
      obtain ⟨W2, hW2⟩ : ∃ W, U.alloc (.cells #[.int .i64 i, .string s, .bool o] 183) = W := ⟨_, rfl⟩
      have hbA : Below U.heap.size U W2 := by rw [← hW2]; exact (Below.refl _ _).alloc (Nat.le_refl _) _
      have rx : Rec W2 U.heap.size #[.int .i64 i, .string s, .bool o] 183 := by rw [← hW2]; exact rec_new _ _ _
      have hz2 : W2.heap.size = U.heap.size + 1 := by rw [← hW2]; simp
      have hJ2 : J (endsOf ns D) W2 := HA.out _ _ _ hC.j (fun q hq => (hbA.block q (by omega)).trans (hVo q (by omega))) (by omega) (hbA.os.trans hVt.1) (hbA.tape.trans hVt.2.1) (hbA.output.trans hVt.2.2)
      obtain ⟨t1, t2, t3, t4, t5, t6⟩ := HS.out _ _ hJ2
      obtain ⟨la, lc, lk, lk1, lk2, lk3⟩ := labm_look HL.out HID.out i hpo.1
      have lk := lk W2 t2
      have d2 := (HR2.out.keep t4).cell 0 rfl
      have e0 := rx.cell 0 rfl
      have e1 := rx.cell 1 rfl
      have e2 := rx.cell 2 rfl
      have hit2 : W2.heap[w.heap.size]? = some (.mapIter (some mj) clock (seen.push x.born) clock) := (hbA.block _ (by omega)).trans hVi
      obtain ⟨n, hn⟩ : ∃ n, (labsAt ns i).length = n := ⟨_, rfl⟩
      have HN := hidE hn
      have hnK := HK.out i
      rw [hn] at lk lk1 hnK
      have HLK := hidE lk3
      have HJ2 := hidE hJ2
      have HI2 := hidE hit2
      have HRX := hidE rx
      have HX := hidE (And.intro hxm (And.intro hxs (And.intro ek (And.intro ev (And.intro hpc hpo)))))
      have HM := hidE (And.intro hmeas hmeas2)
      have HSZ : Hid (w.heap.size < U.heap.size) := by show _ < _; omega
      obtain ⟨R, hR⟩ : ∃ R, U.heap.size = R := ⟨_, rfl⟩
      rw [hR] at e0 e1 e2 HRX HSZ
      have HZ2 : Hid (W2.heap.size = R + 1) := by show _ = _; rw [hz2, hR]
      have hle := HSZ.out
      clear hszU hC hb2 hU hit1 hset hVo hVs hVi hVt hxm hxs ek ev hx hw1 hmeas hmeas2 hpc hbA rx hz2 hJ2 s1 s2 s3 s4 s5 s6 t1 t2 t3 t4 t5 t6 hit2 hn lk3
      gi_upto_region 3 with fail
      try rw [hW2]
      try rw [hR]
      clear hW2 hR
      gi_wp2_with fail
      gi_loopw [20] (fun q wr => ∃ k : Nat, k ≤ n ∧ q = .int .i64 k ∧ J (endsOf ns D ++ (outOf ns ((i, s, o), z)).take k) wr ∧ wr.heap[w.heap.size]? = some (.mapIter (some mj) clock (seen.push x.born) clock) ∧ Rec wr R #[.int .i64 i, .string s, .bool o] 183) (fun q _ => n - (intOf q).toNat)
      case atStart => exact ⟨0, Nat.zero_le _, rfl, by simpa using HJ2.out, HI2.out, HRX.out⟩
      case round =>
        obtain ⟨k, hk, rfl, hJ, hit, hrx⟩ := hrel
        obtain ⟨s1, s2, s3, s4, s5, s6⟩ := HS.out _ _ hJ
        have HJ := hidE hJ
        have HIT := hidE hit
        have HRX2 := hidE hrx
        have HSZ2 := hidE s6
        have HB2 := hidE (s1.trans HB.out)
        have hlr := hrx.lt
        by_cases hlt : k < n
        · have hlt' : (k : Int) < n := by omega
          obtain ⟨t, ht⟩ : ∃ q, (labsAt ns i)[k]? = some q := ⟨_, List.getElem?_eq_getElem (by have := HN.out; omega)⟩
          obtain ⟨b2, o2, rfl, hb2, hc2⟩ := HLK.out.resolve_left (by intro e; rw [e] at ht; simp at ht)
          obtain ⟨cx, hss⟩ := hc2 k (by have := HN.out; omega)
          replace cx := (s5.cell (p := ⟨b2, o2 + k, none⟩) hb2).trans cx
          have hgd : (labsAt ns i).getD k ⟨#[]⟩ = t := by rw [List.getD_eq_getElem?_getD, ht]; rfl
          rw [hgd] at cx hss
          have HO : Hid ((outOf ns ((i, s, o), z))[k]? = some ((s, t, o, 0), z)) := by
            show _ = _
            unfold outOf
            rw [List.getElem?_map, ht]; rfl
          have g0 := hrx.cell 0 rfl
          have g1 := hrx.cell 1 rfl
          have g2 := hrx.cell 2 rfl
          have hpre : (endsOf ns D ++ (outOf ns ((i, s, o), z)).take k).length + 1 ≤ cs.length * K := by
            have h1 := endsOf_len ns K HK.out D
            have h2 : D.length + 1 ≤ cs.length := by
              have e1 := congrArg List.length HW.out.dn
              simp only [List.length_map] at e1
              have e2 := HLEN.out (done ++ [x]) (List.nodup_append.2 ⟨HW.out.nd, by simp, fun a ha c' hc' => by
                simp only [List.mem_singleton] at hc'
                subst hc'
                intro e
                subst e
                have := (HW.out.has _ HX.out.1).2 ha
                rw [HX.out.2.1] at this
                cases this⟩) (fun y hy => by
                rcases List.mem_append.1 hy with hy | hy
                · exact HW.out.sub y hy
                · rw [List.mem_singleton.1 hy]; exact HX.out.1)
              simp only [List.length_append, List.length_cons, List.length_nil] at e2
              omega
            have h3 := Nat.mul_le_mul_right K h2
            rw [Nat.succ_mul] at h3
            simp only [List.length_append, List.length_take]
            omega
          obtain ⟨hz0, hzc⟩ := HC.out _ HX.out.2.2.2.2.1
          obtain ⟨fn, tmps, assign, body, hy1, hR⟩ := HY.out (m - 1) (endsOf ns D ++ (outOf ns ((i, s, o), z)).take k) ((s, t, o, 0), z) wr hJ ⟨HX.out.2.2.2.2.2.2, hss, w64_zero⟩ rfl hz0 hzc hpre
          have HT := hidE ht
          simp only [endV] at hy1
          clear hJ hit hrx s1 s2 s3 s4 s5 s6 hgd hc2 ht hpre hz0 hzc
          gi_wp2_with fail
          refine hR.mono ?_
          clear hR hy1
          rintro e W3 ⟨rfl, hJ3, hup⟩
          have HNEW : Hid (J (endsOf ns D ++ (outOf ns ((i, s, o), z)).take (k + 1)) W3 ∧ W3.heap[w.heap.size]? = some (.mapIter (some mj) clock (seen.push x.born) clock) ∧ Rec W3 R #[.int .i64 i, .string s, .bool o] 183) := by
            refine ⟨?_, (hup _ (Nat.le_refl _) (by omega)).trans HIT.out, HRX2.out.keep (hup _ (by omega) hlr)⟩
            rw [List.take_add_one, HO.out, ← List.append_assoc]
            exact hJ3
          clear hJ3 hup cx g0 g1 g2
          gi_wp2_with fail
          go_roundw
          case rel => exact ⟨k + 1, by omega, by go_num, HNEW.out.1, HNEW.out.2.1, HNEW.out.2.2⟩
          case measure => simp [intOf]; omega
        · have hlt' : ¬ (k : Int) < n := by omega
          have HNEW : Hid (Walking J ns ar clock mj w.heap.size wr (seen.push x.born) clock (done ++ [x]) (D ++ [((i, s, o), z)])) := by
            obtain ⟨hxm, hxs, ek, ev, hpc, hpo⟩ := HX.out
            refine ⟨HIT.out, Nat.le_refl _, ?_, ?_, ?_, ?_, ?_⟩
            · have := HJ.out
              rw [List.take_of_length_le (by unfold outOf; rw [List.length_map]; show (labsAt ns i).length ≤ k; have := HN.out; omega)] at this
              rw [endsOf_snoc]; exact this
            · rw [List.map_append, List.map_append, HW.out.dn]
              simp [jntV, ek, ev]
            · refine List.nodup_append.2 ⟨HW.out.nd, by simp, fun a ha c' hc' => ?_⟩
              simp only [List.mem_singleton] at hc'
              subst hc'
              intro e
              subst e
              have := (HW.out.has _ hxm).2 ha
              rw [hxs] at this
              cases this
            · intro y hy
              rcases List.mem_append.1 hy with hy | hy
              · exact HW.out.sub y hy
              · rw [List.mem_singleton.1 hy]; exact hxm
            · intro y hy
              rw [contains_push]
              simp only [Bool.or_eq_true, HW.out.has y hy, beq_iff_eq, List.mem_append, List.mem_singleton]
              constructor
              · rintro (h1 | h1)
                · exact .inl h1
                · exact .inr (HBORN.out y hy x hxm h1)
              · rintro (h1 | h1)
                · exact .inl h1
                · exact .inr (by rw [h1])
          clear hJ hit hrx s1 s2 s3 s4 s5 s6
          gi_wp2_with fail
          go_roundw
          case rel => exact ⟨_, _, _, _, HNEW.out⟩
          case measure =>
            have h1 : wr.rangeLeft mj w.heap.size = (leftOf ar (seen.push x.born)).size := by
              simp only [World.rangeLeft, HB2.out, HNEW.out.it]
            rw [h1, HM.out.2]
            exact HM.out.1
end Go.Proofs.YthfilnflgahcjaaGreatDoor
