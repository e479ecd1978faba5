/- A graph's keys, counted (keyCounts 46). -/
import Derived.Test.YthfilnflgahcjaaGreatDoorJoin22
import Derived.Test.YthfilnflgahcjaaGreatDoorJoin19
namespace Go.Proofs.YthfilnflgahcjaaGreatDoor
open Go.RowKit Go.Shelf Go.Maps
set_option linter.unusedVariables false
set_option linter.unusedSimpArgs false
attribute [local go_sem] Oper.semAt_some
set_option maxRecDepth 100000 in
set_option maxHeartbeats 16000000 in
theorem keys_cnt {le : KeyR → KeyR → Prop} {most : Nat} (hsort : Sorts98 le most) (hmost : most ≤ 900000) (tx : Tree → ByteArray) (g : GraphP) (v : Value) (B : Nat) (w : World) (hB : B ≤ w.heap.size) (h : GraphLies B w v g) (hln : g.nodes.length ≤ 100000)
    (hT : ∀ n ∈ g.nodes, ∀ p ∈ n.props, okS (tx p.2) ∧ ∀ (W : World) (u : Value), Below w.heap.size w W → Lies B W u p.2 → Calls Tryz.prog 127 #[u] W fun e w' => e = .returned (.tuple #[.string (tx p.2), .int .i64 0]) ∧ Below W.heap.size W w')
    (hI : (itemsOf tx g.nodes).length ≤ 1000000) (hW : wlen (itemsOf tx g.nodes) ≤ 100000000) (hm : (nodesK (kAll (itemsOf tx g.nodes)).2).length ≤ most) :
    Calls Tryz.prog 46 #[v] w fun e w' => ∃ v L, e = .returned v ∧ L.Perm (keysK (kAll (itemsOf tx g.nodes)).2) ∧ L.Pairwise le ∧ ORow 66 4 keyC w.heap.size w' v L ∧ Below w.heap.size w w' := by
  obtain ⟨na, nc, ra, rc, rfl, hn, hr⟩ := h
  obtain ⟨na', nc', e0', n1, n2, n3⟩ := hn
  obtain ⟨rfl, rfl⟩ : na = na' ∧ nc = nc' := by injection e0' with a b c; exact ⟨a, c⟩
  have HN3 := hidE n3
  have HT := hidE hT
  have HI := hidE hI
  have HWL := hidE hW
  have HMO := hidE hm
  obtain ⟨l1, hl1⟩ : ∃ m, g.nodes.length = m := ⟨_, rfl⟩
  have HL1 := hidE hl1
  rw [hl1] at hln n1 ⊢
  generalize g.rels.length = l2 at *
  generalize g.nn = nn at *
  generalize g.nr = nr at *
  clear e0' n3 hl1 hT hI hW hm hr
  have hmk : ∀ W : World, (Instr.makeMap 152 none).run Tryz.prog W = .ok (.map (some W.heap.size)) (W.alloc (.map #[] 0)) := fun W => rfl
  have hmk2 : ∀ W : World, (Instr.makeMap 157 none).run Tryz.prog W = .ok (.map (some W.heap.size)) (W.alloc (.map #[] 0)) := fun W => rfl
  go_enter Tryz.func46, Tryz.ntmps46
  go_upto_region 2 with fail
  obtain ⟨Wa, hWa⟩ : ∃ W, w.alloc (.cells #[.slice na l1 nc, .slice ra l2 rc, .int .i64 nn, .int .i64 nr] 25) = W := ⟨_, rfl⟩
  have ra0 : Rec Wa w.heap.size #[.slice na l1 nc, .slice ra l2 rc, .int .i64 nn, .int .i64 nr] 25 := by rw [← hWa]; exact rec_new _ _ _
  have hza : Wa.heap.size = w.heap.size + 1 := by rw [← hWa]; simp
  have hba : Below w.heap.size w Wa := by rw [← hWa]; exact (Below.refl _ _).alloc (Nat.le_refl _) _
  try rw [hWa]
  obtain ⟨Wb, hWb⟩ : ∃ W, Wa.alloc (.map #[] 0) = W := ⟨_, rfl⟩
  have hbb : Below Wa.heap.size Wa Wb := by rw [← hWb]; exact (Below.refl _ _).alloc (Nat.le_refl _) _
  have hmb : MC worV okW Wb (w.heap.size + 1) [] := by rw [← hWb, ← hza]; exact mg_none _
  have hzb : Wb.heap.size = w.heap.size + 1 + 1 := by rw [← hWb, ← hza]; simp
  have HRA : Hid (Rec Wb w.heap.size #[.slice na l1 nc, .slice ra l2 rc, .int .i64 nn, .int .i64 nr] 25) := ra0.below hbb (by omega)
  have HBB : Hid (Below w.heap.size w Wb) := Below.on hba hbb
  have HMB := hidE hmb
  have HZB := hidE hzb
  try rw [hWb]
  have HNU := hidE (numbering_any Wb)
  clear hWa hWb hza hzb hba hbb hmb ra0
  go_wp2_with (go_at_call 96; refine HNU.out.mono ?_; rintro e W2 ⟨bx, m, rfl, y1, y2, y3, y4, y5, y6⟩; have HY := hidE (And.intro y1 (And.intro y2 (And.intro y3 (And.intro y4 (And.intro y5 y6))))); have c0 := (HRA.out.below y6 HRA.out.lt).cell 0 rfl; clear y1 y2 y3 y4 y5 y6)
  have HK0 : Hid (KcI w bx m (kAll (itemsOf tx (g.nodes.take 0))) W2) := by
    obtain ⟨y1, y2, y3, y4, y5, y6⟩ := HY.out
    exact ⟨Below.on HBB.out y6, y1, y2, MG.block HMB.out (y6.block _ (MG.lt HMB.out))⟩
  have hmZ : w.heap.size + 2 ≤ m := by have := HY.out.2.2.2.1; have := HZB.out; omega
  have hbZ : w.heap.size + 2 ≤ bx := by have := HY.out.2.2.1; have := HZB.out; omega
  have hmL : m < W2.heap.size := MG.lt HY.out.2.1
  have hbL : bx < W2.heap.size := HY.out.1.lt
  have hbm : bx ≠ m := HY.out.2.2.2.2.1
  have HBM : Hid (bx ≠ m) := hbm
  have HMZ : Hid (w.heap.size + 2 ≤ m ∧ w.heap.size + 2 ≤ bx ∧ m < W2.heap.size ∧ bx < W2.heap.size) := ⟨hmZ, hbZ, hmL, hbL⟩
  have hW2 : w.heap.size ≤ W2.heap.size := by omega
  clear HY HNU HMB HBB HZB HRA hmZ hbZ hmL hbL hbm c0
  go_loopw [22] (fun i wr => ∃ j : Nat, j ≤ l1 ∧ i = .int .i64 j ∧ KcI w bx m (kAll (itemsOf tx (g.nodes.take j))) wr ∧ W2.heap.size ≤ wr.heap.size) (fun i _ => l1 - (intOf i).toNat)
  case atStart => exact ⟨0, Nat.zero_le _, rfl, HK0.out, Nat.le_refl _⟩
  case round =>
    obtain ⟨j, hj, rfl, hk, hsz⟩ := hrel
    have HKI := hidE hk
    have HSZ := hidE hsz
    clear hk HK0
    by_cases hlt : j < l1
    · have hlt' : (j : Int) < l1 := by omega
      obtain ⟨x, hx⟩ : ∃ q, g.nodes[j]? = some q := ⟨_, List.getElem?_eq_getElem (by have := HL1.out; omega)⟩
      obtain ⟨bl, off, rfl, hbl, hc⟩ := HN3.out.resolve_left (by intro e; rw [e] at hx; simp at hx)
      obtain ⟨la, lc, pv, ⟨d0, d1, d2⟩, ⟨s1, s2⟩, hks, hps⟩ := hc j x hx
      have hxm := List.mem_of_getElem? hx
      have HTX := hidE (HT.out x hxm)
      have HAT := hidE (itemsOf_at (tx := tx) hx)
      have HLE := hidE (itemsOf_le (tx := tx) hx)
      replace d0 := ((HKI.out.bw.mono hB).cell (p := ⟨bl, off + j * 3, none⟩) hbl).trans d0
      replace d1 := ((HKI.out.bw.mono hB).cell (p := ⟨bl, off + j * 3 + 1, none⟩) hbl).trans d1
      replace d2 := ((HKI.out.bw.mono hB).cell (p := ⟨bl, off + j * 3 + 2, none⟩) hbl).trans d2
      obtain ⟨pa, pc, rfl, p1, p2, p3⟩ := hps
      have HPS := hidE p3
      have HKS := hidE hks
      obtain ⟨np, hnp⟩ : ∃ n, x.props.length = n := ⟨_, rfl⟩
      have HNP := hidE hnp
      rw [hnp] at d2 p1
      obtain ⟨nl, hnl⟩ : ∃ n, x.labels.length = n := ⟨_, rfl⟩
      have HNL := hidE hnl
      rw [hnl] at d1 s1
      generalize x.id = xi at *
      obtain ⟨A, hA⟩ : ∃ A, itemsOf tx (g.nodes.take j) = A := ⟨_, rfl⟩
      rw [hA] at HKI HAT HLE
      clear hx hc hks hxm p3 hnp hnl hA
      obtain ⟨W3, hW3⟩ : ∃ W, wr.alloc (.cells #[.int .i64 xi, .slice la nl lc, .slice pa np pc] 73) = W := ⟨_, rfl⟩
      have hbA : Below wr.heap.size wr W3 := by rw [← hW3]; exact (Below.refl _ _).alloc (Nat.le_refl _) _
      have rx : Rec W3 wr.heap.size #[.int .i64 xi, .slice la nl lc, .slice pa np pc] 73 := by rw [← hW3]; exact rec_new _ _ _
      have HK3 : Hid (KcI w bx m (kAll (A ++ (x.props.take 0).map (itemAt tx x.labels))) W3) := by
        show KcI _ _ _ _ _
        have := HKI.out.below hbA
        simpa using this
      have HRX := hidE rx
      have e2 := rx.cell 2 rfl
      have hs3 : wr.heap.size ≤ W3.heap.size := hbA.size
      obtain ⟨nb, hnb⟩ : ∃ n, wr.heap.size = n := ⟨_, rfl⟩
      rw [hnb] at e2 HRX hs3 hsz
      have hnb2 : nb < W3.heap.size := HRX.out.lt
      clear rx hbA HSZ HKI
      go_upto_region 6 with fail
      try rw [hW3]
      try rw [hnb]
      clear hW3 hnb
      go_wp2_with fail
      go_loopw [29] (fun i wr => ∃ k : Nat, k ≤ np ∧ i = .int .i64 k ∧ KcI w bx m (kAll (A ++ (x.props.take k).map (itemAt tx x.labels))) wr ∧ Rec wr nb #[.int .i64 xi, .slice la nl lc, .slice pa np pc] 73) (fun i _ => np - (intOf i).toNat)
      case atStart => exact ⟨0, Nat.zero_le _, rfl, HK3.out, HRX.out⟩
      case round =>
        clear e2 hs3 hnb2 HK3 HRX d0 d1 d2
        obtain ⟨k, hk, rfl, hki, hrx⟩ := hrel
        have HKI := hidE hki
        have HRX := hidE hrx
        clear hki hrx
        by_cases hlt2 : k < np
        · have hlt2' : (k : Int) < np := by omega
          obtain ⟨q, hq⟩ : ∃ q, x.props[k]? = some q := ⟨_, List.getElem?_eq_getElem (by have := HNP.out; omega)⟩
          obtain ⟨b2, o2, rfl, hb2, hc2⟩ := HPS.out.resolve_left (by intro e; rw [e] at hq; simp at hq)
          obtain ⟨q0, qs, v0, v1, v2, v3, v4, v5, ⟨q1, q2, q3, q4, q5, q6⟩, hlie⟩ := (hc2 k q hq).below (HKI.out.bw.mono hB) hb2
          obtain ⟨hok, htx⟩ := HTX.out q (List.mem_of_getElem? hq)
          have HO : Hid ((x.props.map (itemAt tx x.labels))[k]? = some (x.labels, q.1, tx q.2)) := by
            show _ = _
            rw [List.getElem?_map, hq]; rfl
          obtain ⟨qk, ⟨tk, tb, tn, ts, tks, tts⟩⟩ := q
          have HLI := hidE hlie
          simp only [Lies] at hlie
          obtain ⟨ka, kc, la2, lc2, eT, _⟩ := hlie
          have eT := agg_inj eT
          simp only [List.cons.injEq, and_true] at eT
          obtain ⟨rfl, rfl, rfl, rfl, rfl, rfl⟩ := eT
          simp only at hok htx HO qs q0
          obtain ⟨tt, htt⟩ : ∃ t, tx (.mk tk tb tn ts tks tts) = t := ⟨_, rfl⟩
          rw [htt] at hok htx HO
          generalize tks.length = kl at *
          generalize tts.length = ll at *
          obtain ⟨W4, hW4⟩ : ∃ W, wr.alloc (.cells #[.string qk, .int .i64 tk, .bool tb, .int .i64 tn, .string ts, .slice ka kl kc, .slice la2 ll lc2] 90) = W := ⟨_, rfl⟩
          have hbA : Below wr.heap.size wr W4 := by rw [← hW4]; exact (Below.refl _ _).alloc (Nat.le_refl _) _
          have rp : Rec W4 wr.heap.size #[.string qk, .int .i64 tk, .bool tb, .int .i64 tn, .string ts, .slice ka kl kc, .slice la2 ll lc2] 90 := by rw [← hW4]; exact rec_new _ _ _
          have HK4 := hidE (HKI.out.below hbA)
          have HRX4 := hidE (HRX.out.below hbA HRX.out.lt)
          have HRP := hidE rp
          obtain ⟨hs1, hs2, hs3, hs4⟩ := kAll_facts (A ++ (x.props.take k).map (itemAt tx x.labels))
          have hsl : (kAll (A ++ (x.props.take k).map (itemAt tx x.labels))).1.length ≤ 1000000 := by
            have h1 := HLE.out.1
            have h2 := HI.out
            simp only [List.length_append, List.length_map, List.length_take] at hs2
            omega
          have hws : wlen (A ++ (x.props.take k).map (itemAt tx x.labels)) + x.labels.length ≤ 100000000 := by
            have h1 := HLE.out.2
            have h2 := HWL.out
            have h3 := wlen_take HO.out
            rw [← List.map_take] at h3
            rw [wlen_append]
            simp only at h3
            omega
          have HLI2 : Hid (∀ W, Below W4.heap.size W4 W → Lies B W (.agg #[.int .i64 tk, .bool tb, .int .i64 tn, .string ts, .slice ka kl kc, .slice la2 ll lc2]) (.mk tk tb tn ts tks tts)) := fun W hb => HLI.out.below ((Below.on hbA hb).mono (by have := HKI.out.bw.size; omega))
          have HNM := hidE (number_any tk tb tn ts ka la2 kl kc ll lc2 tt 0 _ bx m W4 HK4.out.rb HK4.out.mt HBM.out hs1 hsl hok (fun W hb => htx W _ (Below.on HK4.out.bw hb) (HLI2.out W hb)))
          obtain ⟨S, hS⟩ : ∃ S, kAll (A ++ (x.props.take k).map (itemAt tx x.labels)) = S := ⟨_, rfl⟩
          have HSS := hidE hS
          rw [hS] at hs1 hsl HNM HK4 HKI hs3
          have HWS : Hid (S.2.length + x.labels.length ≤ 100000000) := by show _ ≤ _; omega
          have HSL := hidE hsl
          have e1 := rp.cell 1 rfl
          have e2 := rp.cell 2 rfl
          have e3 := rp.cell 3 rfl
          have e4 := rp.cell 4 rfl
          have e5 := rp.cell 5 rfl
          have e6 := rp.cell 6 rfl
          obtain ⟨pb, hpb⟩ : ∃ n, wr.heap.size = n := ⟨_, rfl⟩
          rw [hpb] at e1 e2 e3 e4 e5 e6 HRP
          have HPB : Hid (nb < pb ∧ pb < W4.heap.size ∧ W2.heap.size ≤ nb) := by
            refine ⟨?_, HRP.out.lt, ?_⟩
            · have := HRX.out.lt
              omega
            · omega
          clear rp hbA hq hc2 htx hok hS hs1 hs2 hs3 hs4 hsl hws HKI HRX htt
          go_upto_region 9 with fail
          try rw [hW4]
          try rw [hpb]
          clear hW4 hpb
          obtain ⟨z, hz⟩ : ∃ z, posOf tt S.1 = z := ⟨_, rfl⟩
          have hzb : z ≤ 1000000 := by
            have h1 : posOf tt S.1 ≤ S.1.length := by
              by_cases hm : tt ∈ S.1
              · exact Nat.le_of_lt (posOf_lt hm)
              · rw [posOf_new hm]; exact Nat.le_refl _
            have := HSL.out
            omega
          have HZ := hidE hz
          rw [hz] at HNM
          clear hz
          go_wp2_with (go_at_call 126; refine HNM.out.mono ?_; rintro e W5 ⟨rfl, y1, y2, y3⟩
                       have hk5 : ∀ i, i < W4.heap.size → i ≠ m → W5.heap[i]? = W4.heap[i]? := y2
                       have HRX5 : Hid (Rec W5 nb #[.int .i64 xi, .slice la nl lc, .slice (some ⟨b2, o2, none⟩) np pc] 73) := HRX4.out.keep (y2 _ HRX4.out.lt (by have := HMZ.out; have := HPB.out; omega))
                       have HRP5 : Hid (Rec W5 pb #[.string qk, .int .i64 tk, .bool tb, .int .i64 tn, .string ts, .slice ka kl kc, .slice la2 ll lc2] 90) := HRP.out.keep (y2 _ HRP.out.lt (by have := HMZ.out; have := HPB.out; omega))
                       have HK5 : Hid (KcI w bx m (withT tt S.1, S.2 ++ (x.labels.take 0).map fun l => ((l, qk, 0, 0), (z : Int))) W5) := by
                         show KcI _ _ _ _ _
                         refine ⟨HK4.out.bw.trans (y3 _ (by have := HMZ.out; omega) HK4.out.bw.size), HK4.out.rb.keep (y2 _ HK4.out.rb.lt HBM.out), y1, ?_⟩
                         simp only [List.take_zero, List.map_nil, List.append_nil]
                         exact MG.block HK4.out.mw (y2 _ (MG.lt HK4.out.mw) (by have := HMZ.out; omega))
                       have cN := HRX5.out.cell 1 rfl
                       clear y1 y2 y3 hk5)
          clear e1 e2 e3 e4 e5 e6 cN HNM HK4 HLI HLI2 HRX4 HRP
          go_loopw [40] (fun i wr => ∃ r : Nat, r ≤ nl ∧ i = .int .i64 r ∧ KcI w bx m (withT tt S.1, S.2 ++ (x.labels.take r).map fun l => ((l, qk, 0, 0), (z : Int))) wr ∧ Rec wr nb #[.int .i64 xi, .slice la nl lc, .slice (some ⟨b2, o2, none⟩) np pc] 73 ∧ Rec wr pb #[.string qk, .int .i64 tk, .bool tb, .int .i64 tn, .string ts, .slice ka kl kc, .slice la2 ll lc2] 90) (fun i _ => nl - (intOf i).toNat)
          case atStart => exact ⟨0, Nat.zero_le _, rfl, HK5.out, HRX5.out, HRP5.out⟩
          case round =>
            clear HK5 HRX5 HRP5
            obtain ⟨r, hr, rfl, hki, hrx, hrp⟩ := hrel
            have HKI := hidE hki
            have HRX := hidE hrx
            have HRP := hidE hrp
            by_cases hlt3 : r < nl
            · have hlt3' : (r : Int) < nl := by omega
              obtain ⟨lb, hlb⟩ : ∃ q, x.labels[r]? = some q := ⟨_, List.getElem?_eq_getElem (by have := HNL.out; omega)⟩
              obtain ⟨b3, o3, rfl, hb3, hc3⟩ := HKS.out.resolve_left (by intro e; rw [e] at hlb; simp at hlb)
              obtain ⟨cx, hss⟩ := hc3 r (by have := HNL.out; omega)
              have hgd : x.labels.getD r ⟨#[]⟩ = lb := by rw [List.getD_eq_getElem?_getD, hlb]; rfl
              rw [hgd] at cx hss
              replace cx := ((hki.bw.mono hB).cell (p := ⟨b3, o3 + r, none⟩) hb3).trans cx
              have hlen : (S.2 ++ (x.labels.take r).map fun l => (((l, qk, 0, 0), (z : Int)) : WorR)).length ≤ 1000000000 := by
                have h1 := HWS.out
                simp only [List.length_append, List.length_map, List.length_take]
                omega
              obtain ⟨st, w1, w2, c, a1, a2, a3, f1, f2, f3, f4, f5, f6, f7, f8⟩ := worth_bump hki.mw ((lb, qk, 0, 0), (z : Int)) ⟨⟨hss, qs, w64_zero, w64_zero⟩, w64 (by omega) (by omega)⟩ hlen
              have g0 := hrp.cell 0 rfl
              have hnbm := HPB.out
              have hmz := HMZ.out
              have HNEW : Hid (KcI w bx m (withT tt S.1, S.2 ++ (x.labels.take (r + 1)).map fun l => ((l, qk, 0, 0), (z : Int))) w2 ∧ Rec w2 nb #[.int .i64 xi, .slice (some ⟨b3, o3, none⟩) nl lc, .slice (some ⟨b2, o2, none⟩) np pc] 73 ∧ Rec w2 pb #[.string qk, .int .i64 tk, .bool tb, .int .i64 tn, .string ts, .slice ka kl kc, .slice la2 ll lc2] 90) := by
                refine ⟨⟨hki.bw.trans (f8.mono (by omega)), hki.rb.keep (f7 _ (by omega)), MG.block hki.mt (f7 _ (by omega)), ?_⟩, hrx.keep (f7 _ (by omega)), hrp.keep (f7 _ (by omega))⟩
                rw [List.take_add_one, hlb]
                simp only [Option.toList_some, List.map_append, List.map_cons, List.map_nil, ← List.append_assoc]
                exact f5
              simp only [worV] at f1 f2 f3 f4
              clear hki hrx hrp hc3 hlb hss hgd hlen f5 f6 f7 f8 hnbm hmz HKI HRX HRP
              go_upto_region 13 with fail
              apply wp_fixed w2
              apply Exists.intro
              apply And.intro
              · go_region_with fail
                all_goals exact ⟨rfl, rfl⟩
              · clear f1 f2 f3 f4 cx g0
                go_wp2_with fail
                go_roundw
                case rel => exact ⟨r + 1, by omega, by go_num, HNEW.out.1, HNEW.out.2.1, HNEW.out.2.2⟩
                case measure => simp [intOf]; omega
            · have hlt3' : ¬ (r : Int) < nl := by omega
              have HNEW : Hid (KcI w bx m (kAll (A ++ (x.props.take (k + 1)).map (itemAt tx x.labels))) wr) := by
                have h1 := HKI.out
                rw [List.take_of_length_le (by have := HNL.out; omega)] at h1
                have h2 : (x.props.take (k + 1)).map (itemAt tx x.labels) = (x.props.take k).map (itemAt tx x.labels) ++ [(x.labels, qk, tt)] := by
                  rw [List.map_take, List.map_take, List.take_add_one, HO.out]; rfl
                show KcI _ _ _ _ _
                rw [h2, ← List.append_assoc, kAll_snoc, HSS.out]
                unfold kStep
                simp only
                rw [HZ.out]
                exact h1
              clear hki hrx hrp
              go_wp2_with fail
              go_roundw
              case rel => exact ⟨k + 1, by omega, by go_num, HNEW.out, HRX.out⟩
              case measure => simp [intOf]; omega
        · have hlt2' : ¬ (k : Int) < np := by omega
          have HNEW : Hid (KcI w bx m (kAll (itemsOf tx (g.nodes.take (j + 1)))) wr ∧ W2.heap.size ≤ wr.heap.size) := by
            refine ⟨?_, by have := HRX.out.lt; omega⟩
            have h1 := HKI.out
            rw [List.take_of_length_le (by have := HNP.out; omega), ← HAT.out] at h1
            exact h1
          go_wp2_with fail
          go_roundw
          case rel => exact ⟨j + 1, by omega, by go_num, HNEW.out.1, HNEW.out.2⟩
          case measure => simp [intOf]; omega
    · have hlt' : ¬ (j : Int) < l1 := by omega
      have hki := HKI.out
      rw [List.take_of_length_le (by have := HL1.out; omega)] at hki
      have hZw : w.heap.size + 1 < wr.heap.size := MG.lt hki.mw
      obtain ⟨ws, hws⟩ : ∃ s, (kAll (itemsOf tx g.nodes)).2 = s := ⟨_, rfl⟩
      have HWS : Hid (ws.length ≤ 100000000 ∧ ∀ x ∈ ws, x.1.2.2 = (0, 0)) := by
        obtain ⟨_, _, k3, k4⟩ := kAll_facts (itemsOf tx g.nodes)
        rw [hws] at k3 k4
        exact ⟨by have := HWL.out; omega, k4⟩
      have HMO2 := HMO
      rw [hws] at HMO2
      have HWE := hidE hws
      have hmw := hki.mw
      rw [hws] at hmw
      have HBW := hidE hki.bw
      obtain ⟨ar, clock, hb, hent, hoks, hst⟩ := hmw
      have hn : ar.size = (cnt ws).length := by have := congrArg List.length hent; simpa using this
      have HENT : Hid (∀ x ∈ ar.toList, ∃ p ∈ cnt ws, okW p.1 ∧ p.1.1.2.2 = (0, 0) ∧ x.key = worV p.1 ∧ x.val = .int .i64 p.2) := fun x hx => by
        have h1 : (x.key, x.val) ∈ ar.toList.map (fun e => (e.key, e.val)) := List.mem_map.2 ⟨x, hx, rfl⟩
        rw [hent] at h1
        obtain ⟨q, hq, e⟩ := List.mem_map.1 h1
        have hok := hoks q hq
        obtain ⟨p, hp, rfl⟩ := List.mem_map.1 hq
        obtain ⟨e1, e2⟩ := Prod.mk.inj e
        exact ⟨p, hp, hok, HWS.out.2 _ ((cnt_keys ws p.1).1 (List.mem_map_of_mem hp)), e1.symm, e2.symm⟩
      have HEQ : Hid (ar.toList.map (fun e => (e.key, e.val)) = (cnt ws).map (fun p => (worV p.1, Value.int .i64 p.2))) := by
        show _ = _
        rw [hent, List.map_map]; rfl
      have HND : Hid (ar.toList.Nodup) := by
        have := hst.2.1
        rw [List.nodup_iff_pairwise_ne] at *
        exact (List.pairwise_map.1 this).imp fun h e => h (by rw [e])
      have HBORN : Hid (∀ x ∈ ar.toList, ∀ y ∈ ar.toList, x.born = y.born → x = y) := fun x hx y hy e => by
        obtain ⟨i, hi⟩ := List.getElem?_of_mem hx
        obtain ⟨j, hj⟩ := List.getElem?_of_mem hy
        have := (List.getElem?_inj (l := ar.toList.map (·.born)) (by simpa using (List.getElem?_eq_some_iff.1 hi).1) hst.2.1 (i := i) (j := j)).1 (by rw [List.getElem?_map, List.getElem?_map, hi, hj, Option.map_some, Option.map_some, e])
        subst this
        rw [hi] at hj
        exact Option.some.inj hj
      have HLEN : Hid (∀ done : List MapEntry, done.Nodup → (∀ x ∈ done, x ∈ ar.toList) → done.length ≤ 100000000) := fun done h1 h2 => by
        have := nodup_len h1 h2
        have h3 := cnt_len ws
        have h4 := HWS.out.1
        simp only [Array.length_toList] at this
        omega
      have HST := hidE hst
      have HB := hidE hb
      obtain ⟨Z, hZ⟩ : ∃ Z, wr.heap.size = Z := ⟨_, rfl⟩
      obtain ⟨Wp, hWp⟩ : ∃ W, wr.alloc (.map #[] 0) = W := ⟨_, rfl⟩
      have hzp : Wp.heap.size = Z + 1 := by rw [← hWp, ← hZ]; simp
      have hbp : Below wr.heap.size wr Wp := by rw [← hWp]; exact (Below.refl _ _).alloc (Nat.le_refl _) _
      have hmp : MC keyV okK Wp Z [] := by rw [← hWp, ← hZ]; exact mg_none _
      obtain ⟨Wq, hWq⟩ : ∃ W, Wp.alloc (.map #[] 0) = W := ⟨_, rfl⟩
      have hzq : Wq.heap.size = Z + 2 := by rw [← hWq]; simp [hzp]
      have hbq : Below Wp.heap.size Wp Wq := by rw [← hWq]; exact (Below.refl _ _).alloc (Nat.le_refl _) _
      have hmq : MC keyV okK Wq (Z + 1) [] := by rw [← hWq, ← hzp]; exact mg_none _
      obtain ⟨Wr, hWr⟩ : ∃ W, Wq.alloc (.cells #[.map (some (Z + 1))] 157) = W := ⟨_, rfl⟩
      have hzr : Wr.heap.size = Z + 3 := by rw [← hWr]; simp [hzq]
      have hbr : Below Wq.heap.size Wq Wr := by rw [← hWr]; exact (Below.refl _ _).alloc (Nat.le_refl _) _
      have hrr : Rec Wr (Z + 2) #[.map (some (Z + 1))] 157 := by rw [← hWr, ← hzq]; exact rec_new _ _ _
      have hbwr : Below wr.heap.size wr Wr := Below.on (Below.on hbp hbq) hbr
      have HD0 : Hid (KdI w Z [] Wr) := ⟨Below.on HBW.out hbwr, hrr, MG.block (MG.block hmp (hbq.block _ (by omega))) (hbr.block _ (by omega)), MG.block hmq (hbr.block _ (by omega))⟩
      have HB2 : Hid (Wr.heap[w.heap.size + 1]? = some (.map ar clock)) := (hbwr.block _ (by omega)).trans HB.out
      have hrg := run_range_map (P := Tryz.prog) Wr 152 156 2 (w.heap.size + 1) ar clock (by kernel_rfl) HB2.out
      have HZW : Hid (w.heap.size + 1 < Z) := by show _ < _; omega
      rw [hzr] at hrg
      have HZR := hidE hzr
      clear hki hmp hmq hrr hbp hbq hbr hbwr hb hent hoks hst hn hws
      go_upto_region 18 with fail
      try rw [hZ]
      try rw [hWp]
      try rw [hWq]
      try rw [hWr]
      clear hWp hWq hWr hzp hzq hzr hZ hZw hsz
      go_wp2_with fail
      go_loopw [] (fun wr => ∃ seen c0 done D, Kloop w ar clock (w.heap.size + 1) (Z + 3) Z wr seen c0 done D) (fun wr => wr.rangeLeft (w.heap.size + 1) (Z + 3))
      case atStart =>
        refine ⟨#[], clock, [], [], ⟨?_, Nat.le_refl _, HD0.out.below ((Below.refl _ _).alloc (Nat.le_refl _) _), (Below.heap_alloc _ _ _ (by have := HZW.out; have := HZR.out; omega)).trans HB2.out, rfl, List.nodup_nil, fun x hx => by simp at hx, fun x hx => by simp⟩⟩
        rw [← HZR.out]
        exact World.alloc_heap_new _ _
      case round =>
        obtain ⟨seen, c0, done, D, hC⟩ := hrel
        have HW := hidE hC
        clear HD0 HB2 HMO HI HT HN3 HKI
        rcases run_next_at (P := Tryz.prog) wr 0 (Z + 3) (w.heap.size + 1) clock c0 seen ar clock hC.it hC.hb HST.out.1 hC.cl with ⟨h0, hnx⟩ | ⟨x, hx, w1, hw1, hnx⟩
        · have HF : Hid (D.Perm (cnt ws)) := by
            have hp : done.Perm ar.toList := (List.perm_ext_iff_of_nodup hC.nd HND.out).2 fun x => ⟨hC.sub x, fun hx => (hC.has x hx).1 (all_seen ar seen h0 x hx)⟩
            have h1 := hp.map (fun e => (e.key, e.val))
            rw [← hC.dn, HEQ.out] at h1
            exact perm_back worV_inj h1
          have HP1 : Hid ((gather (D.map fun p => (p.1.1, p.2))).Perm (nodesK ws)) := gather_perm (HF.out.map _)
          have HP2 : Hid (numK (gather (D.map fun p => (p.1.1, (1 : Int)))) = numK (valuesK ws)) := by
            show _ = _
            refine numK_perm fun x => ?_
            unfold valuesK
            rw [gather_count, gather_count]
            exact sumAt_perm (HF.out.map _) x
          have HZK : Hid (∀ p ∈ gather (D.map fun p => (p.1.1, p.2)), p.1.2.2 = (0, 0)) := fun p hp => by
            have h1 := (gather_keys _ p.1).1 (List.mem_map_of_mem hp)
            rw [List.map_map] at h1
            obtain ⟨q, hq, e⟩ := List.mem_map.1 h1
            have h2 := HWS.out.2 _ ((cnt_keys ws q.1).1 (List.mem_map_of_mem (HF.out.mem_iff.1 hq)))
            rw [← e]; exact h2
          have HRW := hidE (rows98_any hsort hmost hC.i.mn (by rw [HP1.out.length_eq]; exact HMO2.out) (Z + 2) (Z + 1) _ hC.i.rb hC.i.mv (gather_nodup _) HZK.out)
          have HBE := hidE hC.i.bw
          clear hC h0
          go_wp2_with (go_at_call 98; refine HRW.out.mono ?_; rintro e W6 ⟨v6, L, rfl, y1, y2, y3, y4⟩; have HY := hidE (And.intro y1 (And.intro y2 (And.intro y3 y4))); clear y1 y2 y3 y4)
          go_ret
          obtain ⟨y1, y2, y3, y4⟩ := HY.out
          refine ⟨v6, L, rfl, ?_, y2, y3.base HBE.out.size, Below.on HBE.out y4⟩
          rw [HWE.out]
          unfold keysK
          rw [← HP2.out]
          exact y1.trans (HP1.out.map _)
        · obtain ⟨hxm, hxs⟩ := mem_left hx
          obtain ⟨⟨⟨⟨l, kk, a, b⟩, vn⟩, z⟩, hpc, hpo, hpz, ek, ev⟩ := HENT.out x hxm
          obtain ⟨ha0, hb0⟩ := Prod.mk.inj hpz
          try simp only at ha0 hb0
          subst ha0 hb0
          simp only [worV] at ek ev
          have hzv := cnt_vals ws _ hpc
          simp only at hzv
          obtain ⟨U, hU⟩ : ∃ V, Go.ChangeMaps.setBlock w1 (Z + 3) (.mapIter (some (w.heap.size + 1)) clock (seen.push x.born) clock) = V := ⟨_, rfl⟩
          rw [hU, ek, ev] at hnx
          have hit1 : w1.heap[Z + 3]? = some (.mapIter (some (w.heap.size + 1)) clock seen c0) := by rcases hw1 with rfl | rfl <;> exact hC.it
          have hset := MapKept.heap_set (o' := .mapIter (some (w.heap.size + 1)) clock (seen.push x.born) clock) hit1
          have hVo : ∀ q, q ≠ Z + 3 → U.heap[q]? = wr.heap[q]? := fun q hq => by
            rw [← hU]
            have : w1.heap[q]? = wr.heap[q]? := by rcases hw1 with rfl | rfl <;> rfl
            exact (hset.2 q hq).trans this
          have hVs : U.heap.size = wr.heap.size := by
            rw [← hU]
            have : w1.heap.size = wr.heap.size := by rcases hw1 with rfl | rfl <;> rfl
            simp [Go.ChangeMaps.setBlock, this]
          have hVi : U.heap[Z + 3]? = some (.mapIter (some (w.heap.size + 1)) clock (seen.push x.born) clock) := by rw [← hU]; exact hset.1
          have hVt : U.os = wr.os ∧ U.tape = wr.tape ∧ U.output = wr.output := by
            rw [← hU]
            rcases hw1 with rfl | rfl <;> exact ⟨rfl, rfl, rfl⟩
          have hZw := HZW.out
          have hbV : Below w.heap.size w U := ⟨hVt.1.trans hC.i.bw.os, hVt.2.1.trans hC.i.bw.tape, hVt.2.2.trans hC.i.bw.output, by rw [hVs]; exact hC.i.bw.size, fun q hq => (hVo q (by omega)).trans (hC.i.bw.block q hq)⟩
          have hUb : U.heap[w.heap.size + 1]? = some (.map ar clock) := (hVo _ (by omega)).trans hC.hb
          have hen := run_entry_at (P := Tryz.prog) U (Z + 3) (w.heap.size + 1) clock seen ar clock x hVi hUb hxm HST.out.2.1
          rw [ek, ev] at hen
          have hmeas : (leftOf ar (seen.push x.born)).size < (leftOf ar seen).size := left_shrinks ar seen x hx
          have hmeas2 : wr.rangeLeft (w.heap.size + 1) (Z + 3) = (leftOf ar seen).size := by simp only [World.rangeLeft, hC.hb, hC.it]
          have hszr : Z + 3 < U.heap.size := (Array.getElem?_eq_some_iff.1 hVi).1
          have hKU : KdI w Z D U := ⟨hbV, hC.i.rb.keep (hVo _ (by omega)), MG.block hC.i.mn (hVo _ (by omega)), MG.block hC.i.mv (hVo _ (by omega))⟩
          obtain ⟨W3, hW3⟩ : ∃ W, U.alloc (.cells #[.string l, .string kk, .int .i64 0, .int .i64 0, .int .i64 vn] 156) = W := ⟨_, rfl⟩
          have hbA : Below U.heap.size U W3 := by rw [← hW3]; exact (Below.refl _ _).alloc (Nat.le_refl _) _
          have rx : Rec W3 U.heap.size #[.string l, .string kk, .int .i64 0, .int .i64 0, .int .i64 vn] 156 := by rw [← hW3]; exact rec_new _ _ _
          have hK3 := hKU.below hbA
          have hDl : D.length ≤ 100000000 := by
            have e1 := congrArg List.length hC.dn
            simp only [List.length_map] at e1
            have e2 := HLEN.out done hC.nd hC.sub
            omega
          have hDv : ∀ p ∈ D, 0 ≤ p.2 ∧ p.2 ≤ 100000000 := fun p hp => by
            have h1 : (worV p.1, Value.int .i64 p.2) ∈ done.map (fun e => (e.key, e.val)) := by rw [← hC.dn]; exact List.mem_map.2 ⟨p, hp, rfl⟩
            obtain ⟨y, hy, e⟩ := List.mem_map.1 h1
            obtain ⟨q, hq, _, _, e3, e4⟩ := HENT.out y (hC.sub y hy)
            have h2 := cnt_vals ws q hq
            have h3 := HWS.out.1
            have e5 : Value.int .i64 p.2 = .int .i64 q.2 := (Prod.mk.inj e).2.symm.trans e4
            have e6 : p.2 = q.2 := by injection e5
            omega
          have hc1 := sumAt_le (x := ((l, kk, (0 : Int), (0 : Int)) : KeyR)) (c := 100000000) (by omega) (l := D.map fun p => (p.1.1, p.2)) (fun q hq => by
            obtain ⟨p, hp, rfl⟩ := List.mem_map.1 hq
            exact hDv p hp)
          have hc2 := sumAt_le (x := ((l, kk, (0 : Int), (0 : Int)) : KeyR)) (c := 1) (by omega) (l := D.map fun p => (p.1.1, (1 : Int))) (fun q hq => by
            obtain ⟨p, hp, rfl⟩ := List.mem_map.1 hq
            simp)
          rw [← gather_count] at hc1 hc2
          simp only [List.length_map] at hc1 hc2
          obtain ⟨st, f1, f2, p1, p2, p3, p4, p5, p6, p7, p8⟩ := key_bump hK3.mn (gather_nodup _) (l, kk, 0, 0) hpo.1 z
          have hmv2 : MC keyV okK f2 (Z + 1) (gather (D.map fun p => (p.1.1, (1 : Int)))) := MG.block hK3.mv (p7 _ (by omega))
          obtain ⟨st', f3, f4, r1, r2, r3, r4, r5, r6, r7, r8⟩ := key_bump hmv2 (gather_nodup _) (l, kk, 0, 0) hpo.1 1
          obtain ⟨ca, hca⟩ : ∃ c, countOf ((l, kk, 0, 0) : KeyR) (gather (D.map fun p => (p.1.1, p.2))) = c := ⟨_, rfl⟩
          obtain ⟨cb, hcb⟩ : ∃ c, countOf ((l, kk, 0, 0) : KeyR) (gather (D.map fun p => (p.1.1, (1 : Int)))) = c := ⟨_, rfl⟩
          rw [hca] at p1 p2 p3 p4 hc1
          rw [hcb] at r1 r2 r3 r4 hc2
          have hzz : 0 ≤ z ∧ z ≤ 100000000 := by have := HWS.out.1; omega
          have hwa : IntKind.i64.wrap (ca + z) = ca + z := by rw [IntKind.wrap_i64]; omega
          have hwb : IntKind.i64.wrap (cb + 1) = cb + 1 := by rw [IntKind.wrap_i64]; omega
          have rx2 := rx.keep (p7 _ (by omega))
          have rb3 := hK3.rb.keep (p7 _ (by omega))
          have e0 := rx.cell 0 rfl
          have e1 := rx.cell 1 rfl
          have e2 := rx.cell 2 rfl
          have e3 := rx.cell 3 rfl
          have g0 := rx2.cell 0 rfl
          have g1 := rx2.cell 1 rfl
          have g2 := rx2.cell 2 rfl
          have g3 := rx2.cell 3 rfl
          have g4 := rb3.cell 0 rfl
          have hkeep : ∀ i, i ≠ Z → i ≠ Z + 1 → i < U.heap.size → f4.heap[i]? = U.heap[i]? := fun i i1 i2 i3 => (r7 i i2).trans ((p7 i i1).trans (hbA.block i i3))
          have HNEW : Hid (Kloop w ar clock (w.heap.size + 1) (Z + 3) Z f4 (seen.push x.born) clock (done ++ [x]) (D ++ [(((l, kk, 0, 0), vn), z)])) := by
            refine ⟨(hkeep _ (by omega) (by omega) hszr).trans hVi, Nat.le_refl _, ⟨(Below.on hbV hbA).trans ((p8.mono (by omega)).trans (r8.mono (by omega))), rb3.keep (r7 _ (by omega)), ?_, ?_⟩, (hkeep _ (by omega) (by omega) (by omega)).trans hUb, ?_, ?_, ?_, ?_⟩
            · rw [List.map_append]
              show MC keyV okK f4 Z (gather (_ ++ [((l, kk, 0, 0), z)]))
              rw [gather_snoc]
              exact MG.block p5 (r7 _ (by omega))
            · rw [List.map_append]
              show MC keyV okK f4 (Z + 1) (gather (_ ++ [((l, kk, 0, 0), 1)]))
              rw [gather_snoc]
              exact r5
            · rw [List.map_append, List.map_append, hC.dn]
              simp [worV, ek, ev]
            · refine List.nodup_append.2 ⟨hC.nd, by simp, fun a ha c hc => ?_⟩
              simp only [List.mem_singleton] at hc
              subst hc
              intro e
              subst e
              have := (hC.has _ hxm).2 ha
              rw [hxs] at this
              cases this
            · intro y hy
              rcases List.mem_append.1 hy with hy | hy
              · exact hC.sub y hy
              · rw [List.mem_singleton.1 hy]; exact hxm
            · intro y hy
              rw [contains_push]
              simp only [Bool.or_eq_true, hC.has y hy, beq_iff_eq, List.mem_append, List.mem_singleton]
              constructor
              · rintro (h1 | h1)
                · exact .inl h1
                · exact .inr (HBORN.out y hy x hxm h1)
              · rintro (h1 | h1)
                · exact .inl h1
                · exact .inr (by rw [h1])
          have HM := hidE (And.intro hmeas hmeas2)
          simp only [keyV] at p1 p2 p3 p4 r1 r2 r3 r4
          obtain ⟨Q, hQ⟩ : ∃ Q, U.heap.size = Q := ⟨_, rfl⟩
          rw [hQ] at e0 e1 e2 e3 g0 g1 g2 g3
          clear hC hU hit1 hset hVo hVs hVi hVt hbV hUb hxm hxs ek ev hx hw1 hmeas hmeas2 hpc hpo hpz hzv hszr hKU hbA rx hK3 hDl hDv hc1 hc2 p5 p6 p7 p8 r5 r6 r7 r8 hmv2 hca hcb hzz rx2 rb3 hkeep hZw
          go_upto_region 21 with fail
          try rw [hW3]
          try rw [hQ]
          clear hW3 hQ hen hnx
          apply wp_fixed f2
          apply Exists.intro
          apply And.intro
          · go_region_with fail
            all_goals exact ⟨rfl, rfl⟩
          · clear p1 p2 p3 p4 e0 e1 e2 e3
            go_upto_region 22 with fail
            apply wp_fixed f4
            apply Exists.intro
            apply And.intro
            · go_region_with fail
              all_goals exact ⟨rfl, rfl⟩
            · clear r1 r2 r3 r4 g0 g1 g2 g3 g4
              go_wp2_with fail
              go_roundw
              case rel => exact ⟨_, _, _, _, HNEW.out⟩
              case measure =>
                have h1 : f4.rangeLeft (w.heap.size + 1) (Z + 3) = (leftOf ar (seen.push x.born)).size := by
                  simp only [World.rangeLeft, HNEW.out.hb, HNEW.out.it]
                rw [h1, HM.out.2]
                exact HM.out.1
end Go.Proofs.YthfilnflgahcjaaGreatDoor
