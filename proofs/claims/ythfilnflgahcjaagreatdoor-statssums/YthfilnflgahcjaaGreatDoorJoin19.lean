/- The rules of a graph: the program's word. A graph's types, counted. A graph's labels, counted. -/
import Derived.Test.YthfilnflgahcjaaGreatDoorJoin18
import Derived.Test.YthfilnflgahcjaaGreatDoorJoin10
import Derived.Deep.RegionWith
import Derived.Test.YthfilnflgahcjaaGreatDoorJoin8
import Derived.Test.YthfilnflgahcjaaGreatDoorJoin9
namespace Go.Proofs.YthfilnflgahcjaaGreatDoor
open Go.RowKit Go.Shelf
set_option linter.unusedVariables false
set_option linter.unusedSimpArgs false
attribute [local go_sem] Oper.semAt_some
/-- May all values be stored? -/
def storsB : List (ByteArray × Tree) → Bool
  | [] => true
  | q :: r => (decide (checkN q.2 = 0) && storB q.2) && storsB r
theorem storsB_at {ps : List (ByteArray × Tree)} {j : Nat} {q : ByteArray × Tree} (h : ps[j]? = some q) : storsB (ps.drop j) = ((decide (checkN q.2 = 0) && storB q.2) && storsB (ps.drop (j + 1))) := by
  obtain ⟨hj, hx⟩ := List.getElem?_eq_some_iff.1 h
  rw [List.drop_eq_getElem_cons hj, hx, storsB]
/-- May properties be? -/
def mayPB (ps : List (ByteArray × Tree)) : Bool := storsB ps && nrB ⟨#[]⟩ (ps.map Prod.fst)
set_option maxRecDepth 100000 in
set_option maxHeartbeats 4000000 in
theorem mayP_any (v : Value) (ps : List (ByteArray × Tree)) (B : Nat) (w : World) (hB : B ≤ w.heap.size) (hE : Env w) (hp : PropsLie B w v ps) (hs : ∀ q ∈ ps, q.1.size ≤ 140737488355328 ∧ Modest q.2) :
    Calls Tryz.prog 135 #[v] w fun e w' => e = .returned (.bool (mayPB ps)) ∧ Below w.heap.size w w' := by
  have HS := hidE hs
  have HE := hidE hE
  obtain ⟨pa, pc, rfl, h1, h2, hp3⟩ := hp
  have HP := hidE hp3
  have HKY : Hid (∀ W, Below w.heap.size w W → Calls Tryz.prog 155 #[.slice pa ps.length pc, .func (.func 156) #[] #[]] W fun e w' => e = .returned (.bool (nrB ⟨#[]⟩ (ps.map Prod.fst))) ∧ Below W.heap.size W w') := fun W hb =>
    keys_any ps B pa pc W (by have := hb.size; omega) (HE.out.below hb HE.out.room) (hp3.imp id fun ⟨bl, off, e, hl, hc⟩ => ⟨bl, off, e, hl, fun i q hi => (hc i q hi).below (hb.mono hB) hl⟩) h1 h2 (fun q hq => (hs q hq).1)
  obtain ⟨res, hres⟩ : ∃ r, mayPB ps = r := ⟨_, rfl⟩
  rw [hres]
  unfold mayPB at hres
  obtain ⟨kb, hkb⟩ : ∃ r, nrB ⟨#[]⟩ (ps.map Prod.fst) = r := ⟨_, rfl⟩
  rw [hkb] at HKY hres
  have HR := hidE hres
  obtain ⟨n, hn⟩ : ∃ n, ps.length = n := ⟨_, rfl⟩
  have HN := hidE hn
  rw [hn] at h1 HKY ⊢
  clear hp3 hs hn hres hE hkb
  go_enter Tryz.func135, Tryz.ntmps135
  go_wp2_with fail
  go_loopw [7] (fun i wr => ∃ j : Nat, j ≤ n ∧ i = .int .i64 j ∧ Below w.heap.size w wr ∧ (storsB (ps.drop j) && kb) = res) (fun i _ => n - (intOf i).toNat)
  case atStart => exact ⟨0, Nat.zero_le _, rfl, Below.refl _ _, HR.out⟩
  case round =>
    obtain ⟨j, hj, rfl, hbr, hrs⟩ := hrel
    have HBR := hidE hbr
    have HRS := hidE hrs
    have hwz : w.heap.size ≤ wr.heap.size := hbr.size
    clear hbr hrs
    by_cases hlt : j < n
    · have hlt' : (j : Int) < n := by omega
      obtain ⟨⟨x, ⟨tk, tb, tn, ts, tks, tts⟩⟩, hx⟩ : ∃ x, ps[j]? = some x := ⟨_, List.getElem?_eq_getElem (by have := HN.out; omega)⟩
      have HX := hidE hx
      obtain ⟨bl, off, rfl, hbl, hc⟩ := HP.out.resolve_left (by intro e; rw [e] at hx; simp at hx)
      obtain ⟨cx, _, v0, v1, v2, v3, v4, v5, ⟨c0, c1, c2, c3, c4, c5⟩, hv⟩ := (hc j _ hx).below (HBR.out.mono hB) hbl
      have hxm := (HS.out _ (List.mem_of_getElem? hx)).2
      simp only at cx hv hxm
      have hv0 := hv
      simp only [Lies] at hv
      obtain ⟨kaa, kcc, laa, lcc, hag, _⟩ := hv
      obtain ⟨rfl, rfl, rfl, rfl, rfl, rfl⟩ : v0 = .int .i64 tk ∧ v1 = .bool tb ∧ v2 = .int .i64 tn ∧ v3 = .string ts ∧ v4 = .slice kaa tks.length kcc ∧ v5 = .slice laa tts.length lcc := by
        simpa using hag
      have HST := hidE (fun W (hb : Below wr.heap.size wr W) => Storable_any _ B _ W (by have := hb.size; omega) (hv0.below (hb.mono (by omega))) (HE.out.below (below_on HBR.out hb) HE.out.room).tabs hxm)
      obtain ⟨sb, hsb⟩ : ∃ r, (decide (checkN (.mk tk tb tn ts tks tts) = 0) && storB (.mk tk tb tn ts tks tts)) = r := ⟨_, rfl⟩
      rw [hsb] at HST
      have HE2 : Hid (res = ((sb && storsB (ps.drop (j + 1))) && kb)) := by
        show _ = _
        rw [← HRS.out, storsB_at HX.out]
        simp only
        rw [hsb]
      clear hc hx hag hv0 hxm hsb
      go_upto_region 4 with fail
      generalize hW2 : World.alloc _ _ = W2
      have hr2 := rec_new wr #[.string x, .int .i64 tk, .bool tb, .int .i64 tn, .string ts, .slice kaa tks.length kcc, .slice laa tts.length lcc] 90
      rw [hW2] at hr2
      have HB2 : Hid (Below wr.heap.size wr W2) := by rw [← hW2]; exact (Below.refl _ _).alloc (Nat.le_refl _) _
      have k1 := hr2.cell 1 rfl
      have k2 := hr2.cell 2 rfl
      have k3 := hr2.cell 3 rfl
      have k4 := hr2.cell 4 rfl
      have k5 := hr2.cell 5 rfl
      have k6 := hr2.cell 6 rfl
      clear hW2 hr2 cx c0 c1 c2 c3 c4 c5
      go_wp2_with fail
      refine (HST.out W2 HB2.out).mono ?_
      rintro e w3 ⟨rfl, hb3⟩
      have HB3 := hidE (below_on HBR.out (below_on HB2.out hb3))
      clear hb3 k1 k2 k3 k4 k5 k6
      cases sb with
      | false =>
        have HF : Hid (res = false) := HE2.out
        go_wp2_with fail
        go_ret
        exact ⟨by rw [HF.out]; rfl, HB3.out⟩
      | true =>
        have HN2 : Hid ((storsB (ps.drop (j + 1)) && kb) = res) := HE2.out.symm
        go_wp2_with fail
        go_roundw
        case rel => exact ⟨j + 1, by omega, by go_num, HB3.out, HN2.out⟩
        case measure => simp [intOf]; omega
    · have HF : Hid (res = kb) := by
        show _ = _
        rw [← HRS.out, List.drop_of_length_le (by have := HN.out; omega)]; rfl
      have hlt' : ¬ (j : Int) < n := by omega
      go_wp2_with fail
      refine (HKY.out wr HBR.out).mono ?_
      rintro e w3 ⟨rfl, hb3⟩
      have HB3 := hidE (below_on HBR.out hb3)
      clear hb3
      go_wp2_with fail
      go_ret
      exact ⟨by rw [HF.out]; rfl, HB3.out⟩
/-- Is a graph's sizes no wonder? -/
structure Mild (g : GraphP) : Prop where
  nodes : g.nodes.length ≤ 2000000
  rels : g.rels.length ≤ 2000000
  ofNode : ∀ n ∈ g.nodes, (∀ x ∈ n.labels, x.size ≤ 140737488355328) ∧ ∀ q ∈ n.props, q.1.size ≤ 140737488355328 ∧ Modest q.2
  ofRel : ∀ r ∈ g.rels, r.type.size ≤ 140737488355328 ∧ ∀ q ∈ r.props, q.1.size ≤ 140737488355328 ∧ Modest q.2
set_option maxRecDepth 100000 in
set_option maxHeartbeats 4000000 in
theorem gfew_any (g : GraphP) (B : Nat) (v : Value) (w : World) (hB : B ≤ w.heap.size) (hE : Env w) (hg : GraphLies B w v g) (hz : Mild g) : Calls Tryz.prog 100 #[v] w fun e w' => e = .returned (.bool (decide ((g.nodes.length : Int) + (g.rels.length : Int) ≤ 65536))) ∧ Below w.heap.size w w' := by
  obtain ⟨na, nc, ra, rc, rfl, hn, hr⟩ := hg
  obtain ⟨h60, h61, hz1, hz2⟩ := hz
  have HE := hidE hE
  obtain ⟨res, hres⟩ : ∃ r, decide ((g.nodes.length : Int) + (g.rels.length : Int) ≤ 65536) = r := ⟨_, rfl⟩
  have HR := hidE hres
  rw [hres]
  clear hres hE
  obtain ⟨ns, rs, nn, nr⟩ := g
  simp only at hn hr h60 h61 hz1 hz2 HR ⊢
  obtain ⟨a', c', e1, h1, h2, hp3⟩ := hn
  obtain ⟨rfl, rfl⟩ : na = a' ∧ nc = c' := by injection e1 with e1 _ e2; exact ⟨e1, e2⟩
  obtain ⟨a', c', e2, r1, r2, hq3⟩ := hr
  obtain ⟨rfl, rfl⟩ : ra = a' ∧ rc = c' := by injection e2 with e1 _ e2; exact ⟨e1, e2⟩
  have HP := hidE hp3
  have HQ := hidE hq3
  have HS1 := hidE hz1
  have HS2 := hidE hz2
  obtain ⟨n, hn⟩ : ∃ n, ns.length = n := ⟨_, rfl⟩
  have HN := hidE hn
  obtain ⟨m, hm⟩ : ∃ m, rs.length = m := ⟨_, rfl⟩
  have HM := hidE hm
  rw [hn] at h1 h60
  rw [hm] at r1 h61
  rw [hn, hm]
  clear hp3 hq3 hz1 hz2 hn hm e1 e2
  have hle : n ≤ 9223372036854775807 := by omega
  have hlm : m ≤ 9223372036854775807 := by omega
  go_enter Tryz.func100, Tryz.ntmps100
  go_upto_region 1 with fail
  generalize hW1 : World.alloc _ _ = W1
  have hr1 := rec_new w #[.slice na n nc, .slice ra m rc, .int .i64 nn, .int .i64 nr] 25
  rw [hW1] at hr1
  have HB1 : Hid (Below w.heap.size w W1) := by rw [← hW1]; exact (Below.refl _ _).alloc (Nat.le_refl _) _
  have HR1 := hidE hr1
  have q0 := hr1.cell 0 rfl
  have q1 := hr1.cell 1 rfl
  clear hW1 hr1
  have hsum : IntKind.i64.wrap ((n : Int) + (m : Int)) = (n : Int) + (m : Int) := by rw [IntKind.wrap_i64]; omega
  have HR2 : Hid (decide ((n : Int) + (m : Int) ≤ 65536) = res) := by
    show _ = _
    rw [← HR.out, HN.out, HM.out]
  go_wp2_with fail
  go_ret
  exact ⟨by rw [← HR2.out]; rfl, HB1.out⟩
/-- All labels rise. -/
def labelsB : List NodeP → Bool
  | [] => true
  | n :: r => nrB ⟨#[]⟩ n.labels && labelsB r
def typesB : List RelP → Bool
  | [] => true
  | n :: r => nameOk n.type.data.toList && typesB r
def nodePropsB : List NodeP → Bool
  | [] => true
  | n :: r => mayPB n.props && nodePropsB r
def relPropsB : List RelP → Bool
  | [] => true
  | n :: r => mayPB n.props && relPropsB r
theorem labelsB_at {ns : List NodeP} {j : Nat} {n : NodeP} (h : ns[j]? = some n) : labelsB (ns.drop j) = (nrB ⟨#[]⟩ n.labels && labelsB (ns.drop (j + 1))) := by
  obtain ⟨hj, hx⟩ := List.getElem?_eq_some_iff.1 h
  rw [List.drop_eq_getElem_cons hj, hx, labelsB]
theorem typesB_at {ns : List RelP} {j : Nat} {n : RelP} (h : ns[j]? = some n) : typesB (ns.drop j) = (nameOk n.type.data.toList && typesB (ns.drop (j + 1))) := by
  obtain ⟨hj, hx⟩ := List.getElem?_eq_some_iff.1 h
  rw [List.drop_eq_getElem_cons hj, hx, typesB]
theorem nodePropsB_at {ns : List NodeP} {j : Nat} {n : NodeP} (h : ns[j]? = some n) : nodePropsB (ns.drop j) = (mayPB n.props && nodePropsB (ns.drop (j + 1))) := by
  obtain ⟨hj, hx⟩ := List.getElem?_eq_some_iff.1 h
  rw [List.drop_eq_getElem_cons hj, hx, nodePropsB]
theorem relPropsB_at {ns : List RelP} {j : Nat} {n : RelP} (h : ns[j]? = some n) : relPropsB (ns.drop j) = (mayPB n.props && relPropsB (ns.drop (j + 1))) := by
  obtain ⟨hj, hx⟩ := List.getElem?_eq_some_iff.1 h
  rw [List.drop_eq_getElem_cons hj, hx, relPropsB]
set_option maxRecDepth 100000 in
set_option maxHeartbeats 4000000 in
theorem labels_any (g : GraphP) (B : Nat) (v : Value) (w : World) (hB : B ≤ w.heap.size) (hE : Env w) (hg : GraphLies B w v g) (hz : Mild g) : Calls Tryz.prog 102 #[v] w fun e w' => e = .returned (.bool (labelsB g.nodes)) ∧ Below w.heap.size w w' := by
  obtain ⟨na, nc, ra, rc, rfl, hn, hr⟩ := hg
  obtain ⟨h60, h61, hz1, hz2⟩ := hz
  have HE := hidE hE
  obtain ⟨res, hres⟩ : ∃ r, labelsB g.nodes = r := ⟨_, rfl⟩
  have HR := hidE hres
  rw [hres]
  clear hres hE
  obtain ⟨ns, rs, nn, nr⟩ := g
  simp only at hn hr h60 h61 hz1 hz2 HR ⊢
  obtain ⟨a', c', e1, h1, h2, hp3⟩ := hn
  obtain ⟨rfl, rfl⟩ : na = a' ∧ nc = c' := by injection e1 with e1 _ e2; exact ⟨e1, e2⟩
  obtain ⟨a', c', e2, r1, r2, hq3⟩ := hr
  obtain ⟨rfl, rfl⟩ : ra = a' ∧ rc = c' := by injection e2 with e1 _ e2; exact ⟨e1, e2⟩
  have HP := hidE hp3
  have HQ := hidE hq3
  have HS1 := hidE hz1
  have HS2 := hidE hz2
  obtain ⟨n, hn⟩ : ∃ n, ns.length = n := ⟨_, rfl⟩
  have HN := hidE hn
  obtain ⟨m, hm⟩ : ∃ m, rs.length = m := ⟨_, rfl⟩
  have HM := hidE hm
  rw [hn] at h1 h60
  rw [hm] at r1 h61
  rw [hn, hm]
  clear hp3 hq3 hz1 hz2 hn hm e1 e2
  have hle : n ≤ 9223372036854775807 := by omega
  have hlm : m ≤ 9223372036854775807 := by omega
  go_enter Tryz.func102, Tryz.ntmps102
  go_upto_region 1 with fail
  generalize hW1 : World.alloc _ _ = W1
  have hr1 := rec_new w #[.slice na n nc, .slice ra m rc, .int .i64 nn, .int .i64 nr] 25
  rw [hW1] at hr1
  have HB1 : Hid (Below w.heap.size w W1) := by rw [← hW1]; exact (Below.refl _ _).alloc (Nat.le_refl _) _
  have HR1 := hidE hr1
  have q0 := hr1.cell 0 rfl
  clear hW1 hr1
  have HR2 := HR
  go_wp2_with fail
  clear q0
  go_loopw [8] (fun i wr => ∃ j : Nat, j ≤ n ∧ i = .int .i64 j ∧ Below W1.heap.size W1 wr ∧ labelsB (ns.drop j) = res) (fun i _ => n - (intOf i).toNat)
  case atStart => exact ⟨0, Nat.zero_le _, rfl, Below.refl _ _, HR2.out⟩
  case round =>
    obtain ⟨j, hj, rfl, hbr, hrs⟩ := hrel
    have HBR := hidE hbr
    have HRS := hidE hrs
    have hwz : w.heap.size < wr.heap.size := by
      have := HR1.out.lt
      have := hbr.size
      omega
    have HBW := hidE (below_on HB1.out hbr)
    clear hbr hrs
    by_cases hlt : j < n
    · have hlt' : (j : Int) < n := by omega
      obtain ⟨⟨xi, xl, xp⟩, hx⟩ : ∃ q, ns[j]? = some q := ⟨_, List.getElem?_eq_getElem (by have := HN.out; omega)⟩
      have HX := hidE hx
      obtain ⟨bl, off, rfl, hbl, hc⟩ := HP.out.resolve_left (by intro e; rw [e] at hx; simp at hx)
      obtain ⟨la, lc, pv, ⟨c0, c1, c2⟩, ⟨hl1, hl2⟩, hk, hp⟩ := (hc j _ hx).below (HBW.out.mono hB) hbl
      obtain ⟨hxl, hxp⟩ := HS1.out _ (List.mem_of_getElem? hx)
      simp only at c0 c1 c2 hl1 hl2 hk hp hxl hxp
      have HK1 := hidE (fun W (hb : Below wr.heap.size wr W) => names_any xl B la lc W (by have := hb.size; omega) (HE.out.below (below_on HBW.out hb) HE.out.room) (hk.below (hb.mono (by omega))) hl1 hl2 hxl)
      obtain ⟨pa, pc, rfl, _, _, _⟩ := hp
      obtain ⟨bn, hbn⟩ : ∃ b, nrB ⟨#[]⟩ xl = b := ⟨_, rfl⟩
      rw [hbn] at HK1
      have HE2 : Hid (res = (bn && labelsB (ns.drop (j + 1)))) := by
        show _ = _
        rw [← HRS.out, labelsB_at HX.out]
        simp only
        rw [hbn]
      clear hc hx hbn
      go_upto_region 4 with fail
      generalize hW2 : World.alloc _ _ = W2
      have hr2 := rec_new wr #[.int .i64 xi, .slice la xl.length lc, .slice pa xp.length pc] 73
      rw [hW2] at hr2
      have HB2 : Hid (Below wr.heap.size wr W2) := by rw [← hW2]; exact (Below.refl _ _).alloc (Nat.le_refl _) _
      have k0 := hr2.cell 1 rfl
      clear hW2 hr2 c0 c1 c2 hk hxl hxp hl1 hl2
      go_wp2_with fail
      refine (HK1.out W2 HB2.out).mono ?_
      rintro e w3 ⟨rfl, hb3⟩
      have HB3 := hidE (below_on HBR.out (below_on HB2.out hb3))
      clear hb3 k0
      cases bn with
      | false =>
        have HF : Hid (res = false) := HE2.out
        go_wp2_with fail
        go_ret
        exact ⟨by rw [HF.out]; rfl, below_on HB1.out HB3.out⟩
      | true =>
        have HN2 : Hid (labelsB (ns.drop (j + 1)) = res) := HE2.out.symm
        go_wp2_with fail
        go_roundw
        case rel => exact ⟨j + 1, by omega, by go_num, HB3.out, HN2.out⟩
        case measure => simp [intOf]; omega
    · have HF : Hid (res = true) := by
        show _ = _
        rw [← HRS.out, List.drop_of_length_le (by have := HN.out; omega)]; rfl
      have hlt' : ¬ (j : Int) < n := by omega
      go_wp2_with fail
      go_ret
      exact ⟨by rw [HF.out]; rfl, HBW.out⟩
set_option maxRecDepth 100000 in
set_option maxHeartbeats 4000000 in
theorem types_any (g : GraphP) (B : Nat) (v : Value) (w : World) (hB : B ≤ w.heap.size) (hE : Env w) (hg : GraphLies B w v g) (hz : Mild g) : Calls Tryz.prog 104 #[v] w fun e w' => e = .returned (.bool (typesB g.rels)) ∧ Below w.heap.size w w' := by
  obtain ⟨na, nc, ra, rc, rfl, hn, hr⟩ := hg
  obtain ⟨h60, h61, hz1, hz2⟩ := hz
  have HE := hidE hE
  obtain ⟨res, hres⟩ : ∃ r, typesB g.rels = r := ⟨_, rfl⟩
  have HR := hidE hres
  rw [hres]
  clear hres hE
  obtain ⟨ns, rs, nn, nr⟩ := g
  simp only at hn hr h60 h61 hz1 hz2 HR ⊢
  obtain ⟨a', c', e1, h1, h2, hp3⟩ := hn
  obtain ⟨rfl, rfl⟩ : na = a' ∧ nc = c' := by injection e1 with e1 _ e2; exact ⟨e1, e2⟩
  obtain ⟨a', c', e2, r1, r2, hq3⟩ := hr
  obtain ⟨rfl, rfl⟩ : ra = a' ∧ rc = c' := by injection e2 with e1 _ e2; exact ⟨e1, e2⟩
  have HP := hidE hp3
  have HQ := hidE hq3
  have HS1 := hidE hz1
  have HS2 := hidE hz2
  obtain ⟨n, hn⟩ : ∃ n, ns.length = n := ⟨_, rfl⟩
  have HN := hidE hn
  obtain ⟨m, hm⟩ : ∃ m, rs.length = m := ⟨_, rfl⟩
  have HM := hidE hm
  rw [hn] at h1 h60
  rw [hm] at r1 h61
  rw [hn, hm]
  clear hp3 hq3 hz1 hz2 hn hm e1 e2
  have hle : n ≤ 9223372036854775807 := by omega
  have hlm : m ≤ 9223372036854775807 := by omega
  go_enter Tryz.func104, Tryz.ntmps104
  go_upto_region 1 with fail
  generalize hW1 : World.alloc _ _ = W1
  have hr1 := rec_new w #[.slice na n nc, .slice ra m rc, .int .i64 nn, .int .i64 nr] 25
  rw [hW1] at hr1
  have HB1 : Hid (Below w.heap.size w W1) := by rw [← hW1]; exact (Below.refl _ _).alloc (Nat.le_refl _) _
  have HR1 := hidE hr1
  have q1 := hr1.cell 1 rfl
  clear hW1 hr1
  have HR2 := HR
  go_wp2_with fail
  clear q1
  go_loopw [8] (fun i wr => ∃ j : Nat, j ≤ m ∧ i = .int .i64 j ∧ Below W1.heap.size W1 wr ∧ typesB (rs.drop j) = res) (fun i _ => m - (intOf i).toNat)
  case atStart => exact ⟨0, Nat.zero_le _, rfl, Below.refl _ _, HR2.out⟩
  case round =>
    obtain ⟨j, hj, rfl, hbr, hrs⟩ := hrel
    have HBR := hidE hbr
    have HRS := hidE hrs
    have hwz : w.heap.size < wr.heap.size := by
      have := HR1.out.lt
      have := hbr.size
      omega
    have HBW := hidE (below_on HB1.out hbr)
    clear hbr hrs
    by_cases hlt : j < m
    · have hlt' : (j : Int) < m := by omega
      obtain ⟨⟨xi, fr, tt, ty, xp⟩, hx⟩ : ∃ q, rs[j]? = some q := ⟨_, List.getElem?_eq_getElem (by have := HM.out; omega)⟩
      have HX := hidE hx
      obtain ⟨bl, off, rfl, hbl, hc⟩ := HQ.out.resolve_left (by intro e; rw [e] at hx; simp at hx)
      obtain ⟨pv, ⟨c0, c1, c2, c3, c4⟩, _, hp⟩ := (hc j _ hx).below (HBW.out.mono hB) hbl
      obtain ⟨hxl, hxp⟩ := HS2.out _ (List.mem_of_getElem? hx)
      simp only at c0 c1 c2 c3 c4 hp hxl hxp
      have HK1 := hidE (fun W (hb : Below wr.heap.size wr W) => name_any ty hxl W (HE.out.below (below_on HBW.out hb) HE.out.room))
      obtain ⟨pa, pc, rfl, _, _, _⟩ := hp
      obtain ⟨bn, hbn⟩ : ∃ b, nameOk ty.data.toList = b := ⟨_, rfl⟩
      rw [hbn] at HK1
      have HE2 : Hid (res = (bn && typesB (rs.drop (j + 1)))) := by
        show _ = _
        rw [← HRS.out, typesB_at HX.out]
        simp only
        rw [hbn]
      clear hc hx hbn
      go_upto_region 4 with fail
      generalize hW2 : World.alloc _ _ = W2
      have hr2 := rec_new wr #[.int .i64 xi, .int .i64 fr, .int .i64 tt, .string ty, .slice pa xp.length pc] 71
      rw [hW2] at hr2
      have HB2 : Hid (Below wr.heap.size wr W2) := by rw [← hW2]; exact (Below.refl _ _).alloc (Nat.le_refl _) _
      have k0 := hr2.cell 3 rfl
      clear hW2 hr2 c0 c1 c2 c3 c4 hxl hxp
      go_wp2_with fail
      refine (HK1.out W2 HB2.out).mono ?_
      rintro e w3 ⟨rfl, hb3⟩
      have HB3 := hidE (below_on HBR.out (below_on HB2.out hb3))
      clear hb3 k0
      cases bn with
      | false =>
        have HF : Hid (res = false) := HE2.out
        go_wp2_with fail
        go_ret
        exact ⟨by rw [HF.out]; rfl, below_on HB1.out HB3.out⟩
      | true =>
        have HN2 : Hid (typesB (rs.drop (j + 1)) = res) := HE2.out.symm
        go_wp2_with fail
        go_roundw
        case rel => exact ⟨j + 1, by omega, by go_num, HB3.out, HN2.out⟩
        case measure => simp [intOf]; omega
    · have HF : Hid (res = true) := by
        show _ = _
        rw [← HRS.out, List.drop_of_length_le (by have := HM.out; omega)]; rfl
      have hlt' : ¬ (j : Int) < m := by omega
      go_wp2_with fail
      go_ret
      exact ⟨by rw [HF.out]; rfl, HBW.out⟩
set_option maxRecDepth 100000 in
set_option maxHeartbeats 4000000 in
theorem props_any (g : GraphP) (B : Nat) (v : Value) (w : World) (hB : B ≤ w.heap.size) (hE : Env w) (hg : GraphLies B w v g) (hz : Mild g) : Calls Tryz.prog 103 #[v] w fun e w' => e = .returned (.bool ((nodePropsB g.nodes && relPropsB g.rels))) ∧ Below w.heap.size w w' := by
  obtain ⟨na, nc, ra, rc, rfl, hn, hr⟩ := hg
  obtain ⟨h60, h61, hz1, hz2⟩ := hz
  have HE := hidE hE
  obtain ⟨res, hres⟩ : ∃ r, (nodePropsB g.nodes && relPropsB g.rels) = r := ⟨_, rfl⟩
  have HR := hidE hres
  rw [hres]
  clear hres hE
  obtain ⟨ns, rs, nn, nr⟩ := g
  simp only at hn hr h60 h61 hz1 hz2 HR ⊢
  obtain ⟨a', c', e1, h1, h2, hp3⟩ := hn
  obtain ⟨rfl, rfl⟩ : na = a' ∧ nc = c' := by injection e1 with e1 _ e2; exact ⟨e1, e2⟩
  obtain ⟨a', c', e2, r1, r2, hq3⟩ := hr
  obtain ⟨rfl, rfl⟩ : ra = a' ∧ rc = c' := by injection e2 with e1 _ e2; exact ⟨e1, e2⟩
  have HP := hidE hp3
  have HQ := hidE hq3
  have HS1 := hidE hz1
  have HS2 := hidE hz2
  obtain ⟨n, hn⟩ : ∃ n, ns.length = n := ⟨_, rfl⟩
  have HN := hidE hn
  obtain ⟨m, hm⟩ : ∃ m, rs.length = m := ⟨_, rfl⟩
  have HM := hidE hm
  rw [hn] at h1 h60
  rw [hm] at r1 h61
  rw [hn, hm]
  clear hp3 hq3 hz1 hz2 hn hm e1 e2
  have hle : n ≤ 9223372036854775807 := by omega
  have hlm : m ≤ 9223372036854775807 := by omega
  go_enter Tryz.func103, Tryz.ntmps103
  go_upto_region 1 with fail
  generalize hW1 : World.alloc _ _ = W1
  have hr1 := rec_new w #[.slice na n nc, .slice ra m rc, .int .i64 nn, .int .i64 nr] 25
  rw [hW1] at hr1
  have HB1 : Hid (Below w.heap.size w W1) := by rw [← hW1]; exact (Below.refl _ _).alloc (Nat.le_refl _) _
  have HR1 := hidE hr1
  have q0 := hr1.cell 0 rfl
  clear hW1 hr1
  have HR2 := HR
  go_wp2_with fail
  clear q0
  go_loopw [10] (fun i wr => ∃ j : Nat, j ≤ n ∧ i = .int .i64 j ∧ Below W1.heap.size W1 wr ∧ (nodePropsB (ns.drop j) && relPropsB rs) = res) (fun i _ => n - (intOf i).toNat)
  case atStart => exact ⟨0, Nat.zero_le _, rfl, Below.refl _ _, HR2.out⟩
  case round =>
    obtain ⟨j, hj, rfl, hbr, hrs⟩ := hrel
    have HBR := hidE hbr
    have HRS := hidE hrs
    have hwz : w.heap.size < wr.heap.size := by
      have := HR1.out.lt
      have := hbr.size
      omega
    have HBW := hidE (below_on HB1.out hbr)
    clear hbr hrs
    by_cases hlt : j < n
    · have hlt' : (j : Int) < n := by omega
      obtain ⟨⟨xi, xl, xp⟩, hx⟩ : ∃ q, ns[j]? = some q := ⟨_, List.getElem?_eq_getElem (by have := HN.out; omega)⟩
      have HX := hidE hx
      obtain ⟨bl, off, rfl, hbl, hc⟩ := HP.out.resolve_left (by intro e; rw [e] at hx; simp at hx)
      obtain ⟨la, lc, pv, ⟨c0, c1, c2⟩, ⟨hl1, hl2⟩, hk, hp⟩ := (hc j _ hx).below (HBW.out.mono hB) hbl
      obtain ⟨hxl, hxp⟩ := HS1.out _ (List.mem_of_getElem? hx)
      simp only at c0 c1 c2 hl1 hl2 hk hp hxl hxp
      have HK1 := hidE (fun W (hb : Below wr.heap.size wr W) => mayP_any pv xp B W (by have := hb.size; omega) (HE.out.below (below_on HBW.out hb) HE.out.room) (hp.below (hb.mono (by omega))) hxp)
      obtain ⟨pa, pc, rfl, _, _, _⟩ := hp
      obtain ⟨bn, hbn⟩ : ∃ b, mayPB xp = b := ⟨_, rfl⟩
      rw [hbn] at HK1
      have HE2 : Hid (res = ((bn && nodePropsB (ns.drop (j + 1))) && relPropsB rs)) := by
        show _ = _
        rw [← HRS.out, nodePropsB_at HX.out]
        simp only
        rw [hbn]
      clear hc hx hbn
      go_upto_region 4 with fail
      generalize hW2 : World.alloc _ _ = W2
      have hr2 := rec_new wr #[.int .i64 xi, .slice la xl.length lc, .slice pa xp.length pc] 73
      rw [hW2] at hr2
      have HB2 : Hid (Below wr.heap.size wr W2) := by rw [← hW2]; exact (Below.refl _ _).alloc (Nat.le_refl _) _
      have k0 := hr2.cell 2 rfl
      clear hW2 hr2 c0 c1 c2 hk hxl hxp hl1 hl2
      go_wp2_with fail
      refine (HK1.out W2 HB2.out).mono ?_
      rintro e w3 ⟨rfl, hb3⟩
      have HB3 := hidE (below_on HBR.out (below_on HB2.out hb3))
      clear hb3 k0
      cases bn with
      | false =>
        have HF : Hid (res = false) := HE2.out
        go_wp2_with fail
        go_ret
        exact ⟨by rw [HF.out]; rfl, below_on HB1.out HB3.out⟩
      | true =>
        have HN2 : Hid ((nodePropsB (ns.drop (j + 1)) && relPropsB rs) = res) := HE2.out.symm
        go_wp2_with fail
        go_roundw
        case rel => exact ⟨j + 1, by omega, by go_num, HB3.out, HN2.out⟩
        case measure => simp [intOf]; omega
    · have HR3 : Hid (relPropsB rs = res) := by
        show _ = _
        rw [← HRS.out, List.drop_of_length_le (by have := HN.out; omega)]; rfl
      have hlt' : ¬ (j : Int) < n := by omega
      have HBA := HBR
      have q1 := (HR1.out.below HBR.out HR1.out.lt).cell 1 rfl
      go_wp2_with fail
      clear hlt hlt' HRS hj HBR hwz HBW q1 HR2
      have HR2 := HR3
      clear HR3
      go_loopw [22] (fun i wr => ∃ j : Nat, j ≤ m ∧ i = .int .i64 j ∧ Below W1.heap.size W1 wr ∧ relPropsB (rs.drop j) = res) (fun i _ => m - (intOf i).toNat)
      case atStart => exact ⟨0, Nat.zero_le _, rfl, HBA.out, HR2.out⟩
      case round =>
        obtain ⟨j, hj, rfl, hbr, hrs⟩ := hrel
        have HBR := hidE hbr
        have HRS := hidE hrs
        have hwz : w.heap.size < wr.heap.size := by
          have := HR1.out.lt
          have := hbr.size
          omega
        have HBW := hidE (below_on HB1.out hbr)
        clear hbr hrs
        by_cases hlt : j < m
        · have hlt' : (j : Int) < m := by omega
          obtain ⟨⟨xi, fr, tt, ty, xp⟩, hx⟩ : ∃ q, rs[j]? = some q := ⟨_, List.getElem?_eq_getElem (by have := HM.out; omega)⟩
          have HX := hidE hx
          obtain ⟨bl, off, rfl, hbl, hc⟩ := HQ.out.resolve_left (by intro e; rw [e] at hx; simp at hx)
          obtain ⟨pv, ⟨c0, c1, c2, c3, c4⟩, _, hp⟩ := (hc j _ hx).below (HBW.out.mono hB) hbl
          obtain ⟨hxl, hxp⟩ := HS2.out _ (List.mem_of_getElem? hx)
          simp only at c0 c1 c2 c3 c4 hp hxl hxp
          have HK1 := hidE (fun W (hb : Below wr.heap.size wr W) => mayP_any pv xp B W (by have := hb.size; omega) (HE.out.below (below_on HBW.out hb) HE.out.room) (hp.below (hb.mono (by omega))) hxp)
          obtain ⟨pa, pc, rfl, _, _, _⟩ := hp
          obtain ⟨bn, hbn⟩ : ∃ b, mayPB xp = b := ⟨_, rfl⟩
          rw [hbn] at HK1
          have HE2 : Hid (res = (bn && relPropsB (rs.drop (j + 1)))) := by
            show _ = _
            rw [← HRS.out, relPropsB_at HX.out]
            simp only
            rw [hbn]
          clear hc hx hbn
          go_upto_region 10 with fail
          generalize hW2 : World.alloc _ _ = W2
          have hr2 := rec_new wr #[.int .i64 xi, .int .i64 fr, .int .i64 tt, .string ty, .slice pa xp.length pc] 71
          rw [hW2] at hr2
          have HB2 : Hid (Below wr.heap.size wr W2) := by rw [← hW2]; exact (Below.refl _ _).alloc (Nat.le_refl _) _
          have k0 := hr2.cell 4 rfl
          clear hW2 hr2 c0 c1 c2 c3 c4 hxl hxp
          go_wp2_with fail
          refine (HK1.out W2 HB2.out).mono ?_
          rintro e w3 ⟨rfl, hb3⟩
          have HB3 := hidE (below_on HBR.out (below_on HB2.out hb3))
          clear hb3 k0
          cases bn with
          | false =>
            have HF : Hid (res = false) := HE2.out
            go_wp2_with fail
            go_ret
            exact ⟨by rw [HF.out]; rfl, below_on HB1.out HB3.out⟩
          | true =>
            have HN2 : Hid (relPropsB (rs.drop (j + 1)) = res) := HE2.out.symm
            go_wp2_with fail
            go_roundw
            case rel => exact ⟨j + 1, by omega, by go_num, HB3.out, HN2.out⟩
            case measure => simp [intOf]; omega
        · have HF : Hid (res = true) := by
            show _ = _
            rw [← HRS.out, List.drop_of_length_le (by have := HM.out; omega)]; rfl
          have hlt' : ¬ (j : Int) < m := by omega
          go_wp2_with fail
          go_ret
          exact ⟨by rw [HF.out]; rfl, HBW.out⟩
end Go.Proofs.YthfilnflgahcjaaGreatDoor

namespace Go.Proofs.YthfilnflgahcjaaGreatDoor
open Go.RowKit Go.Shelf Go.Maps
set_option linter.unusedVariables false
set_option linter.unusedSimpArgs false
attribute [local go_sem] Oper.semAt_some
theorem map139 : Tryz.prog.underlying 139 = some (.map 62 2) := by kernel_rfl
theorem map134 : Tryz.prog.underlying 134 = some (.map 42 2) := by kernel_rfl
/-- Texts counted. -/
def tally (ts : List ByteArray) : List ((ByteArray × Int) × Int) := ts.foldl (fun cs t => bump (t, 0) 1 cs) []
theorem tally_snoc (ts : List ByteArray) (t : ByteArray) : tally (ts ++ [t]) = bump (t, 0) 1 (tally ts) := by simp [tally]
theorem tally_nodup (ts : List ByteArray) : ((tally ts).map Prod.fst).Nodup := by
  unfold tally
  suffices h : ∀ (ts : List ByteArray) (cs : List ((ByteArray × Int) × Int)), (cs.map Prod.fst).Nodup → ((ts.foldl (fun cs t => bump (t, 0) 1 cs) cs).map Prod.fst).Nodup from h ts [] List.nodup_nil
  intro ts
  induction ts with
  | nil => intro cs h; exact h
  | cons t r ih => intro cs h; exact ih _ (bump_nodup _ _ _ h)
theorem tally_count (ts : List ByteArray) (x : ByteArray × Int) : 0 ≤ countOf x (tally ts) ∧ countOf x (tally ts) ≤ ts.length := by
  unfold tally
  suffices h : ∀ (ts : List ByteArray) (cs : List ((ByteArray × Int) × Int)) (n : Nat), (0 ≤ countOf x cs ∧ countOf x cs ≤ n) → 0 ≤ countOf x (ts.foldl (fun cs t => bump (t, 0) 1 cs) cs) ∧ countOf x (ts.foldl (fun cs t => bump (t, 0) 1 cs) cs) ≤ (n + ts.length : Nat) by
    have := h ts [] 0 (by simp [countOf])
    simpa using this
  intro ts
  induction ts with
  | nil => intro cs n h; simpa using h
  | cons t r ih =>
    intro cs n h
    have := ih (bump (t, 0) 1 cs) (n + 1) (by rw [count_bump]; split <;> omega)
    simp only [List.foldl_cons, List.length_cons] at *
    omega
theorem tally_len (ts : List ByteArray) : (tally ts).length ≤ ts.length := by
  unfold tally
  suffices h : ∀ (ts : List ByteArray) (cs : List ((ByteArray × Int) × Int)), (ts.foldl (fun cs t => bump (t, 0) 1 cs) cs).length ≤ cs.length + ts.length by
    have := h ts []
    simpa using this
  intro ts
  induction ts with
  | nil => intro cs; simp
  | cons t r ih =>
    intro cs
    have h1 := ih (bump (t, 0) 1 cs)
    have h2 : (bump (t, 0) 1 cs).length ≤ cs.length + 1 := by
      clear h1 ih
      induction cs with
      | nil => simp [bump]
      | cons p q ih => rw [bump]; split <;> simp <;> omega
    simp only [List.foldl_cons, List.length_cons] at *
    omega
set_option maxRecDepth 100000 in
set_option maxHeartbeats 8000000 in
theorem types_cnt {le : ByteArray × Int → ByteArray × Int → Prop} {most : Nat} (hsort : Sorts88 le most) (hmost : most ≤ 900000) (g : GraphP) (v : Value) (B : Nat) (w : World) (hB : B ≤ w.heap.size) (h : GraphLies B w v g) (hl : g.rels.length ≤ 100000) (hm : (tally (g.rels.map fun r => r.type)).length ≤ most) :
    Calls Tryz.prog 44 #[v] w fun e w' => ∃ v L, e = .returned v ∧ L.Perm ((tally (g.rels.map fun r => r.type)).map (fun p : (ByteArray × Int) × Int => (p.1.1, p.2))) ∧ L.Pairwise le ∧ ORow 62 2 labC w.heap.size w' v L ∧ Below w.heap.size w w' := by
  obtain ⟨na, nc, ra, rc, rfl, hn, hr⟩ := h
  obtain ⟨ra', rc', e0, r1, r2, r3⟩ := hr
  obtain ⟨rfl, rfl⟩ : ra = ra' ∧ rc = rc' := by injection e0 with a b c; exact ⟨a, c⟩
  have HR3 := hidE r3
  have HMO := hidE hm
  obtain ⟨m, hm'⟩ : ∃ m, g.rels.length = m := ⟨_, rfl⟩
  have HM := hidE hm'
  rw [hm'] at r1 hl ⊢
  generalize g.nodes.length = l1 at *
  generalize g.nn = nn at *
  generalize g.nr = nr at *
  clear e0 r3 hn hm hm'
  have hmk : ∀ W : World, (Instr.makeMap 139 none).run Tryz.prog W = .ok (.map (some W.heap.size)) (W.alloc (.map #[] 0)) := fun W => rfl
  go_enter Tryz.func44, Tryz.ntmps44
  go_upto_region 2 with fail
  have HM1 : Hid (MC labV okL ((w.alloc (.cells #[.slice na l1 nc, .slice ra m rc, .int .i64 nn, .int .i64 nr] 25)).alloc (.map #[] 0)) (w.alloc (.cells #[.slice na l1 nc, .slice ra m rc, .int .i64 nn, .int .i64 nr] 25)).heap.size []) := mg_none _
  have HB1 : Hid (Below w.heap.size w ((w.alloc (.cells #[.slice na l1 nc, .slice ra m rc, .int .i64 nn, .int .i64 nr] 25)).alloc (.map #[] 0))) := ((Below.refl _ _).alloc (Nat.le_refl _) _).alloc (by simp) _
  have c1 : ((w.alloc (.cells #[.slice na l1 nc, .slice ra m rc, .int .i64 nn, .int .i64 nr] 25)).alloc (.map #[] 0)).cell? ⟨w.heap.size, 1, none⟩ = some (.slice ra m rc) := ((Below.refl _ _).alloc (Nat.le_refl _) _ : Below _ _ (World.alloc _ _)).cell (p := ⟨w.heap.size, 1, none⟩) (show w.heap.size < (w.alloc _).heap.size by simp) |>.trans (cell_new _ _ _ _ _ rfl)
  have hz1 : (w.alloc (.cells #[.slice na l1 nc, .slice ra m rc, .int .i64 nn, .int .i64 nr] 25)).heap.size = w.heap.size + 1 := by simp
  rw [hz1] at HM1
  obtain ⟨W1, hW1⟩ : ∃ W, (w.alloc (.cells #[.slice na l1 nc, .slice ra m rc, .int .i64 nn, .int .i64 nr] 25)).alloc (.map #[] 0) = W := ⟨_, rfl⟩
  rw [hW1] at HM1 HB1 c1 ⊢
  clear hW1 hz1
  go_wp2_with fail
  go_loopw [11] (fun i wr => ∃ j : Nat, j ≤ m ∧ i = .int .i64 j ∧ Below w.heap.size w wr ∧ MC labV okL wr (w.heap.size + 1) (tally ((g.rels.take j).map fun r => r.type))) (fun i _ => m - (intOf i).toNat)
  case atStart => exact ⟨0, Nat.zero_le _, rfl, HB1.out, HM1.out⟩
  case round =>
    obtain ⟨j, hj, rfl, hbr, hmc⟩ := hrel
    have HBR := hidE hbr
    have HMC := hidE hmc
    clear hbr hmc
    by_cases hlt : j < m
    · have hlt' : (j : Int) < m := by omega
      obtain ⟨x, hx⟩ : ∃ q, g.rels[j]? = some q := ⟨_, List.getElem?_eq_getElem (by have := HM.out; omega)⟩
      obtain ⟨bl, off, rfl, hbl, hc⟩ := HR3.out.resolve_left (by intro e; rw [e] at hx; simp at hx)
      obtain ⟨pv, ⟨d0, d1, d2, d3, d4⟩, hts, hps⟩ := (hc j x hx).below (HBR.out.mono hB) hbl
      have HX := hidE hx
      obtain ⟨pa, pc, hpv⟩ : ∃ pa pc, pv = .slice pa x.props.length pc := by obtain ⟨pa, pc, e, _⟩ := hps; exact ⟨pa, pc, e⟩
      subst hpv
      generalize x.props.length = l3 at *
      obtain ⟨s, hs⟩ : ∃ s, x.type = s := ⟨_, rfl⟩
      have HS := hidE hs
      rw [hs] at d3 hts
      generalize x.id = xi at *
      generalize x.fr = xf at *
      generalize x.tt = xt at *
      clear hx hc hps hs
      go_upto_region 5 with fail
      have k3 : (wr.alloc (.cells #[.int .i64 xi, .int .i64 xf, .int .i64 xt, .string s, .slice pa l3 pc] 71)).cell? ⟨wr.heap.size, 3, none⟩ = some (.string s) := cell_new _ _ _ _ _ rfl
      have hbA : Below wr.heap.size wr (wr.alloc (.cells #[.int .i64 xi, .int .i64 xf, .int .i64 xt, .string s, .slice pa l3 pc] 71)) := (Below.refl _ _).alloc (Nat.le_refl _) _
      obtain ⟨W2, hW2⟩ : ∃ W, wr.alloc (.cells #[.int .i64 xi, .int .i64 xf, .int .i64 xt, .string s, .slice pa l3 pc] 71) = W := ⟨_, rfl⟩
      rw [hW2] at k3 hbA ⊢
      have hmc2 : MC labV okL W2.drew (w.heap.size + 1) (tally ((g.rels.take j).map fun r => r.type)) := MG.block HMC.out (hbA.block _ (MG.lt HMC.out))
      obtain ⟨st, w1, w2, q1, q2, q3, q4, q5, q6, q7, q8⟩ := mc_bump typT map139 hmc2 (tally_nodup _) (s, 0) ⟨hts, w64_zero⟩ 1
      obtain ⟨cn, hcn⟩ : ∃ c, countOf ((s, 0) : ByteArray × Int) (tally ((g.rels.take j).map fun r => r.type)) = c := ⟨_, rfl⟩
      have hc1 := tally_count ((g.rels.take j).map fun r => r.type) (s, 0)
      rw [hcn] at q1 q2 q3 q4 hc1
      have hc2 : cn ≤ 100000 := by have h1 := hc1.2; simp only [List.length_map, List.length_take] at h1; omega
      have hc0 := hc1.1
      simp only [labV] at q1 q2 q3 q4
      have HQ := hidE (And.intro q5 (And.intro q6 (And.intro q7 q8)))
      have HA := hidE hbA
      clear hW2 hbA hmc2 q5 q6 q7 q8 hcn hc1 d0 d1 d2 d3 d4
      have hwp : IntKind.i64.wrap (cn + 1) = cn + 1 := by rw [IntKind.wrap_i64]; omega
      have HNEW : Hid (Below w.heap.size w w2 ∧ MC labV okL w2 (w.heap.size + 1) (tally ((g.rels.take (j + 1)).map fun r => r.type))) := by
        obtain ⟨q5, q6, q7, q8⟩ := HQ.out
        refine ⟨((Below.on HBR.out HA.out).drew).trans (q8.mono (Nat.le_succ w.heap.size)), ?_⟩
        rw [List.take_add_one, HX.out, List.map_append]
        show MC labV okL w2 (w.heap.size + 1) (tally (_ ++ [x.type]))
        rw [tally_snoc, HS.out]
        exact q5
      go_region_with fail
      all_goals
        go_wp2_with fail
        go_roundw
        case rel => exact ⟨j + 1, by omega, by go_num, HNEW.out.1, HNEW.out.2⟩
        case measure => simp [intOf]; omega
    · have hlt' : ¬ (j : Int) < m := by omega
      have HL := HMC.out
      rw [List.take_of_length_le (by have := HM.out; omega)] at HL
      have HRW := hidE (rows88_any hsort hmost HL HMO.out)
      clear HL
      go_wp2_with (go_at_call 88; refine HRW.out.mono ?_; rintro e W3 ⟨v3, L, rfl, y1, y2, y3, y4⟩; have HY := hidE (And.intro y1 (And.intro y2 (And.intro y3 y4))); clear y1 y2 y3 y4)
      go_ret
      obtain ⟨y1, y2, y3, y4⟩ := HY.out
      exact ⟨_, L, rfl, y1, y2, y3.base HBR.out.size, Below.on HBR.out y4⟩
end Go.Proofs.YthfilnflgahcjaaGreatDoor

namespace Go.Proofs.YthfilnflgahcjaaGreatDoor
open Go.RowKit Go.Shelf Go.Maps
set_option linter.unusedVariables false
set_option linter.unusedSimpArgs false
attribute [local go_sem] Oper.semAt_some
def labelsOf (ns : List NodeP) : List ByteArray := ns.flatMap fun n => n.labels
theorem labelsOf_at {ns : List NodeP} {j : Nat} {x : NodeP} (h : ns[j]? = some x) : labelsOf (ns.take (j + 1)) = labelsOf (ns.take j) ++ x.labels := by
  unfold labelsOf
  rw [List.take_add_one, h, List.flatMap_append]
  simp
theorem labelsOf_le {ns : List NodeP} {j : Nat} {x : NodeP} (h : ns[j]? = some x) : (labelsOf (ns.take j)).length + x.labels.length ≤ (labelsOf ns).length := by
  have h1 : labelsOf ns = labelsOf (ns.take (j + 1)) ++ labelsOf (ns.drop (j + 1)) := by
    unfold labelsOf
    rw [← List.flatMap_append, List.take_append_drop]
  rw [h1, labelsOf_at h]
  simp only [List.length_append]; omega
set_option maxRecDepth 100000 in
set_option maxHeartbeats 8000000 in
theorem labels_cnt {le : ByteArray × Int → ByteArray × Int → Prop} {most : Nat} (hsort : Sorts84 le most) (hmost : most ≤ 900000) (g : GraphP) (v : Value) (B : Nat) (w : World) (hB : B ≤ w.heap.size) (h : GraphLies B w v g) (hl : g.nodes.length ≤ 100000) (hll : (labelsOf g.nodes).length ≤ 1000000) (hm : (tally (labelsOf g.nodes)).length ≤ most) :
    Calls Tryz.prog 43 #[v] w fun e w' => ∃ v L, e = .returned v ∧ L.Perm ((tally (labelsOf g.nodes)).map (fun p : (ByteArray × Int) × Int => (p.1.1, p.2))) ∧ L.Pairwise le ∧ ORow 42 2 labC w.heap.size w' v L ∧ Below w.heap.size w w' := by
  obtain ⟨na, nc, ra, rc, rfl, hr, hn⟩ := h
  obtain ⟨na', nc', e0, r1, r2, r3⟩ := hr
  obtain ⟨rfl, rfl⟩ : na = na' ∧ nc = nc' := by injection e0 with a b c; exact ⟨a, c⟩
  have HR3 := hidE r3
  have HMO := hidE hm
  have HLL := hidE hll
  obtain ⟨m, hm'⟩ : ∃ m, g.nodes.length = m := ⟨_, rfl⟩
  have HM := hidE hm'
  rw [hm'] at r1 hl ⊢
  generalize g.rels.length = l1 at *
  generalize g.nn = nn at *
  generalize g.nr = nr at *
  clear e0 r3 hn hm hm' hll
  have hmk : ∀ W : World, (Instr.makeMap 134 none).run Tryz.prog W = .ok (.map (some W.heap.size)) (W.alloc (.map #[] 0)) := fun W => rfl
  go_enter Tryz.func43, Tryz.ntmps43
  go_upto_region 2 with fail
  have HM1 : Hid (MC labV okL ((w.alloc (.cells #[.slice na m nc, .slice ra l1 rc, .int .i64 nn, .int .i64 nr] 25)).alloc (.map #[] 0)) (w.alloc (.cells #[.slice na m nc, .slice ra l1 rc, .int .i64 nn, .int .i64 nr] 25)).heap.size []) := mg_none _
  have HB1 : Hid (Below w.heap.size w ((w.alloc (.cells #[.slice na m nc, .slice ra l1 rc, .int .i64 nn, .int .i64 nr] 25)).alloc (.map #[] 0))) := ((Below.refl _ _).alloc (Nat.le_refl _) _).alloc (by simp) _
  have c1 : ((w.alloc (.cells #[.slice na m nc, .slice ra l1 rc, .int .i64 nn, .int .i64 nr] 25)).alloc (.map #[] 0)).cell? ⟨w.heap.size, 0, none⟩ = some (.slice na m nc) := ((Below.refl _ _).alloc (Nat.le_refl _) _ : Below _ _ (World.alloc _ _)).cell (p := ⟨w.heap.size, 0, none⟩) (show w.heap.size < (w.alloc _).heap.size by simp) |>.trans (cell_new _ _ _ _ _ rfl)
  have hz1 : (w.alloc (.cells #[.slice na m nc, .slice ra l1 rc, .int .i64 nn, .int .i64 nr] 25)).heap.size = w.heap.size + 1 := by simp
  rw [hz1] at HM1
  obtain ⟨W1, hW1⟩ : ∃ W, (w.alloc (.cells #[.slice na m nc, .slice ra l1 rc, .int .i64 nn, .int .i64 nr] 25)).alloc (.map #[] 0) = W := ⟨_, rfl⟩
  rw [hW1] at HM1 HB1 c1 ⊢
  clear hW1 hz1
  go_wp2_with fail
  go_loopw [13] (fun i wr => ∃ j : Nat, j ≤ m ∧ i = .int .i64 j ∧ Below w.heap.size w wr ∧ MC labV okL wr (w.heap.size + 1) (tally (labelsOf (g.nodes.take j)))) (fun i _ => m - (intOf i).toNat)
  case atStart => exact ⟨0, Nat.zero_le _, rfl, HB1.out, HM1.out⟩
  case round =>
    obtain ⟨j, hj, rfl, hbr, hmc⟩ := hrel
    have HBR := hidE hbr
    have HMC := hidE hmc
    clear hbr hmc
    by_cases hlt : j < m
    · have hlt' : (j : Int) < m := by omega
      obtain ⟨x, hx⟩ : ∃ q, g.nodes[j]? = some q := ⟨_, List.getElem?_eq_getElem (by have := HM.out; omega)⟩
      obtain ⟨bl, off, rfl, hbl, hc⟩ := HR3.out.resolve_left (by intro e; rw [e] at hx; simp at hx)
      obtain ⟨la, lc, pv, ⟨d0, d1, d2⟩, ⟨s1, s2⟩, hks, hps⟩ := hc j x hx
      replace d0 := ((HBR.out.mono hB).cell (p := ⟨bl, off + j * 3, none⟩) hbl).trans d0
      replace d1 := ((HBR.out.mono hB).cell (p := ⟨bl, off + j * 3 + 1, none⟩) hbl).trans d1
      replace d2 := ((HBR.out.mono hB).cell (p := ⟨bl, off + j * 3 + 2, none⟩) hbl).trans d2
      have HX := hidE hx
      have HLE := hidE (labelsOf_le hx)
      have HAT := hidE (labelsOf_at hx)
      obtain ⟨pa, pc, hpv⟩ : ∃ pa pc, pv = .slice pa x.props.length pc := by obtain ⟨pa, pc, e, _⟩ := hps; exact ⟨pa, pc, e⟩
      subst hpv
      have HKS2 : Hid (∀ W, Below w.heap.size w W → KeysLie B W la x.labels) := fun W hb => hks.below (hb.mono hB)
      generalize x.props.length = l3 at *
      obtain ⟨xl, hxl⟩ : ∃ l, x.labels = l := ⟨_, rfl⟩
      rw [hxl] at d1 s1 HKS2 HLE HAT
      obtain ⟨n, hn⟩ : ∃ n, xl.length = n := ⟨_, rfl⟩
      have HN := hidE hn
      rw [hn] at d1 s1 HLE
      generalize x.id = xi at *
      clear hx hc hps hxl hks hn
      go_upto_region 5 with fail
      have k1 : (wr.alloc (.cells #[.int .i64 xi, .slice la n lc, .slice pa l3 pc] 73)).cell? ⟨wr.heap.size, 1, none⟩ = some (.slice la n lc) := cell_new _ _ _ _ _ rfl
      have hbA : Below wr.heap.size wr (wr.alloc (.cells #[.int .i64 xi, .slice la n lc, .slice pa l3 pc] 73)) := (Below.refl _ _).alloc (Nat.le_refl _) _
      obtain ⟨W2, hW2⟩ : ∃ W, wr.alloc (.cells #[.int .i64 xi, .slice la n lc, .slice pa l3 pc] 73) = W := ⟨_, rfl⟩
      rw [hW2] at k1 hbA ⊢
      have HM2 : Hid (MC labV okL W2 (w.heap.size + 1) (tally (labelsOf (g.nodes.take j)))) := MG.block HMC.out (hbA.block _ (MG.lt HMC.out))
      have HB2 : Hid (Below w.heap.size w W2) := Below.on HBR.out hbA
      obtain ⟨A, hA⟩ : ∃ A, labelsOf (g.nodes.take j) = A := ⟨_, rfl⟩
      rw [hA] at HM2 HLE HAT
      obtain ⟨X, hX⟩ : ∃ X, wr.heap.size = X := ⟨_, rfl⟩
      rw [hX] at k1 ⊢
      clear hW2 hbA hA hX HMC
      go_wp2_with fail
      go_loopw [20] (fun i wr => ∃ k : Nat, k ≤ n ∧ i = .int .i64 k ∧ Below w.heap.size w wr ∧ MC labV okL wr (w.heap.size + 1) (tally (A ++ xl.take k))) (fun i _ => n - (intOf i).toNat)
      case atStart => exact ⟨0, Nat.zero_le _, rfl, HB2.out, by simpa using HM2.out⟩
      case round =>
        obtain ⟨k, hk, rfl, hbr, hmc⟩ := hrel
        have HB3 := hidE hbr
        have HM3 := hidE hmc
        clear hbr hmc
        by_cases hlt2 : k < n
        · have hlt2' : (k : Int) < n := by omega
          obtain ⟨s, hs⟩ : ∃ q, xl[k]? = some q := ⟨_, List.getElem?_eq_getElem (by have := HN.out; omega)⟩
          obtain ⟨b2, o2, rfl, hb2, hc2⟩ := (HKS2.out _ HB3.out).resolve_left (by intro e; rw [e] at hs; simp at hs)
          obtain ⟨cx, hss⟩ := hc2 k (by have := HN.out; omega)
          have hgd : xl.getD k ⟨#[]⟩ = s := by rw [List.getD_eq_getElem?_getD, hs]; rfl
          rw [hgd] at cx hss
          have HSX := hidE hs
          have hmc2 : MC labV okL wr.drew (w.heap.size + 1) (tally (A ++ xl.take k)) := HM3.out
          obtain ⟨st, w1, w2, q1, q2, q3, q4, q5, q6, q7, q8⟩ := mc_bump labT map134 hmc2 (tally_nodup _) (s, 0) ⟨hss, w64_zero⟩ 1
          obtain ⟨cn, hcn⟩ : ∃ c, countOf ((s, 0) : ByteArray × Int) (tally (A ++ xl.take k)) = c := ⟨_, rfl⟩
          have hc1 := tally_count (A ++ xl.take k) (s, 0)
          rw [hcn] at q1 q2 q3 q4 hc1
          have hcb : cn ≤ 1000000 := by
            have h1 := hc1.2
            have h2 := HLE.out
            have h3 := HLL.out
            have h4 := HN.out
            simp only [List.length_append, List.length_take] at h1; omega
          have hc0 := hc1.1
          simp only [labV] at q1 q2 q3 q4
          have HNEW : Hid (Below w.heap.size w w2 ∧ MC labV okL w2 (w.heap.size + 1) (tally (A ++ xl.take (k + 1)))) := by
            refine ⟨(HB3.out.drew).trans (q8.mono (Nat.le_succ w.heap.size)), ?_⟩
            rw [List.take_add_one, hs, ← List.append_assoc]
            show MC labV okL w2 (w.heap.size + 1) (tally (_ ++ [s]))
            rw [tally_snoc]
            exact q5
          have hwp : IntKind.i64.wrap (cn + 1) = cn + 1 := by rw [IntKind.wrap_i64]; omega
          clear hmc2 q5 q6 q7 q8 hcn hc1 hgd hc2 hs
          go_upto_region 8 with fail
          go_region_with fail
          all_goals
            go_wp2_with fail
            go_roundw
            case rel => exact ⟨k + 1, by omega, by go_num, HNEW.out.1, HNEW.out.2⟩
            case measure => simp [intOf]; omega
        · have hlt2' : ¬ (k : Int) < n := by omega
          have HL := HM3.out
          rw [List.take_of_length_le (by have := HN.out; omega), ← HAT.out] at HL
          have HL := hidE HL
          go_wp2_with fail
          go_roundw
          case rel => exact ⟨j + 1, by omega, by go_num, HB3.out, HL.out⟩
          case measure => simp [intOf]; omega
    · have hlt' : ¬ (j : Int) < m := by omega
      have HL := HMC.out
      rw [List.take_of_length_le (by have := HM.out; omega)] at HL
      have HRW := hidE (rows84_any hsort hmost HL HMO.out)
      clear HL
      go_wp2_with (go_at_call 84; refine HRW.out.mono ?_; rintro e W3 ⟨v3, L, rfl, y1, y2, y3, y4⟩; have HY := hidE (And.intro y1 (And.intro y2 (And.intro y3 y4))); clear y1 y2 y3 y4)
      go_ret
      obtain ⟨y1, y2, y3, y4⟩ := HY.out
      exact ⟨_, L, rfl, y1, y2, y3.base HBR.out.size, Below.on HBR.out y4⟩
end Go.Proofs.YthfilnflgahcjaaGreatDoor

