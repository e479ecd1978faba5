/- Where relationships begin and end, counted by nodes; the nodes' labels. Small things of the laws: numbers, how many rows, the chapter's graph. -/
import Derived.Test.YthfilnflgahcjaaGreatDoorJoin19
import Derived.Test.YthfilnflgahcjaaGreatDoorJoin10
import Derived.Test.YthfilnflgahcjaaGreatDoorJoin8
import Derived.Test.YthfilnflgahcjaaGreatDoorJoin5
import Derived.Test.YthfilnflgahcjaaGreatDoorJoin18
namespace Go.Proofs.YthfilnflgahcjaaGreatDoor
open Go.RowKit Go.Shelf Go.Maps
set_option linter.unusedVariables false
set_option linter.unusedSimpArgs false
attribute [local go_sem] Oper.semAt_some
abbrev JointR := Int × ByteArray × Bool
def jntV (x : JointR) : Value := .agg #[.int .i64 x.1, .string x.2.1, .bool x.2.2]
def okJ (x : JointR) : Prop := W64 x.1 ∧ okS x.2.1
theorem jntT : KeyT 183 jntV okJ := ⟨Keyed.of_law law183, fun x hx => key183 _ _ _ hx.1 hx.2, fun x y h => by
  obtain ⟨a, b, c⟩ := x
  obtain ⟨a', b', c'⟩ := y
  have := agg_inj h
  simp at this
  obtain ⟨rfl, rfl, rfl⟩ := this
  rfl⟩
theorem map181 : Tryz.prog.underlying 181 = some (.map 183 2) := by kernel_rfl
theorem map184 : Tryz.prog.underlying 184 = some (.map 2 43) := by kernel_rfl
section
variable {α : Type} [DecidableEq α]
/-- Things counted. -/
def cnt (ts : List α) : List (α × Int) := ts.foldl (fun cs t => bump t 1 cs) []
theorem cnt_snoc (ts : List α) (t : α) : cnt (ts ++ [t]) = bump t 1 (cnt ts) := by simp [cnt]
theorem cnt_nodup (ts : List α) : ((cnt ts).map Prod.fst).Nodup := by
  unfold cnt
  suffices h : ∀ (ts : List α) (cs : List (α × Int)), (cs.map Prod.fst).Nodup → ((ts.foldl (fun cs t => bump t 1 cs) cs).map Prod.fst).Nodup from h ts [] List.nodup_nil
  intro ts
  induction ts with
  | nil => intro cs h; exact h
  | cons t r ih => intro cs h; exact ih _ (bump_nodup _ _ _ h)
theorem cnt_count (ts : List α) (x : α) : 0 ≤ countOf x (cnt ts) ∧ countOf x (cnt ts) ≤ ts.length := by
  unfold cnt
  suffices h : ∀ (ts : List α) (cs : List (α × Int)) (n : Nat), (0 ≤ countOf x cs ∧ countOf x cs ≤ n) → 0 ≤ countOf x (ts.foldl (fun cs t => bump t 1 cs) cs) ∧ countOf x (ts.foldl (fun cs t => bump t 1 cs) cs) ≤ (n + ts.length : Nat) by
    have := h ts [] 0 (by simp [countOf])
    simpa using this
  intro ts
  induction ts with
  | nil => intro cs n h; simpa using h
  | cons t r ih =>
    intro cs n h
    have := ih (bump t 1 cs) (n + 1) (by rw [count_bump]; split <;> omega)
    simp only [List.foldl_cons, List.length_cons] at *
    omega
end
def jointsOf (rs : List RelP) : List JointR := rs.flatMap fun r => [(r.fr, r.type, true), (r.tt, r.type, false)]
theorem jointsOf_at {rs : List RelP} {j : Nat} {x : RelP} (h : rs[j]? = some x) : jointsOf (rs.take (j + 1)) = (jointsOf (rs.take j) ++ [(x.fr, x.type, true)]) ++ [(x.tt, x.type, false)] := by
  unfold jointsOf
  rw [List.take_add_one, h, List.flatMap_append]
  simp
theorem jointsOf_len : ∀ (rs : List RelP), (jointsOf rs).length = 2 * rs.length
  | [] => rfl
  | r :: l => by
    have := jointsOf_len l
    unfold jointsOf at *
    simp only [List.flatMap_cons, List.length_append, List.length_cons, List.length_nil, this]; omega
/-- One more of a joint, whatever order the statement draws: the facts. -/
theorem joint_bump {W : World} {b : Nat} {ks : List JointR} (h : MC jntV okJ W b (cnt ks)) (x : JointR) (hx : okJ x) (hl : ks.length ≤ 1000000) :
    ∃ (st : Nat) (w1 w2 : World) (c : Int), 0 ≤ c ∧ c ≤ 1000000 ∧ IntKind.i64.wrap (c + 1) = c + 1 ∧ (Instr.lookup 181 (.map (some b)) (jntV x) false).run Tryz.prog W.drew = .ok (.int .i64 c) W.drew ∧ (Instr.mapEntry 181 (.map (some b)) (jntV x)).run Tryz.prog W.drew = .ok (.tuple #[.int .i64 c, .int .i64 st]) w1 ∧ (Instr.lookup 181 (.map (some b)) (jntV x) false).run Tryz.prog w1 = .ok (.int .i64 c) w1 ∧ (Instr.entryStore 181 (.map (some b)) (.int .i64 st) (.int .i64 (c + 1))).run Tryz.prog w1 = .ok () w2 ∧ MC jntV okJ w2 b (cnt (ks ++ [x])) ∧ w2.heap.size = W.heap.size ∧ (∀ i, i ≠ b → w2.heap[i]? = W.heap[i]?) ∧ Below b W w2 := by
  obtain ⟨st, w1, w2, q1, q2, q3, q4, q5, q6, q7, q8⟩ := mc_bump jntT map181 (w := W.drew) h (cnt_nodup _) x hx 1
  have hc := cnt_count ks x
  refine ⟨st, w1, w2, _, hc.1, by omega, by rw [IntKind.wrap_i64]; omega, q1, q2, q3, q4, by rw [cnt_snoc]; exact q5, q6, q7, ((Below.refl b W).drew).trans q8⟩
theorem wp_fixed {P : Program} {c : Code} {Q : Exit → Act → World → Prop} {a : Act} {w : World} (w2 : World) (h : ∃ A, c.wp P (Exit.then (fun a W => a = A ∧ W = w2) fun _ _ _ => False) a w ∧ Q .normal A w2) : c.wp P Q a w := by
  obtain ⟨A, h1, h2⟩ := h
  exact Code.wp_mono (fun e a W q => by cases e <;> first | (obtain ⟨e2, e3⟩ := q; subst e2; subst e3; exact h2) | exact q.elim) h1
def LabM (B : Nat) (w0 W : World) (b : Nat) (ns : List NodeP) : Prop := ∃ es, MI W b es ∧ es.map Prod.fst = ns.map NodeP.id ∧ ∀ (j : Nat) x, ns[j]? = some x → ∃ la lc, es[j]? = some (x.id, .slice la x.labels.length lc) ∧ x.labels.length ≤ lc ∧ lc ≤ 9223372036854775807 ∧ KeysLie B w0 la x.labels
theorem LabM.block {B : Nat} {w0 W W' : World} {b : Nat} {ns : List NodeP} (h : LabM B w0 W b ns) (e : W'.heap[b]? = W.heap[b]?) : LabM B w0 W' b ns := by
  obtain ⟨es, h1, h2⟩ := h
  exact ⟨es, h1.block e, h2⟩
theorem LabM.lt {B : Nat} {w0 W : World} {b : Nat} {ns : List NodeP} (h : LabM B w0 W b ns) : b < W.heap.size := by
  obtain ⟨es, h1, h2⟩ := h
  exact h1.lt
theorem labm_add {B : Nat} {w0 W : World} {b j : Nat} {ns : List NodeP} {x : NodeP} {la : Option Addr} {lc : Nat} (h : LabM B w0 W b (ns.take j)) (hx : ns[j]? = some x) (hd : (ns.map NodeP.id).Nodup) (hi : W64 x.id) (h1 : x.labels.length ≤ lc) (h2 : lc ≤ 9223372036854775807) (h3 : KeysLie B w0 la x.labels) :
    ∃ w', (Instr.mapUpdate 184 (.map (some b)) (.int .i64 x.id) (.slice la x.labels.length lc)).run Tryz.prog W = .ok () w' ∧ LabM B w0 w' b (ns.take (j + 1)) ∧ w'.heap.size = W.heap.size ∧ (∀ i, i ≠ b → w'.heap[i]? = W.heap[i]?) ∧ Below b W w' := by
  obtain ⟨es, e1, e2, e3⟩ := h
  have hjl : j < ns.length := (List.getElem?_eq_some_iff.1 hx).1
  have hlen : es.length = j := by
    have := congrArg List.length e2
    simp only [List.length_map, List.length_take] at this; omega
  have hn : ∀ p ∈ es, p.1 ≠ x.id := by
    intro p hp e
    have hp1 : p.1 ∈ es.map Prod.fst := List.mem_map_of_mem hp
    rw [e2] at hp1
    obtain ⟨y, hy, hyi⟩ := List.mem_map.1 hp1
    obtain ⟨k, hk⟩ := List.getElem?_of_mem hy
    rw [List.getElem?_take] at hk
    split at hk
    case isFalse => cases hk
    case isTrue hkj =>
      have a1 : (ns.map NodeP.id)[k]? = some x.id := by rw [List.getElem?_map, hk]; simp [hyi, e]
      have a2 : (ns.map NodeP.id)[j]? = some x.id := by rw [List.getElem?_map, hx]; rfl
      have := (List.getElem?_inj (by simp; omega) hd).1 (a1.trans a2.symm)
      omega
  obtain ⟨w', f1, f2, f3, f4, f5⟩ := mi_new map184 e1 x.id (.slice la x.labels.length lc) hi hn
  refine ⟨w', f1, ⟨_, f2, ?_, ?_⟩, f3, f4, f5⟩
  · rw [List.take_add_one, hx]; simp [e2]
  · intro k y hk
    by_cases hkj : k = j
    · subst hkj
      have : y = x := by
        rw [List.getElem?_take, if_pos (by omega), hx] at hk
        exact (Option.some.inj hk).symm
      subst this
      exact ⟨la, lc, by rw [List.getElem?_append_right (by omega)]; simp [hlen], h1, h2, h3⟩
    · rw [List.getElem?_take] at hk
      split at hk
      case isFalse => cases hk
      case isTrue hk1 =>
        have hk2 : (ns.take j)[k]? = some y := by rw [List.getElem?_take, if_pos (by omega)]; exact hk
        obtain ⟨la', lc', q1, q2⟩ := e3 k y hk2
        exact ⟨la', lc', by rw [List.getElem?_append_left (by omega)]; exact q1, q2⟩
set_option maxRecDepth 100000 in
set_option maxHeartbeats 16000000 in
theorem ends_any (g : GraphP) (v : Value) (B : Nat) (w : World) (hB : B ≤ w.heap.size) (h : GraphLies B w v g) (hl : g.rels.length ≤ 100000) (hln : g.nodes.length ≤ 100000) (hw64 : ∀ r ∈ g.rels, W64 r.fr ∧ W64 r.tt) (hd : (g.nodes.map NodeP.id).Nodup) (hid : ∀ n ∈ g.nodes, W64 n.id) :
    Calls Tryz.prog 90 #[v] w fun e w' => ∃ bj bl mj ml, e = .returned (.func (.func 124) #[] #[.pointer (some ⟨bj, 0, none⟩), .pointer (some ⟨bl, 0, none⟩)]) ∧ Rec w' bj #[.map (some mj)] 181 ∧ Rec w' bl #[.map (some ml)] 184 ∧ w.heap.size ≤ bj ∧ w.heap.size ≤ bl ∧ w.heap.size ≤ mj ∧ w.heap.size ≤ ml ∧ MC jntV okJ w' mj (cnt (jointsOf g.rels)) ∧ LabM B w w' ml g.nodes ∧ Below w.heap.size w w' := by
  obtain ⟨na, nc, ra, rc, rfl, hn, hr⟩ := h
  obtain ⟨ra', rc', e0, r1, r2, r3⟩ := hr
  obtain ⟨rfl, rfl⟩ : ra = ra' ∧ rc = rc' := by injection e0 with a b c; exact ⟨a, c⟩
  obtain ⟨na', nc', e0', n1, n2, n3⟩ := hn
  obtain ⟨rfl, rfl⟩ : na = na' ∧ nc = nc' := by injection e0' with a b c; exact ⟨a, c⟩
  have HR3 := hidE r3
  have HN3 := hidE n3
  have HW64 := hidE hw64
  have HD := hidE hd
  have HID := hidE hid
  obtain ⟨m, hm'⟩ : ∃ m, g.rels.length = m := ⟨_, rfl⟩
  have HM := hidE hm'
  rw [hm'] at r1 hl ⊢
  obtain ⟨l1, hl1⟩ : ∃ m, g.nodes.length = m := ⟨_, rfl⟩
  have HL1 := hidE hl1
  rw [hl1] at hln n1 ⊢
  generalize g.nn = nn at *
  generalize g.nr = nr at *
  clear e0 e0' r3 n3 hm' hl1 hw64 hd hid
  have hmk : ∀ W : World, (Instr.makeMap 181 none).run Tryz.prog W = .ok (.map (some W.heap.size)) (W.alloc (.map #[] 0)) := fun W => rfl
  have hmk2 : ∀ W : World, (Instr.makeMap 184 none).run Tryz.prog W = .ok (.map (some W.heap.size)) (W.alloc (.map #[] 0)) := fun W => rfl
  go_enter Tryz.func90, Tryz.ntmps90
  go_upto_region 2 with fail
  obtain ⟨Wa, hWa⟩ : ∃ W, w.alloc (.cells #[.slice na l1 nc, .slice ra m rc, .int .i64 nn, .int .i64 nr] 25) = W := ⟨_, rfl⟩
  have ra0 : Rec Wa w.heap.size #[.slice na l1 nc, .slice ra m rc, .int .i64 nn, .int .i64 nr] 25 := by rw [← hWa]; exact rec_new _ _ _
  have hza : Wa.heap.size = w.heap.size + 1 := by rw [← hWa]; simp
  have hba : Below w.heap.size w Wa := by rw [← hWa]; exact (Below.refl _ _).alloc (Nat.le_refl _) _
  rw [hWa]
  obtain ⟨Wb, hWb⟩ : ∃ W, Wa.alloc (.map #[] 0) = W := ⟨_, rfl⟩
  have hbb : Below Wa.heap.size Wa Wb := by rw [← hWb]; exact (Below.refl _ _).alloc (Nat.le_refl _) _
  have hmb : MC jntV okJ Wb (w.heap.size + 1) [] := by rw [← hWb, ← hza]; exact mg_none _
  have hzb : Wb.heap.size = w.heap.size + 1 + 1 := by rw [← hWb, ← hza]; simp
  rw [hWb]
  obtain ⟨W1, hW1⟩ : ∃ W, Wb.alloc (.cells #[.map (some (w.heap.size + 1))] 181) = W := ⟨_, rfl⟩
  have hbc : Below Wb.heap.size Wb W1 := by rw [← hW1]; exact (Below.refl _ _).alloc (Nat.le_refl _) _
  have rb1 : Rec W1 (w.heap.size + 1 + 1) #[.map (some (w.heap.size + 1))] 181 := by rw [← hW1, ← hzb]; exact rec_new _ _ _
  have hz1 : W1.heap.size = w.heap.size + 1 + 1 + 1 := by rw [← hW1, ← hzb]; simp
  have ra1 : Rec W1 w.heap.size #[.slice na l1 nc, .slice ra m rc, .int .i64 nn, .int .i64 nr] 25 := (ra0.below hbb (by omega)).below hbc (by omega)
  have HM1 : Hid (MC jntV okJ W1 (w.heap.size + 1) []) := MG.block hmb (hbc.block _ (by omega))
  have HB1 : Hid (Below w.heap.size w W1) := Below.on (Below.on hba hbb) hbc
  rw [hW1]
  have c1 := ra1.cell 1 rfl
  have HR1 : Hid (Rec W1 w.heap.size #[.slice na l1 nc, .slice ra m rc, .int .i64 nn, .int .i64 nr] 25 ∧ Rec W1 (w.heap.size + 1 + 1) #[.map (some (w.heap.size + 1))] 181) := ⟨ra1, rb1⟩
  clear hWa hWb hW1 hza hzb hz1 hba hbb hbc hmb ra0 ra1 rb1
  go_wp2_with fail
  go_loopw [13] (fun i wr => ∃ j : Nat, j ≤ m ∧ i = .int .i64 j ∧ Below w.heap.size w wr ∧ MC jntV okJ wr (w.heap.size + 1) (cnt (jointsOf (g.rels.take j))) ∧ Rec wr w.heap.size #[.slice na l1 nc, .slice ra m rc, .int .i64 nn, .int .i64 nr] 25 ∧ Rec wr (w.heap.size + 1 + 1) #[.map (some (w.heap.size + 1))] 181) (fun i _ => m - (intOf i).toNat)
  case atStart => exact ⟨0, Nat.zero_le _, rfl, HB1.out, HM1.out, HR1.out.1, HR1.out.2⟩
  case round =>
    obtain ⟨j, hj, rfl, hbr, hmc, hra, hrb⟩ := hrel
    by_cases hlt : j < m
    · have hlt' : (j : Int) < m := by omega
      obtain ⟨x, hx⟩ : ∃ q, g.rels[j]? = some q := ⟨_, List.getElem?_eq_getElem (by have := HM.out; omega)⟩
      obtain ⟨bl, off, rfl, hbl, hc⟩ := HR3.out.resolve_left (by intro e; rw [e] at hx; simp at hx)
      obtain ⟨pv, ⟨d0, d1, d2, d3, d4⟩, hts, hps⟩ := hc j x hx
      replace d0 := ((hbr.mono hB).cell (p := ⟨bl, off + j * 5, none⟩) hbl).trans d0
      replace d1 := ((hbr.mono hB).cell (p := ⟨bl, off + j * 5 + 1, none⟩) hbl).trans d1
      replace d2 := ((hbr.mono hB).cell (p := ⟨bl, off + j * 5 + 2, none⟩) hbl).trans d2
      replace d3 := ((hbr.mono hB).cell (p := ⟨bl, off + j * 5 + 3, none⟩) hbl).trans d3
      replace d4 := ((hbr.mono hB).cell (p := ⟨bl, off + j * 5 + 4, none⟩) hbl).trans d4
      obtain ⟨pa, pc, hpv⟩ : ∃ pa pc, pv = .slice pa x.props.length pc := by obtain ⟨pa, pc, e, _⟩ := hps; exact ⟨pa, pc, e⟩
      subst hpv
      obtain ⟨hwf, hwt⟩ := HW64.out x (List.mem_of_getElem? hx)
      have hat := jointsOf_at hx
      have hlj : (jointsOf (g.rels.take j)).length ≤ 200000 := by rw [jointsOf_len]; simp only [List.length_take]; omega
      obtain ⟨W2, hW2⟩ : ∃ W, wr.alloc (.cells #[.int .i64 x.id, .int .i64 x.fr, .int .i64 x.tt, .string x.type, .slice pa x.props.length pc] 71) = W := ⟨_, rfl⟩
      have hbA : Below wr.heap.size wr W2 := by rw [← hW2]; exact (Below.refl _ _).alloc (Nat.le_refl _) _
      have rx : Rec W2 wr.heap.size #[.int .i64 x.id, .int .i64 x.fr, .int .i64 x.tt, .string x.type, .slice pa x.props.length pc] 71 := by rw [← hW2]; exact rec_new _ _ _
      have hm2 : MC jntV okJ W2 (w.heap.size + 1) (cnt (jointsOf (g.rels.take j))) := MG.block hmc (hbA.block _ (MG.lt hmc))
      have hlm := MG.lt hmc
      obtain ⟨st, w1, w2, c, a1, a2, a3, q1, q2, q3, q4, q5, q6, q7, q8⟩ := joint_bump hm2 (x.fr, x.type, true) ⟨hwf, hts⟩ (by omega)
      obtain ⟨st', w3, w4, c', b1, b2, b3, p1, p2, p3, p4, p5, p6, p7, p8⟩ := joint_bump q5 (x.tt, x.type, false) ⟨hwt, hts⟩ (by simp; omega)
      have rb2 : Rec W2 (w.heap.size + 1 + 1) #[.map (some (w.heap.size + 1))] 181 := hrb.below hbA hrb.lt
      have e1 := rb2.cell 0 rfl
      have e2 := rx.cell 1 rfl
      have e3 := rx.cell 3 rfl
      have hne : wr.heap.size ≠ w.heap.size + 1 := by omega
      have rx2 := rx.keep (q7 _ hne)
      have rb3 := rb2.keep (q7 _ (by omega))
      have e4 := rb3.cell 0 rfl
      have e5 := rx2.cell 2 rfl
      have e6 := rx2.cell 3 rfl
      have HNEW : Hid (Below w.heap.size w w4 ∧ MC jntV okJ w4 (w.heap.size + 1) (cnt (jointsOf (g.rels.take (j + 1)))) ∧ Rec w4 w.heap.size #[.slice na l1 nc, .slice (some ⟨bl, off, none⟩) m rc, .int .i64 nn, .int .i64 nr] 25 ∧ Rec w4 (w.heap.size + 1 + 1) #[.map (some (w.heap.size + 1))] 181) := by
        refine ⟨(Below.on hbr hbA).trans ((q8.mono (Nat.le_succ _)).trans (p8.mono (Nat.le_succ _))), by rw [hat]; exact p5, ?_, rb3.keep (p7 _ (by omega))⟩
        exact ((hra.below hbA hra.lt).keep (q7 _ (by omega))).keep (p7 _ (by omega))
      simp only [jntV] at q1 q2 q3 q4 p1 p2 p3 p4
      generalize x.id = xi at *
      generalize x.fr = xf at *
      generalize x.tt = xt at *
      generalize x.type = xy at *
      generalize x.props.length = xl at *
      clear hbr hmc hra hrb hx hc hps hwf hwt hat hlj rx rx2 rb2 rb3 hm2 hbA hlm q5 q6 q7 q8 p5 p6 p7 p8 hne
      go_upto_region 5 with fail
      try rw [hW2]
      clear hW2
      apply wp_fixed w2
      apply Exists.intro
      apply And.intro
      · go_region_with fail
        all_goals exact ⟨rfl, rfl⟩
      · clear q1 q2 q3 q4 e1 e2 e3
        go_upto_region 6 with fail
        apply wp_fixed w4
        apply Exists.intro
        apply And.intro
        · go_region_with fail
          all_goals exact ⟨rfl, rfl⟩
        · clear p1 p2 p3 p4 e4 e5 e6
          go_wp2_with fail
          go_roundw
          case rel => exact ⟨j + 1, by omega, by go_num, HNEW.out.1, HNEW.out.2.1, HNEW.out.2.2.1, HNEW.out.2.2.2⟩
          case measure => simp [intOf]; omega
    · have hlt' : ¬ (j : Int) < m := by omega
      rw [List.take_of_length_le (by have := HM.out; omega)] at hmc
      obtain ⟨X, hX⟩ : ∃ X, wr.heap.size = X := ⟨_, rfl⟩
      obtain ⟨Wa, hWa⟩ : ∃ W, wr.alloc (.map #[] 0) = W := ⟨_, rfl⟩
      have hza : Wa.heap.size = X + 1 := by rw [← hWa, ← hX]; simp
      have hba : Below X wr Wa := by rw [← hWa, ← hX]; exact (Below.refl _ _).alloc (Nat.le_refl _) _
      have hma : MI Wa X [] := by rw [← hWa, ← hX]; exact mi_none _
      obtain ⟨W2, hW2⟩ : ∃ W, Wa.alloc (.cells #[.map (some X)] 184) = W := ⟨_, rfl⟩
      have hbb : Below (X + 1) Wa W2 := by rw [← hW2, ← hza]; exact (Below.refl _ _).alloc (Nat.le_refl _) _
      have hrl : Rec W2 (X + 1) #[.map (some X)] 184 := by rw [← hW2, ← hza]; exact rec_new _ _ _
      have hsX : w.heap.size ≤ X := by rw [← hX]; exact hbr.size
      have HX : Hid (w.heap.size ≤ X) := hsX
      have hsX1 := hra.lt
      have hsX2 := hrb.lt
      have hsX3 := MG.lt hmc
      have HNEW : Hid (Below w.heap.size w W2 ∧ MC jntV okJ W2 (w.heap.size + 1) (cnt (jointsOf g.rels)) ∧ Rec W2 w.heap.size #[.slice na l1 nc, .slice ra m rc, .int .i64 nn, .int .i64 nr] 25 ∧ Rec W2 (w.heap.size + 1 + 1) #[.map (some (w.heap.size + 1))] 181 ∧ LabM B w W2 X (g.nodes.take 0) ∧ Rec W2 (X + 1) #[.map (some X)] 184 ∧ X + 1 < W2.heap.size ∧ w.heap.size + 1 + 1 < X) := by
        refine ⟨Below.on hbr (hX ▸ (hba.trans (hbb.mono (Nat.le_succ _)))), MG.block (MG.block hmc (hba.block _ (by omega))) (hbb.block _ (by omega)), (hra.below hba (by omega)).below hbb (by omega), (hrb.below hba (by omega)).below hbb (by omega), ⟨[], hma.block (hbb.block _ (by omega)), rfl, ?_⟩, hrl, hrl.lt, by omega⟩
        intro j x h
        simp at h
      have c0 := HNEW.out.2.2.1.cell 0 rfl
      clear hbr hmc hra hrb hba hbb hma hrl hsX hsX1 hsX2 hsX3
      go_upto_region 9 with fail
      clear hza hWa hW2 hX hlt'
      go_wp2_with fail
      go_loopw [42] (fun i wr => ∃ k : Nat, k ≤ l1 ∧ i = .int .i64 k ∧ Below w.heap.size w wr ∧ MC jntV okJ wr (w.heap.size + 1) (cnt (jointsOf g.rels)) ∧ Rec wr (w.heap.size + 1 + 1) #[.map (some (w.heap.size + 1))] 181 ∧ LabM B w wr X (g.nodes.take k) ∧ Rec wr (X + 1) #[.map (some X)] 184 ∧ w.heap.size + 1 + 1 < X) (fun i _ => l1 - (intOf i).toNat)
      case atStart =>
        obtain ⟨y1, y2, y3, y4, y5, y6, y7, y8⟩ := HNEW.out
        exact ⟨0, Nat.zero_le _, rfl, y1, y2, y4, y5, y6, y8⟩
      case round =>
        clear c0 HNEW
        obtain ⟨k, hk, rfl, y1, y2, y4, y5, y6, y8⟩ := hrel
        by_cases hlt2 : k < l1
        · have hlt2' : (k : Int) < l1 := by omega
          obtain ⟨x, hx⟩ : ∃ q, g.nodes[k]? = some q := ⟨_, List.getElem?_eq_getElem (by have := HL1.out; omega)⟩
          obtain ⟨bl, off, rfl, hbl, hc⟩ := HN3.out.resolve_left (by intro e; rw [e] at hx; simp at hx)
          obtain ⟨la, lc, pv, ⟨d0, d1, d2⟩, ⟨s1, s2⟩, hks, hps⟩ := hc k x hx
          replace d0 := ((y1.mono hB).cell (p := ⟨bl, off + k * 3, none⟩) hbl).trans d0
          replace d1 := ((y1.mono hB).cell (p := ⟨bl, off + k * 3 + 1, none⟩) hbl).trans d1
          replace d2 := ((y1.mono hB).cell (p := ⟨bl, off + k * 3 + 2, none⟩) hbl).trans d2
          obtain ⟨pa, pc, hpv⟩ : ∃ pa pc, pv = .slice pa x.props.length pc := by obtain ⟨pa, pc, e, _⟩ := hps; exact ⟨pa, pc, e⟩
          subst hpv
          obtain ⟨W3, hW3⟩ : ∃ W, wr.alloc (.cells #[.int .i64 x.id, .slice la x.labels.length lc, .slice pa x.props.length pc] 73) = W := ⟨_, rfl⟩
          have hbA : Below wr.heap.size wr W3 := by rw [← hW3]; exact (Below.refl _ _).alloc (Nat.le_refl _) _
          have rx : Rec W3 wr.heap.size #[.int .i64 x.id, .slice la x.labels.length lc, .slice pa x.props.length pc] 73 := by rw [← hW3]; exact rec_new _ _ _
          obtain ⟨w4, f1, f2, f3, f4, f5⟩ := labm_add (y5.block (hbA.block _ y5.lt)) hx HD.out (HID.out x (List.mem_of_getElem? hx)) s1 s2 hks
          have y6' : Rec W3 (X + 1) #[.map (some X)] 184 := y6.below hbA y6.lt
          have e1 := y6'.cell 0 rfl
          have e2 := rx.cell 0 rfl
          have e3 := rx.cell 1 rfl
          have HNEW : Hid (Below w.heap.size w w4 ∧ MC jntV okJ w4 (w.heap.size + 1) (cnt (jointsOf g.rels)) ∧ Rec w4 (w.heap.size + 1 + 1) #[.map (some (w.heap.size + 1))] 181 ∧ LabM B w w4 X (g.nodes.take (k + 1)) ∧ Rec w4 (X + 1) #[.map (some X)] 184 ∧ w.heap.size + 1 + 1 < X) := by
            refine ⟨(Below.on y1 hbA).trans (f5.mono (by omega)), MG.block (MG.block y2 (hbA.block _ (MG.lt y2))) (f4 _ (by omega)), (y4.below hbA y4.lt).keep (f4 _ (by omega)), f2, y6'.keep (f4 _ (by omega)), y8⟩
          generalize x.id = xi at *
          generalize x.labels.length = xn at *
          generalize x.props.length = xl at *
          clear y1 y2 y4 y5 y6 y8 hx hc hks hps rx f2 f3 f4 f5 y6' hbA
          go_upto_region 12 with fail
          try rw [hW3]
          clear hW3
          go_wp2_with fail
          go_roundw
          case rel =>
            obtain ⟨y1, y2, y4, y5, y6, y8⟩ := HNEW.out
            exact ⟨k + 1, by omega, by go_num, y1, y2, y4, y5, y6, y8⟩
          case measure => simp [intOf]; omega
        · have hlt2' : ¬ (k : Int) < l1 := by omega
          rw [List.take_of_length_le (by have := HL1.out; omega)] at y5
          have HY := hidE (And.intro y1 (And.intro y2 (And.intro y4 (And.intro y5 (And.intro y6 y8)))))
          clear y1 y2 y4 y5 y6 y8
          go_wp2_with fail
          go_ret
          obtain ⟨y1, y2, y4, y5, y6, y8⟩ := HY.out
          refine ⟨w.heap.size + 1 + 1, X + 1, rfl, w.heap.size + 1, y4, X, y6, ?_⟩
          exact ⟨by omega, by omega, by omega, by omega, y2, y5, y1⟩
end Go.Proofs.YthfilnflgahcjaaGreatDoor

namespace Go.Proofs.YthfilnflgahcjaaGreatDoor
open Go.RowKit Go.Shelf
set_option linter.unusedVariables false
set_option linter.unusedSimpArgs false
attribute [local go_sem] Oper.semAt_some
set_option maxRecDepth 100000 in
theorem num_any (n : Int) (w : World) : Calls Tryz.prog 12 #[.int .i64 n] w fun e w' => e = .returned (.int .i64 n) ∧ w' = w := by
  go_enter Tryz.func12, Tryz.ntmps12
  go_wp2_with fail
  go_ret
  exact ⟨rfl, rfl⟩
def fewB (s : StatP) : Bool := decide (s.labels.length + s.types.length + s.ends.length + s.keys.length ≤ 300)
def oneK : List (ByteArray × Tree) := [(⟨#[107]⟩, .mk 2 false 1 ⟨#[]⟩ [] [])]
/-- The chapter's graph. -/
def sampleG : GraphP := ⟨[⟨0, [⟨#[65]⟩, ⟨#[66]⟩], oneK⟩, ⟨1, [⟨#[65]⟩], oneK⟩, ⟨2, [], []⟩], [⟨0, 0, 1, ⟨#[84]⟩, []⟩, ⟨1, 0, 2, ⟨#[84]⟩, []⟩, ⟨2, 1, 1, ⟨#[85]⟩, []⟩], 3, 3⟩
theorem Rec.up {w : World} {b : Nat} {cs : Array Value} {ty : TypeId} (h : Rec w b cs ty) (o : Obj) : Rec (w.alloc o) b cs ty := h.below ((Below.refl _ _).alloc (Nat.le_refl _) _) h.lt
theorem no_props (B : Nat) (w : World) : PropsLie B w (.slice none 0 0) [] := ⟨none, 0, rfl, Nat.le_refl _, by omega, .inl rfl⟩
theorem one_prop {W : World} {b : Nat} (h : Rec W b #[.string ⟨#[107]⟩, .int .i64 2, .bool false, .int .i64 1, .string ⟨#[]⟩, .slice none 0 0, .slice none 0 0] 90) : PropsLie W.heap.size W (.slice (some ⟨b, 0, none⟩) 1 1) oneK := by
  refine ⟨_, _, rfl, Nat.le_refl _, by omega, .inr ⟨b, 0, rfl, h.lt, ?_⟩⟩
  intro i q hq
  rcases i with _ | i
  · simp only [oneK, List.getElem?_cons_zero, Option.some.injEq] at hq
    subst hq
    refine ⟨h.cell 0 rfl, by decide, _, _, _, _, _, _, ⟨h.cell 1 rfl, h.cell 2 rfl, h.cell 3 rfl, h.cell 4 rfl, h.cell 5 rfl, h.cell 6 rfl⟩, ?_⟩
    simp only [Lies]
    exact ⟨none, 0, none, 0, rfl, ⟨by decide, by decide, by decide, by decide, by decide⟩, .inl rfl, .inl (by trivial)⟩
  · simp [oneK] at hq
theorem sample_lies {W : World} {s : Nat} (h1 : Rec W (s + 1) #[.string ⟨#[107]⟩, .int .i64 2, .bool false, .int .i64 1, .string ⟨#[]⟩, .slice none 0 0, .slice none 0 0] 90) (h2 : Rec W (s + 1 + 1) #[.string ⟨#[65]⟩, .string ⟨#[66]⟩] 9) (h3 : Rec W (s + 1 + 1 + 1) #[.string ⟨#[65]⟩] 9) (h4 : Rec W (s + 1 + 1 + 1 + 1) #[.int .i64 0, .slice (some ⟨s + 1 + 1, 0, none⟩) 2 2, .slice (some ⟨s + 1, 0, none⟩) 1 1, .int .i64 1, .slice (some ⟨s + 1 + 1 + 1, 0, none⟩) 1 1, .slice (some ⟨s + 1, 0, none⟩) 1 1, .int .i64 2, .slice none 0 0, .slice none 0 0] 73) (h5 : Rec W (s + 1 + 1 + 1 + 1 + 1) #[.int .i64 0, .int .i64 0, .int .i64 1, .string ⟨#[84]⟩, .slice none 0 0, .int .i64 1, .int .i64 0, .int .i64 2, .string ⟨#[84]⟩, .slice none 0 0, .int .i64 2, .int .i64 1, .int .i64 1, .string ⟨#[85]⟩, .slice none 0 0] 71) : GraphLies W.heap.size W (.agg #[.slice (some ⟨s + 1 + 1 + 1 + 1, 0, none⟩) 3 3, .slice (some ⟨s + 1 + 1 + 1 + 1 + 1, 0, none⟩) 3 3, .int .i64 3, .int .i64 3]) sampleG := by
  refine ⟨_, 3, _, 3, rfl, ⟨_, _, rfl, Nat.le_refl _, by omega, .inr ⟨_, 0, rfl, h4.lt, ?_⟩⟩, ⟨_, _, rfl, Nat.le_refl _, by omega, .inr ⟨_, 0, rfl, h5.lt, ?_⟩⟩⟩
  · intro i x hx
    rcases i with _ | _ | _ | i
    · simp only [sampleG, List.getElem?_cons_zero, Option.some.injEq] at hx
      subst hx
      refine ⟨_, 2, _, ⟨h4.cell 0 rfl, h4.cell 1 rfl, h4.cell 2 rfl⟩, ⟨Nat.le_refl _, by omega⟩, .inr ⟨_, 0, rfl, h2.lt, ?_⟩, one_prop h1⟩
      intro i hi
      match i, hi with
      | 0, _ => exact ⟨h2.cell 0 rfl, by decide⟩
      | 1, _ => exact ⟨h2.cell 1 rfl, by decide⟩
    · simp only [sampleG, List.getElem?_cons_zero, List.getElem?_cons_succ, Option.some.injEq] at hx
      subst hx
      refine ⟨_, 1, _, ⟨h4.cell 3 rfl, h4.cell 4 rfl, h4.cell 5 rfl⟩, ⟨Nat.le_refl _, by omega⟩, .inr ⟨_, 0, rfl, h3.lt, ?_⟩, one_prop h1⟩
      intro i hi
      match i, hi with
      | 0, _ => exact ⟨h3.cell 0 rfl, by decide⟩
    · simp only [sampleG, List.getElem?_cons_zero, List.getElem?_cons_succ, Option.some.injEq] at hx
      subst hx
      exact ⟨_, 0, _, ⟨h4.cell 6 rfl, h4.cell 7 rfl, h4.cell 8 rfl⟩, ⟨Nat.le_refl _, by omega⟩, .inl rfl, no_props _ _⟩
    · simp [sampleG] at hx
  · intro i x hx
    rcases i with _ | _ | _ | i
    · simp only [sampleG, List.getElem?_cons_zero, Option.some.injEq] at hx
      subst hx
      exact ⟨_, ⟨h5.cell 0 rfl, h5.cell 1 rfl, h5.cell 2 rfl, h5.cell 3 rfl, h5.cell 4 rfl⟩, by decide, no_props _ _⟩
    · simp only [sampleG, List.getElem?_cons_zero, List.getElem?_cons_succ, Option.some.injEq] at hx
      subst hx
      exact ⟨_, ⟨h5.cell 5 rfl, h5.cell 6 rfl, h5.cell 7 rfl, h5.cell 8 rfl, h5.cell 9 rfl⟩, by decide, no_props _ _⟩
    · simp only [sampleG, List.getElem?_cons_zero, List.getElem?_cons_succ, Option.some.injEq] at hx
      subst hx
      exact ⟨_, ⟨h5.cell 10 rfl, h5.cell 11 rfl, h5.cell 12 rfl, h5.cell 13 rfl, h5.cell 14 rfl⟩, by decide, no_props _ _⟩
    · simp [sampleG] at hx
theorem sample_world (w : World) (s : Nat) (hs : w.heap.size = s) : ∃ W, ((((((w.alloc (.cells #[.slice (some ⟨s + 1 + 1 + 1 + 1, 0, none⟩) 3 3, .slice (some ⟨s + 1 + 1 + 1 + 1 + 1, 0, none⟩) 3 3, .int .i64 3, .int .i64 3] 25)).alloc (.cells #[.string ⟨#[107]⟩, .int .i64 2, .bool false, .int .i64 1, .string ⟨#[]⟩, .slice none 0 0, .slice none 0 0] 90)).alloc (.cells #[.string ⟨#[65]⟩, .string ⟨#[66]⟩] 9)).alloc (.cells #[.string ⟨#[65]⟩] 9)).alloc (.cells #[.int .i64 0, .slice (some ⟨s + 1 + 1, 0, none⟩) 2 2, .slice (some ⟨s + 1, 0, none⟩) 1 1, .int .i64 1, .slice (some ⟨s + 1 + 1 + 1, 0, none⟩) 1 1, .slice (some ⟨s + 1, 0, none⟩) 1 1, .int .i64 2, .slice none 0 0, .slice none 0 0] 73)).alloc (.cells #[.int .i64 0, .int .i64 0, .int .i64 1, .string ⟨#[84]⟩, .slice none 0 0, .int .i64 1, .int .i64 0, .int .i64 2, .string ⟨#[84]⟩, .slice none 0 0, .int .i64 2, .int .i64 1, .int .i64 1, .string ⟨#[85]⟩, .slice none 0 0] 71)) = W ∧ Rec W s #[.slice (some ⟨s + 1 + 1 + 1 + 1, 0, none⟩) 3 3, .slice (some ⟨s + 1 + 1 + 1 + 1 + 1, 0, none⟩) 3 3, .int .i64 3, .int .i64 3] 25 ∧ GraphLies W.heap.size W (.agg #[.slice (some ⟨s + 1 + 1 + 1 + 1, 0, none⟩) 3 3, .slice (some ⟨s + 1 + 1 + 1 + 1 + 1, 0, none⟩) 3 3, .int .i64 3, .int .i64 3]) sampleG ∧ Below w.heap.size w W := by
  subst hs
  have e : ∀ (W : World) (o : Obj), (W.alloc o).heap.size = W.heap.size + 1 := fun W o => by simp
  refine ⟨_, rfl, ?_, sample_lies (s := w.heap.size) ?_ ?_ ?_ ?_ ?_, ?_⟩
  · exact (((((rec_new w _ _).up _).up _).up _).up _).up _
  · have := ((((rec_new (w.alloc (.cells #[.slice (some ⟨w.heap.size + 1 + 1 + 1 + 1, 0, none⟩) 3 3, .slice (some ⟨w.heap.size + 1 + 1 + 1 + 1 + 1, 0, none⟩) 3 3, .int .i64 3, .int .i64 3] 25)) #[.string ⟨#[107]⟩, .int .i64 2, .bool false, .int .i64 1, .string ⟨#[]⟩, .slice none 0 0, .slice none 0 0] 90).up (.cells #[.string ⟨#[65]⟩, .string ⟨#[66]⟩] 9)).up (.cells #[.string ⟨#[65]⟩] 9)).up (.cells #[.int .i64 0, .slice (some ⟨w.heap.size + 1 + 1, 0, none⟩) 2 2, .slice (some ⟨w.heap.size + 1, 0, none⟩) 1 1, .int .i64 1, .slice (some ⟨w.heap.size + 1 + 1 + 1, 0, none⟩) 1 1, .slice (some ⟨w.heap.size + 1, 0, none⟩) 1 1, .int .i64 2, .slice none 0 0, .slice none 0 0] 73)).up (.cells #[.int .i64 0, .int .i64 0, .int .i64 1, .string ⟨#[84]⟩, .slice none 0 0, .int .i64 1, .int .i64 0, .int .i64 2, .string ⟨#[84]⟩, .slice none 0 0, .int .i64 2, .int .i64 1, .int .i64 1, .string ⟨#[85]⟩, .slice none 0 0] 71)
    simp only [e] at this
    exact this
  · have := (((rec_new ((w.alloc (.cells #[.slice (some ⟨w.heap.size + 1 + 1 + 1 + 1, 0, none⟩) 3 3, .slice (some ⟨w.heap.size + 1 + 1 + 1 + 1 + 1, 0, none⟩) 3 3, .int .i64 3, .int .i64 3] 25)).alloc (.cells #[.string ⟨#[107]⟩, .int .i64 2, .bool false, .int .i64 1, .string ⟨#[]⟩, .slice none 0 0, .slice none 0 0] 90)) #[.string ⟨#[65]⟩, .string ⟨#[66]⟩] 9).up (.cells #[.string ⟨#[65]⟩] 9)).up (.cells #[.int .i64 0, .slice (some ⟨w.heap.size + 1 + 1, 0, none⟩) 2 2, .slice (some ⟨w.heap.size + 1, 0, none⟩) 1 1, .int .i64 1, .slice (some ⟨w.heap.size + 1 + 1 + 1, 0, none⟩) 1 1, .slice (some ⟨w.heap.size + 1, 0, none⟩) 1 1, .int .i64 2, .slice none 0 0, .slice none 0 0] 73)).up (.cells #[.int .i64 0, .int .i64 0, .int .i64 1, .string ⟨#[84]⟩, .slice none 0 0, .int .i64 1, .int .i64 0, .int .i64 2, .string ⟨#[84]⟩, .slice none 0 0, .int .i64 2, .int .i64 1, .int .i64 1, .string ⟨#[85]⟩, .slice none 0 0] 71)
    simp only [e] at this
    exact this
  · have := ((rec_new (((w.alloc (.cells #[.slice (some ⟨w.heap.size + 1 + 1 + 1 + 1, 0, none⟩) 3 3, .slice (some ⟨w.heap.size + 1 + 1 + 1 + 1 + 1, 0, none⟩) 3 3, .int .i64 3, .int .i64 3] 25)).alloc (.cells #[.string ⟨#[107]⟩, .int .i64 2, .bool false, .int .i64 1, .string ⟨#[]⟩, .slice none 0 0, .slice none 0 0] 90)).alloc (.cells #[.string ⟨#[65]⟩, .string ⟨#[66]⟩] 9)) #[.string ⟨#[65]⟩] 9).up (.cells #[.int .i64 0, .slice (some ⟨w.heap.size + 1 + 1, 0, none⟩) 2 2, .slice (some ⟨w.heap.size + 1, 0, none⟩) 1 1, .int .i64 1, .slice (some ⟨w.heap.size + 1 + 1 + 1, 0, none⟩) 1 1, .slice (some ⟨w.heap.size + 1, 0, none⟩) 1 1, .int .i64 2, .slice none 0 0, .slice none 0 0] 73)).up (.cells #[.int .i64 0, .int .i64 0, .int .i64 1, .string ⟨#[84]⟩, .slice none 0 0, .int .i64 1, .int .i64 0, .int .i64 2, .string ⟨#[84]⟩, .slice none 0 0, .int .i64 2, .int .i64 1, .int .i64 1, .string ⟨#[85]⟩, .slice none 0 0] 71)
    simp only [e] at this
    exact this
  · have := (rec_new ((((w.alloc (.cells #[.slice (some ⟨w.heap.size + 1 + 1 + 1 + 1, 0, none⟩) 3 3, .slice (some ⟨w.heap.size + 1 + 1 + 1 + 1 + 1, 0, none⟩) 3 3, .int .i64 3, .int .i64 3] 25)).alloc (.cells #[.string ⟨#[107]⟩, .int .i64 2, .bool false, .int .i64 1, .string ⟨#[]⟩, .slice none 0 0, .slice none 0 0] 90)).alloc (.cells #[.string ⟨#[65]⟩, .string ⟨#[66]⟩] 9)).alloc (.cells #[.string ⟨#[65]⟩] 9)) #[.int .i64 0, .slice (some ⟨w.heap.size + 1 + 1, 0, none⟩) 2 2, .slice (some ⟨w.heap.size + 1, 0, none⟩) 1 1, .int .i64 1, .slice (some ⟨w.heap.size + 1 + 1 + 1, 0, none⟩) 1 1, .slice (some ⟨w.heap.size + 1, 0, none⟩) 1 1, .int .i64 2, .slice none 0 0, .slice none 0 0] 73).up (.cells #[.int .i64 0, .int .i64 0, .int .i64 1, .string ⟨#[84]⟩, .slice none 0 0, .int .i64 1, .int .i64 0, .int .i64 2, .string ⟨#[84]⟩, .slice none 0 0, .int .i64 2, .int .i64 1, .int .i64 1, .string ⟨#[85]⟩, .slice none 0 0] 71)
    simp only [e] at this
    exact this
  · have := rec_new (((((w.alloc (.cells #[.slice (some ⟨w.heap.size + 1 + 1 + 1 + 1, 0, none⟩) 3 3, .slice (some ⟨w.heap.size + 1 + 1 + 1 + 1 + 1, 0, none⟩) 3 3, .int .i64 3, .int .i64 3] 25)).alloc (.cells #[.string ⟨#[107]⟩, .int .i64 2, .bool false, .int .i64 1, .string ⟨#[]⟩, .slice none 0 0, .slice none 0 0] 90)).alloc (.cells #[.string ⟨#[65]⟩, .string ⟨#[66]⟩] 9)).alloc (.cells #[.string ⟨#[65]⟩] 9)).alloc (.cells #[.int .i64 0, .slice (some ⟨w.heap.size + 1 + 1, 0, none⟩) 2 2, .slice (some ⟨w.heap.size + 1, 0, none⟩) 1 1, .int .i64 1, .slice (some ⟨w.heap.size + 1 + 1 + 1, 0, none⟩) 1 1, .slice (some ⟨w.heap.size + 1, 0, none⟩) 1 1, .int .i64 2, .slice none 0 0, .slice none 0 0] 73)) #[.int .i64 0, .int .i64 0, .int .i64 1, .string ⟨#[84]⟩, .slice none 0 0, .int .i64 1, .int .i64 0, .int .i64 2, .string ⟨#[84]⟩, .slice none 0 0, .int .i64 2, .int .i64 1, .int .i64 1, .string ⟨#[85]⟩, .slice none 0 0] 71
    simp only [e] at this
    exact this
  · refine ((((((Below.refl _ w).alloc (Nat.le_refl _) _).alloc ?_ _).alloc ?_ _).alloc ?_ _).alloc ?_ _).alloc ?_ _ <;> simp only [e] <;> omega
set_option maxRecDepth 100000 in
set_option maxHeartbeats 8000000 in
theorem sample_any (w : World) : Calls Tryz.prog 42 #[] w fun e w' => ∃ v, e = .returned v ∧ GraphLies w'.heap.size w' v sampleG ∧ Below w.heap.size w w' := by
  obtain ⟨s, hs⟩ : ∃ s, w.heap.size = s := ⟨_, rfl⟩
  have HS := hidE (sample_world w s hs)
  have HSS := hidE hs
  clear hs
  go_enter Tryz.func42, Tryz.ntmps42
  go_wp2_with fail
  obtain ⟨W, hW, hr, hg, hb⟩ := HS.out
  rw [HSS.out, hW]
  have c0 := hr.cell 0 rfl
  have c1 := hr.cell 1 rfl
  have c2 := hr.cell 2 rfl
  have c3 := hr.cell 3 rfl
  refine bodyPost_ret (v := .agg #[.slice (some ⟨s + 1 + 1 + 1 + 1, 0, none⟩) 3 3, .slice (some ⟨s + 1 + 1 + 1 + 1 + 1, 0, none⟩) 3 3, .int .i64 3, .int .i64 3]) ?_ rfl ⟨_, rfl, hg, HSS.out ▸ hb⟩
  simp [results, Tryz.results42, go_sem, c0, c1, c2, c3]
end Go.Proofs.YthfilnflgahcjaaGreatDoor

