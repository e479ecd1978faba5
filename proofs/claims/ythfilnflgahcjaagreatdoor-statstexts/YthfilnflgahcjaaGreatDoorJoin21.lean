/- A graph's labels, counted. Maps by numbers: what they hold, and what is done to them. -/
import Derived.Test.YthfilnflgahcjaaGreatDoorJoin17
import Derived.Test.YthfilnflgahcjaaGreatDoorJoin20
import Derived.Test.YthfilnflgahcjaaGreatDoorJoin1
import Derived.Maps.Keyed
import Derived.MapKept
namespace Go.Proofs.YthfilnflgahcjaaGreatDoor
open Go.RowKit Go.Shelf Go.Maps
set_option linter.unusedVariables false
set_option linter.unusedSimpArgs false
attribute [local go_sem] Oper.semAt_some
def labelsOf (ns : List NodeP) : List ByteArray := ns.flatMap fun n => n.labels
theorem labelsOf_at {ns : List NodeP} {j : Nat} {x : NodeP} (h : ns[j]? = some x) : labelsOf (ns.take (j + 1)) = labelsOf (ns.take j) ++ x.labels := by
  unfold labelsOf
  rw [List.take_add_one, h, List.flatMap_append]
  simp
theorem labelsOf_le {ns : List NodeP} {j : Nat} {x : NodeP} (h : ns[j]? = some x) : (labelsOf (ns.take j)).length + x.labels.length ≤ (labelsOf ns).length := by
  have h1 : labelsOf ns = labelsOf (ns.take (j + 1)) ++ labelsOf (ns.drop (j + 1)) := by
    unfold labelsOf
    rw [← List.flatMap_append, List.take_append_drop]
  rw [h1, labelsOf_at h]
  simp only [List.length_append]; omega
set_option maxRecDepth 100000 in
set_option maxHeartbeats 8000000 in
theorem labels_cnt {le : ByteArray × Int → ByteArray × Int → Prop} {most : Nat} (hsort : Sorts84 le most) (hmost : most ≤ 100000) (g : GraphP) (v : Value) (B : Nat) (w : World) (hB : B ≤ w.heap.size) (h : GraphLies B w v g) (hl : g.nodes.length ≤ 100000) (hll : (labelsOf g.nodes).length ≤ 1000000) (hm : (tally (labelsOf g.nodes)).length ≤ most) :
    Calls Tryz.prog 43 #[v] w fun e w' => ∃ v L, e = .returned v ∧ L.Perm ((tally (labelsOf g.nodes)).map (fun p : (ByteArray × Int) × Int => (p.1.1, p.2))) ∧ L.Pairwise le ∧ ORow 42 2 labC w.heap.size w' v L ∧ Below w.heap.size w w' := by
  obtain ⟨na, nc, ra, rc, rfl, hr, hn⟩ := h
  obtain ⟨na', nc', e0, r1, r2, r3⟩ := hr
  obtain ⟨rfl, rfl⟩ : na = na' ∧ nc = nc' := by injection e0 with a b c; exact ⟨a, c⟩
  have HR3 := hidE r3
  have HMO := hidE hm
  have HLL := hidE hll
  obtain ⟨m, hm'⟩ : ∃ m, g.nodes.length = m := ⟨_, rfl⟩
  have HM := hidE hm'
  rw [hm'] at r1 hl ⊢
  generalize g.rels.length = l1 at *
  generalize g.nn = nn at *
  generalize g.nr = nr at *
  clear e0 r3 hn hm hm' hll
  have hmk : ∀ W : World, (Instr.makeMap 134 none).run Tryz.prog W = .ok (.map (some W.heap.size)) (W.alloc (.map #[] 0)) := fun W => rfl
  go_enter Tryz.func43, Tryz.ntmps43
  go_upto_region 2 with fail
  have HM1 : Hid (MC labV okL ((w.alloc (.cells #[.slice na m nc, .slice ra l1 rc, .int .i64 nn, .int .i64 nr] 25)).alloc (.map #[] 0)) (w.alloc (.cells #[.slice na m nc, .slice ra l1 rc, .int .i64 nn, .int .i64 nr] 25)).heap.size []) := mg_none _
  have HB1 : Hid (Below w.heap.size w ((w.alloc (.cells #[.slice na m nc, .slice ra l1 rc, .int .i64 nn, .int .i64 nr] 25)).alloc (.map #[] 0))) := ((Below.refl _ _).alloc (Nat.le_refl _) _).alloc (by simp) _
  have c1 : ((w.alloc (.cells #[.slice na m nc, .slice ra l1 rc, .int .i64 nn, .int .i64 nr] 25)).alloc (.map #[] 0)).cell? ⟨w.heap.size, 0, none⟩ = some (.slice na m nc) := ((Below.refl _ _).alloc (Nat.le_refl _) _ : Below _ _ (World.alloc _ _)).cell (p := ⟨w.heap.size, 0, none⟩) (show w.heap.size < (w.alloc _).heap.size by simp) |>.trans (cell_new _ _ _ _ _ rfl)
  have hz1 : (w.alloc (.cells #[.slice na m nc, .slice ra l1 rc, .int .i64 nn, .int .i64 nr] 25)).heap.size = w.heap.size + 1 := by simp
  rw [hz1] at HM1
  obtain ⟨W1, hW1⟩ : ∃ W, (w.alloc (.cells #[.slice na m nc, .slice ra l1 rc, .int .i64 nn, .int .i64 nr] 25)).alloc (.map #[] 0) = W := ⟨_, rfl⟩
  rw [hW1] at HM1 HB1 c1 ⊢
  clear hW1 hz1
  go_wp2_with fail
  go_loopw [13] (fun i wr => ∃ j : Nat, j ≤ m ∧ i = .int .i64 j ∧ Below w.heap.size w wr ∧ MC labV okL wr (w.heap.size + 1) (tally (labelsOf (g.nodes.take j)))) (fun i _ => m - (intOf i).toNat)
  case atStart => exact ⟨0, Nat.zero_le _, rfl, HB1.out, HM1.out⟩
  case round =>
    obtain ⟨j, hj, rfl, hbr, hmc⟩ := hrel
    have HBR := hidE hbr
    have HMC := hidE hmc
    clear hbr hmc
    by_cases hlt : j < m
    · have hlt' : (j : Int) < m := by omega
      obtain ⟨x, hx⟩ : ∃ q, g.nodes[j]? = some q := ⟨_, List.getElem?_eq_getElem (by have := HM.out; omega)⟩
      obtain ⟨bl, off, rfl, hbl, hc⟩ := HR3.out.resolve_left (by intro e; rw [e] at hx; simp at hx)
      obtain ⟨la, lc, pv, ⟨d0, d1, d2⟩, ⟨s1, s2⟩, hks, hps⟩ := hc j x hx
      replace d0 := ((HBR.out.mono hB).cell (p := ⟨bl, off + j * 3, none⟩) hbl).trans d0
      replace d1 := ((HBR.out.mono hB).cell (p := ⟨bl, off + j * 3 + 1, none⟩) hbl).trans d1
      replace d2 := ((HBR.out.mono hB).cell (p := ⟨bl, off + j * 3 + 2, none⟩) hbl).trans d2
      have HX := hidE hx
      have HLE := hidE (labelsOf_le hx)
      have HAT := hidE (labelsOf_at hx)
      obtain ⟨pa, pc, hpv⟩ : ∃ pa pc, pv = .slice pa x.props.length pc := by obtain ⟨pa, pc, e, _⟩ := hps; exact ⟨pa, pc, e⟩
      subst hpv
      have HKS2 : Hid (∀ W, Below w.heap.size w W → KeysLie B W la x.labels) := fun W hb => hks.below (hb.mono hB)
      generalize x.props.length = l3 at *
      obtain ⟨xl, hxl⟩ : ∃ l, x.labels = l := ⟨_, rfl⟩
      rw [hxl] at d1 s1 HKS2 HLE HAT
      obtain ⟨n, hn⟩ : ∃ n, xl.length = n := ⟨_, rfl⟩
      have HN := hidE hn
      rw [hn] at d1 s1 HLE
      generalize x.id = xi at *
      clear hx hc hps hxl hks hn
      go_upto_region 5 with fail
      have k1 : (wr.alloc (.cells #[.int .i64 xi, .slice la n lc, .slice pa l3 pc] 73)).cell? ⟨wr.heap.size, 1, none⟩ = some (.slice la n lc) := cell_new _ _ _ _ _ rfl
      have hbA : Below wr.heap.size wr (wr.alloc (.cells #[.int .i64 xi, .slice la n lc, .slice pa l3 pc] 73)) := (Below.refl _ _).alloc (Nat.le_refl _) _
      obtain ⟨W2, hW2⟩ : ∃ W, wr.alloc (.cells #[.int .i64 xi, .slice la n lc, .slice pa l3 pc] 73) = W := ⟨_, rfl⟩
      rw [hW2] at k1 hbA ⊢
      have HM2 : Hid (MC labV okL W2 (w.heap.size + 1) (tally (labelsOf (g.nodes.take j)))) := MG.block HMC.out (hbA.block _ (MG.lt HMC.out))
      have HB2 : Hid (Below w.heap.size w W2) := Below.on HBR.out hbA
      obtain ⟨A, hA⟩ : ∃ A, labelsOf (g.nodes.take j) = A := ⟨_, rfl⟩
      rw [hA] at HM2 HLE HAT
      obtain ⟨X, hX⟩ : ∃ X, wr.heap.size = X := ⟨_, rfl⟩
      rw [hX] at k1 ⊢
      clear hW2 hbA hA hX HMC
      go_wp2_with fail
      go_loopw [20] (fun i wr => ∃ k : Nat, k ≤ n ∧ i = .int .i64 k ∧ Below w.heap.size w wr ∧ MC labV okL wr (w.heap.size + 1) (tally (A ++ xl.take k))) (fun i _ => n - (intOf i).toNat)
      case atStart => exact ⟨0, Nat.zero_le _, rfl, HB2.out, by simpa using HM2.out⟩
      case round =>
        obtain ⟨k, hk, rfl, hbr, hmc⟩ := hrel
        have HB3 := hidE hbr
        have HM3 := hidE hmc
        clear hbr hmc
        by_cases hlt2 : k < n
        · have hlt2' : (k : Int) < n := by omega
          obtain ⟨s, hs⟩ : ∃ q, xl[k]? = some q := ⟨_, List.getElem?_eq_getElem (by have := HN.out; omega)⟩
          obtain ⟨b2, o2, rfl, hb2, hc2⟩ := (HKS2.out _ HB3.out).resolve_left (by intro e; rw [e] at hs; simp at hs)
          obtain ⟨cx, hss⟩ := hc2 k (by have := HN.out; omega)
          have hgd : xl.getD k ⟨#[]⟩ = s := by rw [List.getD_eq_getElem?_getD, hs]; rfl
          rw [hgd] at cx hss
          have HSX := hidE hs
          have hmc2 : MC labV okL wr.drew (w.heap.size + 1) (tally (A ++ xl.take k)) := HM3.out
          obtain ⟨st, w1, w2, q1, q2, q3, q4, q5, q6, q7, q8⟩ := mc_bump labT map134 hmc2 (tally_nodup _) (s, 0) ⟨hss, w64_zero⟩ 1
          obtain ⟨cn, hcn⟩ : ∃ c, countOf ((s, 0) : ByteArray × Int) (tally (A ++ xl.take k)) = c := ⟨_, rfl⟩
          have hc1 := tally_count (A ++ xl.take k) (s, 0)
          rw [hcn] at q1 q2 q3 q4 hc1
          have hcb : cn ≤ 1000000 := by
            have h1 := hc1.2
            have h2 := HLE.out
            have h3 := HLL.out
            have h4 := HN.out
            simp only [List.length_append, List.length_take] at h1; omega
          have hc0 := hc1.1
          simp only [labV] at q1 q2 q3 q4
          have HNEW : Hid (Below w.heap.size w w2 ∧ MC labV okL w2 (w.heap.size + 1) (tally (A ++ xl.take (k + 1)))) := by
            refine ⟨(HB3.out.drew).trans (q8.mono (Nat.le_succ w.heap.size)), ?_⟩
            rw [List.take_add_one, hs, ← List.append_assoc]
            show MC labV okL w2 (w.heap.size + 1) (tally (_ ++ [s]))
            rw [tally_snoc]
            exact q5
          have hwp : IntKind.i64.wrap (cn + 1) = cn + 1 := by rw [IntKind.wrap_i64]; omega
          clear hmc2 q5 q6 q7 q8 hcn hc1 hgd hc2 hs
          go_upto_region 8 with fail
          go_region_with fail
          all_goals
            go_wp2_with fail
            go_roundw
            case rel => exact ⟨k + 1, by omega, by go_num, HNEW.out.1, HNEW.out.2⟩
            case measure => simp [intOf]; omega
        · have hlt2' : ¬ (k : Int) < n := by omega
          have HL := HM3.out
          rw [List.take_of_length_le (by have := HN.out; omega), ← HAT.out] at HL
          have HL := hidE HL
          go_wp2_with fail
          go_roundw
          case rel => exact ⟨j + 1, by omega, by go_num, HB3.out, HL.out⟩
          case measure => simp [intOf]; omega
    · have hlt' : ¬ (j : Int) < m := by omega
      have HL := HMC.out
      rw [List.take_of_length_le (by have := HM.out; omega)] at HL
      have HRW := hidE (rows84_any hsort hmost HL HMO.out)
      clear HL
      go_wp2_with (go_at_call 84; refine HRW.out.mono ?_; rintro e W3 ⟨v3, L, rfl, y1, y2, y3, y4⟩; have HY := hidE (And.intro y1 (And.intro y2 (And.intro y3 y4))); clear y1 y2 y3 y4)
      go_ret
      obtain ⟨y1, y2, y3, y4⟩ := HY.out
      exact ⟨_, L, rfl, y1, y2, y3.base HBR.out.size, Below.on HBR.out y4⟩
end Go.Proofs.YthfilnflgahcjaaGreatDoor

namespace Go.Proofs.YthfilnflgahcjaaGreatDoor
open Go.RowKit Go.Shelf Go.Maps
set_option linter.unusedVariables false
set_option linter.unusedSimpArgs false
/-- A number of 64 bits. -/
def I64 (k : Int) : Prop := (Lit.int .i64 k).wf = true
/-- The map at b holds just these, by their numbers. -/
def MI (w : World) (b : Nat) (es : List (Int × Value)) : Prop := ∃ ar clock, w.heap[b]? = some (.map ar clock) ∧ ar.toList.map (fun e => (e.key, e.val)) = es.map (fun p => (Value.int .i64 p.1, p.2)) ∧ (∀ p ∈ es, I64 p.1) ∧ MapKept.Stamped ar clock
theorem MI.block {w w' : World} {b : Nat} {es : List (Int × Value)} (h : MI w b es) (hb : w'.heap[b]? = w.heap[b]?) : MI w' b es := by
  obtain ⟨ar, c, h1, h2⟩ := h
  exact ⟨ar, c, hb.trans h1, h2⟩
theorem MI.lt {w : World} {b : Nat} {es : List (Int × Value)} (h : MI w b es) : b < w.heap.size := by
  obtain ⟨ar, c, h1, _⟩ := h
  exact (Array.getElem?_eq_some_iff.1 h1).1
theorem MI.below {B : Nat} {w w' : World} {b : Nat} {es : List (Int × Value)} (h : MI w b es) (hb : Below B w w') (hB : w.heap.size ≤ B) : MI w' b es := h.block (hb.block b (Nat.lt_of_lt_of_le h.lt hB))
theorem mi_none (w : World) : MI (w.alloc (.map #[] 0)) w.heap.size [] := ⟨#[], 0, World.alloc_heap_new _ _, rfl, by simp, MapKept.stamped_empty _⟩
theorem mi_keys {ar : Array MapEntry} {es : List (Int × Value)} (h : ar.toList.map (fun e => (e.key, e.val)) = es.map (fun p => (Value.int .i64 p.1, p.2))) (hs : ∀ p ∈ es, I64 p.1) : ∀ e ∈ ar.toList, ∃ l, Go.keyOf Tryz.prog 2 e.key = some l := by
  intro e he
  have : (e.key, e.val) ∈ es.map (fun p => (Value.int .i64 p.1, p.2)) := by rw [← h]; exact List.mem_map.2 ⟨e, he, rfl⟩
  obtain ⟨p, hm, e1⟩ := List.mem_map.1 this
  have e2 : Value.int .i64 p.1 = e.key := congrArg Prod.fst e1
  exact ⟨_, by rw [← e2]; exact keyOf_int_mk Tryz.underlying2 (hs p hm)⟩
theorem mi_mem {ar : Array MapEntry} {es : List (Int × Value)} (h : ar.toList.map (fun e => (e.key, e.val)) = es.map (fun p => (Value.int .i64 p.1, p.2))) {e : MapEntry} (he : e ∈ ar.toList) : ∃ p ∈ es, e.key = .int .i64 p.1 ∧ e.val = p.2 := by
  have : (e.key, e.val) ∈ es.map (fun p => (Value.int .i64 p.1, p.2)) := by rw [← h]; exact List.mem_map.2 ⟨e, he, rfl⟩
  obtain ⟨p, hm, e1⟩ := List.mem_map.1 this
  exact ⟨p, hm, (congrArg Prod.fst e1).symm, (congrArg Prod.snd e1).symm⟩
theorem mi_miss {t e : TypeId} {z : Value} (ht : Tryz.prog.underlying t = some (.map 2 e)) (hz : ∀ w, (zeroValue e).run Tryz.prog w = .ok z w) {w : World} {b : Nat} {es : List (Int × Value)} (h : MI w b es) (k : Int) (hk : I64 k) (hn : ∀ p ∈ es, p.1 ≠ k) :
    (Instr.lookup t (.map (some b)) (.int .i64 k) true).run Tryz.prog w = .ok (.tuple #[z, .bool false]) w ∧ (Instr.lookup t (.map (some b)) (.int .i64 k) false).run Tryz.prog w = .ok z w := by
  obtain ⟨ar, clock, h1, h2, h3, hS⟩ := h
  have K := int_keyed (P := Tryz.prog) Tryz.underlying2
  have hkey := keyOf_int_mk (P := Tryz.prog) Tryz.underlying2 hk
  rcases K.find w hkey ar.toList (mi_keys h2 h3) with ⟨f1, f2⟩ | ⟨j, e0, f1, f2, f3⟩
  · constructor <;> simp [Instr.lookup, run_underlying ht, MapKept.run_getObj_map h1, K.check w _ hkey, f1, hz, Result.andThen]
  · exfalso
    obtain ⟨p, hp, e1, _⟩ := mi_mem h2 (List.mem_of_getElem? f2)
    rw [f3] at e1
    have : k = p.1 := by injection e1
    exact hn p hp this.symm
theorem mi_hit {t e : TypeId} {z : Value} (ht : Tryz.prog.underlying t = some (.map 2 e)) {w : World} {b : Nat} {es : List (Int × Value)} (h : MI w b es) (k : Int) (v : Value) (hk : I64 k) (hm : (k, v) ∈ es) (hu : ∀ p ∈ es, p.1 = k → p.2 = v) :
    (Instr.lookup t (.map (some b)) (.int .i64 k) true).run Tryz.prog w = .ok (.tuple #[v, .bool true]) w ∧ (Instr.lookup t (.map (some b)) (.int .i64 k) false).run Tryz.prog w = .ok v w := by
  obtain ⟨ar, clock, h1, h2, h3, hS⟩ := h
  have K := int_keyed (P := Tryz.prog) Tryz.underlying2
  have hkey := keyOf_int_mk (P := Tryz.prog) Tryz.underlying2 hk
  rcases K.find w hkey ar.toList (mi_keys h2 h3) with ⟨f1, f2⟩ | ⟨j, e0, f1, f2, f3⟩
  · exfalso
    have : (Value.int .i64 k, v) ∈ ar.toList.map (fun e => (e.key, e.val)) := by rw [h2]; exact List.mem_map.2 ⟨_, hm, rfl⟩
    obtain ⟨e, he, e1⟩ := List.mem_map.1 this
    exact f2 e he (congrArg Prod.fst e1)
  · obtain ⟨p, hp, e1, e2⟩ := mi_mem h2 (List.mem_of_getElem? f2)
    rw [f3] at e1
    have e3' : k = p.1 := by injection e1
    have e3 : p.1 = k := e3'.symm
    have e4 : e0.val = v := e2.trans (hu p hp e3)
    rw [e4] at f1
    clear e4 e2 e3 e3' e1 hu hm hp
    constructor <;> simp [Instr.lookup, run_underlying ht, MapKept.run_getObj_map h1, K.check w _ hkey, f1, Result.andThen]
theorem mi_new {t e : TypeId} (ht : Tryz.prog.underlying t = some (.map 2 e)) {w : World} {b : Nat} {es : List (Int × Value)} (h : MI w b es) (k : Int) (v : Value) (hk : I64 k) (hn : ∀ p ∈ es, p.1 ≠ k) :
    ∃ w', (Instr.mapUpdate t (.map (some b)) (.int .i64 k) v).run Tryz.prog w = .ok () w' ∧ MI w' b (es ++ [(k, v)]) ∧ w'.heap.size = w.heap.size ∧ (∀ i, i ≠ b → w'.heap[i]? = w.heap[i]?) ∧ Below b w w' := by
  obtain ⟨ar, clock, h1, h2, h3, hS⟩ := h
  have hlt : b < w.heap.size := (Array.getElem?_eq_some_iff.1 h1).1
  have K := int_keyed (P := Tryz.prog) Tryz.underlying2
  have hkey := keyOf_int_mk (P := Tryz.prog) Tryz.underlying2 hk
  rcases K.find w hkey ar.toList (mi_keys h2 h3) with ⟨f1, f2⟩ | ⟨j, e0, f1, f2, f3⟩
  · refine ⟨{ w with heap := w.heap.setIfInBounds b (.map (ar.push ⟨.int .i64 k, v, clock⟩) (clock + 1)) }, ?_, ⟨ar.push ⟨.int .i64 k, v, clock⟩, clock + 1, ?_, ?_, ?_, MapKept.stamped_push hS f2⟩, ?_, ?_, ⟨rfl, rfl, rfl, ?_, ?_⟩⟩
    · simp [Instr.mapUpdate, run_underlying ht, MapKept.run_getObj_map h1, K.check w false hkey, f1, MapKept.run_setObj_map _ h1, Result.andThen]
    · simp [hlt]
    · simp [h2]
    · intro p hp
      rcases List.mem_append.1 hp with hp | hp
      · exact h3 p hp
      · simp only [List.mem_cons, List.not_mem_nil, or_false] at hp; rw [hp]; exact hk
    · simp
    · intro i hi
      simp [Array.getElem?_setIfInBounds_ne (Ne.symm hi)]
    · simp
    · intro i hi
      have : i ≠ b := by omega
      simp [Array.getElem?_setIfInBounds_ne (Ne.symm this)]
  · exfalso
    obtain ⟨p, hp, e1, _⟩ := mi_mem h2 (List.mem_of_getElem? f2)
    rw [f3] at e1
    have : k = p.1 := by injection e1
    exact hn p hp this.symm
end Go.Proofs.YthfilnflgahcjaaGreatDoor

