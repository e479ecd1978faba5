/- What was counted, in order. Maps by numbers: what they hold, and what is done to them. What was counted, in order. A graph of nothing: it may be, and is made. -/
import Derived.Test.YthfilnflgahcjaaGreatDoorJoin7
import Derived.Maps.RangeRun
import Derived.Test.YthfilnflgahcjaaGreatDoorJoin9
import Derived.Test.YthfilnflgahcjaaGreatDoorJoin1
import Derived.Maps.Keyed
import Derived.MapKept
import Derived.Deep.Cut
namespace Go.Proofs.YthfilnflgahcjaaGreatDoor
open Go.RowKit Go.Shelf Go.Maps
set_option linter.unusedVariables false
set_option linter.unusedSimpArgs false
attribute [local go_sem] Oper.semAt_some
set_option maxHeartbeats 1000000 in
theorem f87_any (s : ByteArray) (q z : Int) (w : World) : Calls Tryz.prog 87 #[.agg #[.string s, .int .i64 q], .int .i64 z] w fun e w' => e = .returned (.agg #[.string s, .int .i64 z]) ∧ Below w.heap.size w w' := by
  go_enter Tryz.func87, Tryz.ntmps87
  go_wp2
  refine bodyPost_ret (by simp [results, Tryz.results87, go_sem]) rfl ⟨rfl, ((Below.refl _ _).alloc (Nat.le_refl _) _).alloc (by simp) _⟩
structure Rowing88 (w : World) (ar : Array MapEntry) (clock b r : Nat) (wr : World) (v : Value) (seen : Array Nat) (c0 : Nat) (done : List MapEntry) (D : List ((ByteArray × Int) × Int)) : Prop where
  it : wr.heap[r]? = some (.mapIter (some b) clock seen c0)
  cl : clock ≤ c0
  bw : Below w.heap.size w wr
  row : ORow 62 2 labC (r + 1) wr v (D.map (fun p : (ByteArray × Int) × Int => (p.1.1, p.2)))
  dn : D.map (fun p => (labV p.1, Value.int .i64 p.2)) = done.map (fun e => (e.key, e.val))
  nd : done.Nodup
  sub : ∀ x ∈ done, x ∈ ar.toList
  has : ∀ x ∈ ar.toList, seen.contains x.born = true ↔ x ∈ done
/-- A sort that does so. -/
def Sorts88 (le : ByteArray × Int → ByteArray × Int → Prop) (most : Nat) : Prop := ∀ (W : World) (v : Value) (base : Nat) (xs : List (ByteArray × Int)), base ≤ W.heap.size → xs.length ≤ most → ORow 62 2 labC base W v xs → Calls Tryz.prog 123 #[v, .func (.func 89) #[] #[]] W fun e w' => e = .returned (.tuple #[]) ∧ ∃ ys, ys.Perm xs ∧ ys.Pairwise le ∧ ORow 62 2 labC base w' v ys ∧ Below base W w'
set_option maxRecDepth 100000 in
set_option maxHeartbeats 8000000 in
theorem rows88_any {le : ByteArray × Int → ByteArray × Int → Prop} {most : Nat} (hsort : Sorts88 le most) (hmost : most ≤ 900000) {w : World} {b : Nat} {cs : List ((ByteArray × Int) × Int)} (h : MC labV okL w b cs) (hl : cs.length ≤ most) :
    Calls Tryz.prog 88 #[.map (some b), .func (.func 87) #[] #[], .func (.func 89) #[] #[]] w fun e w' => ∃ v L, e = .returned v ∧ L.Perm (cs.map (fun p : (ByteArray × Int) × Int => (p.1.1, p.2))) ∧ L.Pairwise le ∧ ORow 62 2 labC w.heap.size w' v L ∧ Below w.heap.size w w' := by
  have hbl := MG.lt h
  obtain ⟨ar, clock, hb, hent, hoks, hst⟩ := h
  have hn : ar.size = cs.length := by have := congrArg List.length hent; simpa using this
  have HENT : Hid (∀ x ∈ ar.toList, ∃ p ∈ cs, x.key = labV p.1 ∧ x.val = .int .i64 p.2) := fun x hx => by
    have h1 : (x.key, x.val) ∈ ar.toList.map (fun e => (e.key, e.val)) := List.mem_map.2 ⟨x, hx, rfl⟩
    rw [hent] at h1
    obtain ⟨q, hq, e⟩ := List.mem_map.1 h1
    obtain ⟨p, hp, rfl⟩ := List.mem_map.1 hq
    obtain ⟨e1, e2⟩ := Prod.mk.inj e
    exact ⟨p, hp, e1.symm, e2.symm⟩
  have HEQ : Hid (ar.toList.map (fun e => (e.key, e.val)) = cs.map (fun p => (labV p.1, Value.int .i64 p.2))) := by
    show _ = _
    rw [hent, List.map_map]; rfl
  have HND : Hid (ar.toList.Nodup) := by
    have := hst.2.1
    rw [List.nodup_iff_pairwise_ne] at *
    exact (List.pairwise_map.1 this).imp fun h e => h (by rw [e])
  have HBORN : Hid (∀ x ∈ ar.toList, ∀ y ∈ ar.toList, x.born = y.born → x = y) := fun x hx y hy e => by
    obtain ⟨i, hi⟩ := List.getElem?_of_mem hx
    obtain ⟨j, hj⟩ := List.getElem?_of_mem hy
    have := (List.getElem?_inj (l := ar.toList.map (·.born)) (by simpa using (List.getElem?_eq_some_iff.1 hi).1) hst.2.1 (i := i) (j := j)).1 (by rw [List.getElem?_map, List.getElem?_map, hi, hj, Option.map_some, Option.map_some, e])
    subst this
    rw [hi] at hj
    exact Option.some.inj hj
  have HLEN : Hid (∀ done : List MapEntry, done.Nodup → (∀ x ∈ done, x ∈ ar.toList) → done.length ≤ most) := fun done h1 h2 => by
    have := nodup_len h1 h2
    simp only [Array.length_toList] at this
    omega
  have HST := hidE hst
  have HB := hidE hb
  have HCS := hidE hl
  clear hent hoks hst hn hb hl
  go_enter Tryz.func88, Tryz.ntmps88
  have hrg := run_range_map (P := Tryz.prog) w 139 62 2 b ar clock (by kernel_rfl) HB.out
  go_wp2_with fail
  go_loopw [7] (fun v wr => ∃ seen c0 done D, Rowing88 w ar clock b w.heap.size wr v seen c0 done D) (fun _ wr => wr.rangeLeft b w.heap.size)
  case atStart =>
    exact ⟨#[], clock, [], [], World.alloc_heap_new _ _, Nat.le_refl _, (Below.refl _ _).alloc (Nat.le_refl _) _, orow_nil _ _ _ _ _, rfl, List.nodup_nil, fun x hx => by simp at hx, fun x hx => by simp⟩
  case round =>
    obtain ⟨seen, c0, done, D, hC⟩ := hrel
    have HC := hidE hC
    have hb2 : wr.heap[b]? = some (.map ar clock) := (hC.bw.block b hbl).trans HB.out
    rcases run_next_at (P := Tryz.prog) wr 0 w.heap.size b clock c0 seen ar clock hC.it hb2 HST.out.1 hC.cl with ⟨h0, hnx⟩ | ⟨x, hx, w1, hw1, hnx⟩
    · have HF : Hid ((D.map (fun p : (ByteArray × Int) × Int => (p.1.1, p.2))).Perm (cs.map (fun p : (ByteArray × Int) × Int => (p.1.1, p.2)))) := by
        have hp : done.Perm ar.toList := (List.perm_ext_iff_of_nodup hC.nd HND.out).2 fun x => ⟨hC.sub x, fun hx => (hC.has x hx).1 (all_seen ar seen h0 x hx)⟩
        have h1 := hp.map (fun e => (e.key, e.val))
        rw [← hC.dn, HEQ.out] at h1
        exact (perm_back labV_inj h1).map _
      have hlen : (D.map (fun p : (ByteArray × Int) × Int => (p.1.1, p.2))).length ≤ most := by rw [HF.out.length_eq, List.length_map]; exact HCS.out
      have HS := hidE (hsort wr _ (w.heap.size + 1) _ (by have := (Array.getElem?_eq_some_iff.1 hC.it).1; omega) hlen hC.row)
      have HBW := hidE hC.bw
      clear hC HC hb2 h0 hlen
      go_wp2_with (go_at_call 123; refine HS.out.mono ?_; rintro e W3 ⟨rfl, ys, y1, y2, y3, y4⟩; have HY := hidE (And.intro y1 (And.intro y2 (And.intro y3 y4))); clear y1 y2 y3 y4)
      go_ret
      obtain ⟨y1, y2, y3, y4⟩ := HY.out
      exact ⟨_, ys, rfl, y1.trans HF.out, y2, y3.base (by omega), HBW.out.trans (y4.mono (by omega))⟩
    · obtain ⟨hxm, hxs⟩ := mem_left hx
      obtain ⟨⟨⟨s, q⟩, z⟩, hpc, ek, ev⟩ := HENT.out x hxm
      simp only [labV] at ek ev
      obtain ⟨U, hU⟩ : ∃ V, Go.ChangeMaps.setBlock w1 w.heap.size (.mapIter (some b) clock (seen.push x.born) clock) = V := ⟨_, rfl⟩
      rw [hU, ek, ev] at hnx
      have hit1 : w1.heap[w.heap.size]? = some (.mapIter (some b) clock seen c0) := by rcases hw1 with rfl | rfl <;> exact hC.it
      have hset := MapKept.heap_set (o' := .mapIter (some b) clock (seen.push x.born) clock) hit1
      have hVo : ∀ q, q ≠ w.heap.size → U.heap[q]? = wr.heap[q]? := fun q hq => by
        rw [← hU]
        have : w1.heap[q]? = wr.heap[q]? := by rcases hw1 with rfl | rfl <;> rfl
        exact (hset.2 q hq).trans this
      have hVs : U.heap.size = wr.heap.size := by
        rw [← hU]
        have : w1.heap.size = wr.heap.size := by rcases hw1 with rfl | rfl <;> rfl
        simp [Go.ChangeMaps.setBlock, this]
      have hVi : U.heap[w.heap.size]? = some (.mapIter (some b) clock (seen.push x.born) clock) := by rw [← hU]; exact hset.1
      have hVt : U.os = wr.os ∧ U.tape = wr.tape ∧ U.output = wr.output := by
        rw [← hU]
        rcases hw1 with rfl | rfl <;> exact ⟨rfl, rfl, rfl⟩
      have hbV : Below w.heap.size w U := ⟨hVt.1.trans hC.bw.os, hVt.2.1.trans hC.bw.tape, hVt.2.2.trans hC.bw.output, by rw [hVs]; exact hC.bw.size, fun q hq => (hVo q (by omega)).trans (hC.bw.block q hq)⟩
      have hen := run_entry_at (P := Tryz.prog) U w.heap.size b clock seen ar clock x hVi ((hbV.block b hbl).trans HB.out) hxm HST.out.2.1
      rw [ek, ev] at hen
      have hor : ORow 62 2 labC (w.heap.size + 1) U _ (D.map (fun p : (ByteArray × Int) × Int => (p.1.1, p.2))) := hC.row.keep fun g hg _ => hVo g (by omega)
      have hmeas : (leftOf ar (seen.push x.born)).size < (leftOf ar seen).size := left_shrinks ar seen x hx
      have hmeas2 : wr.rangeLeft b w.heap.size = (leftOf ar seen).size := by simp only [World.rangeLeft, hb2, hC.it]
      have hszr : w.heap.size < U.heap.size := (Array.getElem?_eq_some_iff.1 hVi).1
      have hdl : D.length ≤ most := by
        have h1 := congrArg List.length hC.dn
        simp only [List.length_map] at h1
        rw [h1]; exact HLEN.out done hC.nd hC.sub
      have HA : Hid (Below U.heap.size U (U.alloc (.cells #[.string s, .int .i64 q] 62))) := (Below.refl _ _).alloc (Nat.le_refl _) _
      have HU := hidE (And.intro hVi (And.intro hbV (And.intro hor (And.intro hszr hdl))))
      have HX := hidE (And.intro hxm (And.intro hxs (And.intro ek ev)))
      have HM := hidE (And.intro hmeas hmeas2)
      clear hC hb2 hU hit1 hset hVo hVs hVi hVt hbV hxm hxs ek ev hx hw1 hmeas hmeas2 hpc hor hszr hdl
      go_wp2_with (first
        | (go_at_call 87; refine (f87_any s q z _).mono ?_; rintro e W2 ⟨rfl, hb2⟩
           obtain ⟨v6, W6, p1, p2, p3, p4⟩ := append_one (ty := 29) (c := 1) (bl := W2.heap.size) (off := 0) (x := (s, z)) elem29 (fun x => rfl) one_lab (((HU.out.2.2.1.below HA.out).below hb2).below ((Below.refl _ _).alloc (Nat.le_refl _) (.cells #[.string s, .int .i64 z] 62))) (fun jj u hu => by
             rw [Nat.zero_add]
             exact cell_new _ _ _ _ _ (by simpa [labC] using hu)) (by rw [List.length_map]; have := HU.out.2.2.2.2; omega) (by have h1 := HU.out.2.2.2.1; have h2 := HA.out.size; have h3 := hb2.size; simp; omega)
           have HP := hidE (And.intro p2 (And.intro p3 hb2))
           clear p2 p3 p4 hb2)
        | (at_builtin; refine Lib.wpList_append_run _ rfl _ _ _ _ rfl _ _ rfl rfl _ _ p1 ?_))
      have HNEW : Hid (Rowing88 w ar clock b w.heap.size W6 v6 (seen.push x.born) clock (done ++ [x]) (D ++ [((s, q), z)])) := by
        obtain ⟨p2, p3, hb2⟩ := HP.out
        obtain ⟨u1, u2, u3, u4, u5⟩ := HU.out
        have hbig : Below (w.heap.size + 1) U W6 := (((HA.out.mono (by omega)).trans (hb2.mono (by have := HA.out.size; omega))).trans (((Below.refl _ _).alloc (Nat.le_refl _) _ : Below W2.heap.size W2 (W2.alloc (.cells #[.string s, .int .i64 z] 62))).mono (by have := HA.out.size; have := hb2.size; omega))).trans p3
        refine ⟨(hbig.block _ (by omega)).trans u1, Nat.le_refl _, u2.trans (hbig.mono (by omega)), ?_, ?_, ?_, ?_, ?_⟩
        · rw [List.map_append]; exact p2
        · rw [List.map_append, List.map_append, HC.out.dn]
          simp [labV, HX.out.2.2.1, HX.out.2.2.2]
        · refine List.nodup_append.2 ⟨HC.out.nd, by simp, fun a ha c hc => ?_⟩
          simp only [List.mem_singleton] at hc
          subst hc
          intro e
          subst e
          have := (HC.out.has _ HX.out.1).2 ha
          rw [HX.out.2.1] at this
          cases this
        · intro y hy
          rcases List.mem_append.1 hy with hy | hy
          · exact HC.out.sub y hy
          · rw [List.mem_singleton.1 hy]; exact HX.out.1
        · intro y hy
          rw [contains_push]
          simp only [Bool.or_eq_true, HC.out.has y hy, beq_iff_eq, List.mem_append, List.mem_singleton]
          constructor
          · rintro (h1 | h1)
            · exact .inl h1
            · exact .inr (HBORN.out y hy x HX.out.1 h1)
          · rintro (h1 | h1)
            · exact .inl h1
            · exact .inr (by rw [h1])
      go_roundw
      case rel => exact ⟨_, _, _, _, HNEW.out⟩
      case measure =>
        have h1 : W6.rangeLeft b w.heap.size = (leftOf ar (seen.push x.born)).size := by
          have hb4 : W6.heap[b]? = some (.map ar clock) := (HNEW.out.bw.block b hbl).trans HB.out
          simp only [World.rangeLeft, hb4, HNEW.out.it]
        rw [h1, HM.out.2]
        exact HM.out.1
end Go.Proofs.YthfilnflgahcjaaGreatDoor

namespace Go.Proofs.YthfilnflgahcjaaGreatDoor
open Go.RowKit Go.Shelf Go.Maps
set_option linter.unusedVariables false
set_option linter.unusedSimpArgs false
/-- A number of 64 bits. -/
def I64 (k : Int) : Prop := (Lit.int .i64 k).wf = true
/-- The map at b holds just these, by their numbers. -/
def MI (w : World) (b : Nat) (es : List (Int × Value)) : Prop := ∃ ar clock, w.heap[b]? = some (.map ar clock) ∧ ar.toList.map (fun e => (e.key, e.val)) = es.map (fun p => (Value.int .i64 p.1, p.2)) ∧ (∀ p ∈ es, I64 p.1) ∧ MapKept.Stamped ar clock
theorem MI.block {w w' : World} {b : Nat} {es : List (Int × Value)} (h : MI w b es) (hb : w'.heap[b]? = w.heap[b]?) : MI w' b es := by
  obtain ⟨ar, c, h1, h2⟩ := h
  exact ⟨ar, c, hb.trans h1, h2⟩
theorem MI.lt {w : World} {b : Nat} {es : List (Int × Value)} (h : MI w b es) : b < w.heap.size := by
  obtain ⟨ar, c, h1, _⟩ := h
  exact (Array.getElem?_eq_some_iff.1 h1).1
theorem MI.below {B : Nat} {w w' : World} {b : Nat} {es : List (Int × Value)} (h : MI w b es) (hb : Below B w w') (hB : w.heap.size ≤ B) : MI w' b es := h.block (hb.block b (Nat.lt_of_lt_of_le h.lt hB))
theorem mi_none (w : World) : MI (w.alloc (.map #[] 0)) w.heap.size [] := ⟨#[], 0, World.alloc_heap_new _ _, rfl, by simp, MapKept.stamped_empty _⟩
theorem mi_keys {ar : Array MapEntry} {es : List (Int × Value)} (h : ar.toList.map (fun e => (e.key, e.val)) = es.map (fun p => (Value.int .i64 p.1, p.2))) (hs : ∀ p ∈ es, I64 p.1) : ∀ e ∈ ar.toList, ∃ l, Go.keyOf Tryz.prog 2 e.key = some l := by
  intro e he
  have : (e.key, e.val) ∈ es.map (fun p => (Value.int .i64 p.1, p.2)) := by rw [← h]; exact List.mem_map.2 ⟨e, he, rfl⟩
  obtain ⟨p, hm, e1⟩ := List.mem_map.1 this
  have e2 : Value.int .i64 p.1 = e.key := congrArg Prod.fst e1
  exact ⟨_, by rw [← e2]; exact keyOf_int_mk Tryz.underlying2 (hs p hm)⟩
theorem mi_mem {ar : Array MapEntry} {es : List (Int × Value)} (h : ar.toList.map (fun e => (e.key, e.val)) = es.map (fun p => (Value.int .i64 p.1, p.2))) {e : MapEntry} (he : e ∈ ar.toList) : ∃ p ∈ es, e.key = .int .i64 p.1 ∧ e.val = p.2 := by
  have : (e.key, e.val) ∈ es.map (fun p => (Value.int .i64 p.1, p.2)) := by rw [← h]; exact List.mem_map.2 ⟨e, he, rfl⟩
  obtain ⟨p, hm, e1⟩ := List.mem_map.1 this
  exact ⟨p, hm, (congrArg Prod.fst e1).symm, (congrArg Prod.snd e1).symm⟩
theorem mi_miss {t e : TypeId} {z : Value} (ht : Tryz.prog.underlying t = some (.map 2 e)) (hz : ∀ w, (zeroValue e).run Tryz.prog w = .ok z w) {w : World} {b : Nat} {es : List (Int × Value)} (h : MI w b es) (k : Int) (hk : I64 k) (hn : ∀ p ∈ es, p.1 ≠ k) :
    (Instr.lookup t (.map (some b)) (.int .i64 k) true).run Tryz.prog w = .ok (.tuple #[z, .bool false]) w ∧ (Instr.lookup t (.map (some b)) (.int .i64 k) false).run Tryz.prog w = .ok z w := by
  obtain ⟨ar, clock, h1, h2, h3, hS⟩ := h
  have K := int_keyed (P := Tryz.prog) Tryz.underlying2
  have hkey := keyOf_int_mk (P := Tryz.prog) Tryz.underlying2 hk
  rcases K.find w hkey ar.toList (mi_keys h2 h3) with ⟨f1, f2⟩ | ⟨j, e0, f1, f2, f3⟩
  · constructor <;> simp [Instr.lookup, run_underlying ht, MapKept.run_getObj_map h1, K.check w _ hkey, f1, hz, Result.andThen]
  · exfalso
    obtain ⟨p, hp, e1, _⟩ := mi_mem h2 (List.mem_of_getElem? f2)
    rw [f3] at e1
    have : k = p.1 := by injection e1
    exact hn p hp this.symm
theorem mi_hit {t e : TypeId} {z : Value} (ht : Tryz.prog.underlying t = some (.map 2 e)) {w : World} {b : Nat} {es : List (Int × Value)} (h : MI w b es) (k : Int) (v : Value) (hk : I64 k) (hm : (k, v) ∈ es) (hu : ∀ p ∈ es, p.1 = k → p.2 = v) :
    (Instr.lookup t (.map (some b)) (.int .i64 k) true).run Tryz.prog w = .ok (.tuple #[v, .bool true]) w ∧ (Instr.lookup t (.map (some b)) (.int .i64 k) false).run Tryz.prog w = .ok v w := by
  obtain ⟨ar, clock, h1, h2, h3, hS⟩ := h
  have K := int_keyed (P := Tryz.prog) Tryz.underlying2
  have hkey := keyOf_int_mk (P := Tryz.prog) Tryz.underlying2 hk
  rcases K.find w hkey ar.toList (mi_keys h2 h3) with ⟨f1, f2⟩ | ⟨j, e0, f1, f2, f3⟩
  · exfalso
    have : (Value.int .i64 k, v) ∈ ar.toList.map (fun e => (e.key, e.val)) := by rw [h2]; exact List.mem_map.2 ⟨_, hm, rfl⟩
    obtain ⟨e, he, e1⟩ := List.mem_map.1 this
    exact f2 e he (congrArg Prod.fst e1)
  · obtain ⟨p, hp, e1, e2⟩ := mi_mem h2 (List.mem_of_getElem? f2)
    rw [f3] at e1
    have e3' : k = p.1 := by injection e1
    have e3 : p.1 = k := e3'.symm
    have e4 : e0.val = v := e2.trans (hu p hp e3)
    rw [e4] at f1
    clear e4 e2 e3 e3' e1 hu hm hp
    constructor <;> simp [Instr.lookup, run_underlying ht, MapKept.run_getObj_map h1, K.check w _ hkey, f1, Result.andThen]
theorem mi_new {t e : TypeId} (ht : Tryz.prog.underlying t = some (.map 2 e)) {w : World} {b : Nat} {es : List (Int × Value)} (h : MI w b es) (k : Int) (v : Value) (hk : I64 k) (hn : ∀ p ∈ es, p.1 ≠ k) :
    ∃ w', (Instr.mapUpdate t (.map (some b)) (.int .i64 k) v).run Tryz.prog w = .ok () w' ∧ MI w' b (es ++ [(k, v)]) ∧ w'.heap.size = w.heap.size ∧ (∀ i, i ≠ b → w'.heap[i]? = w.heap[i]?) ∧ Below b w w' := by
  obtain ⟨ar, clock, h1, h2, h3, hS⟩ := h
  have hlt : b < w.heap.size := (Array.getElem?_eq_some_iff.1 h1).1
  have K := int_keyed (P := Tryz.prog) Tryz.underlying2
  have hkey := keyOf_int_mk (P := Tryz.prog) Tryz.underlying2 hk
  rcases K.find w hkey ar.toList (mi_keys h2 h3) with ⟨f1, f2⟩ | ⟨j, e0, f1, f2, f3⟩
  · refine ⟨{ w with heap := w.heap.setIfInBounds b (.map (ar.push ⟨.int .i64 k, v, clock⟩) (clock + 1)) }, ?_, ⟨ar.push ⟨.int .i64 k, v, clock⟩, clock + 1, ?_, ?_, ?_, MapKept.stamped_push hS f2⟩, ?_, ?_, ⟨rfl, rfl, rfl, ?_, ?_⟩⟩
    · simp [Instr.mapUpdate, run_underlying ht, MapKept.run_getObj_map h1, K.check w false hkey, f1, MapKept.run_setObj_map _ h1, Result.andThen]
    · simp [hlt]
    · simp [h2]
    · intro p hp
      rcases List.mem_append.1 hp with hp | hp
      · exact h3 p hp
      · simp only [List.mem_cons, List.not_mem_nil, or_false] at hp; rw [hp]; exact hk
    · simp
    · intro i hi
      simp [Array.getElem?_setIfInBounds_ne (Ne.symm hi)]
    · simp
    · intro i hi
      have : i ≠ b := by omega
      simp [Array.getElem?_setIfInBounds_ne (Ne.symm this)]
  · exfalso
    obtain ⟨p, hp, e1, _⟩ := mi_mem h2 (List.mem_of_getElem? f2)
    rw [f3] at e1
    have : k = p.1 := by injection e1
    exact hn p hp this.symm
end Go.Proofs.YthfilnflgahcjaaGreatDoor

namespace Go.Proofs.YthfilnflgahcjaaGreatDoor
open Go.RowKit Go.Shelf Go.Maps
set_option linter.unusedVariables false
set_option linter.unusedSimpArgs false
attribute [local go_sem] Oper.semAt_some
set_option maxHeartbeats 1000000 in
theorem f91_any (s t : ByteArray) (p : Bool) (q z : Int) (w : World) : Calls Tryz.prog 91 #[.agg #[.string s, .string t, .bool p, .int .i64 q], .int .i64 z] w fun e w' => e = .returned (.agg #[.string s, .string t, .bool p, .int .i64 z]) ∧ Below w.heap.size w w' := by
  go_enter Tryz.func91, Tryz.ntmps91
  go_wp2
  refine bodyPost_ret (by simp [results, Tryz.results91, go_sem]) rfl ⟨rfl, ((Below.refl _ _).alloc (Nat.le_refl _) _).alloc (by simp) _⟩
structure Rowing92 (w : World) (ar : Array MapEntry) (clock b r : Nat) (wr : World) (v : Value) (seen : Array Nat) (c0 : Nat) (done : List MapEntry) (D : List ((EndR) × Int)) : Prop where
  it : wr.heap[r]? = some (.mapIter (some b) clock seen c0)
  cl : clock ≤ c0
  bw : Below w.heap.size w wr
  row : ORow 64 4 endC (r + 1) wr v (D.map (fun p : EndR × Int => (p.1.1, p.1.2.1, p.1.2.2.1, p.2)))
  dn : D.map (fun p => (endV p.1, Value.int .i64 p.2)) = done.map (fun e => (e.key, e.val))
  nd : done.Nodup
  sub : ∀ x ∈ done, x ∈ ar.toList
  has : ∀ x ∈ ar.toList, seen.contains x.born = true ↔ x ∈ done
/-- A sort that does so. -/
def Sorts92 (le : EndR → EndR → Prop) (most : Nat) : Prop := ∀ (W : World) (v : Value) (base : Nat) (xs : List (EndR)), base ≤ W.heap.size → xs.length ≤ most → ORow 64 4 endC base W v xs → Calls Tryz.prog 125 #[v, .func (.func 93) #[] #[]] W fun e w' => e = .returned (.tuple #[]) ∧ ∃ ys, ys.Perm xs ∧ ys.Pairwise le ∧ ORow 64 4 endC base w' v ys ∧ Below base W w'
set_option maxRecDepth 100000 in
set_option maxHeartbeats 8000000 in
theorem rows92_any {le : EndR → EndR → Prop} {most : Nat} (hsort : Sorts92 le most) (hmost : most ≤ 900000) {w : World} {b : Nat} {cs : List ((EndR) × Int)} (h : MC endV okE w b cs) (hl : cs.length ≤ most) :
    Calls Tryz.prog 92 #[.map (some b), .func (.func 91) #[] #[], .func (.func 93) #[] #[]] w fun e w' => ∃ v L, e = .returned v ∧ L.Perm (cs.map (fun p : EndR × Int => (p.1.1, p.1.2.1, p.1.2.2.1, p.2))) ∧ L.Pairwise le ∧ ORow 64 4 endC w.heap.size w' v L ∧ Below w.heap.size w w' := by
  have hbl := MG.lt h
  obtain ⟨ar, clock, hb, hent, hoks, hst⟩ := h
  have hn : ar.size = cs.length := by have := congrArg List.length hent; simpa using this
  have HENT : Hid (∀ x ∈ ar.toList, ∃ p ∈ cs, x.key = endV p.1 ∧ x.val = .int .i64 p.2) := fun x hx => by
    have h1 : (x.key, x.val) ∈ ar.toList.map (fun e => (e.key, e.val)) := List.mem_map.2 ⟨x, hx, rfl⟩
    rw [hent] at h1
    obtain ⟨q, hq, e⟩ := List.mem_map.1 h1
    obtain ⟨p, hp, rfl⟩ := List.mem_map.1 hq
    obtain ⟨e1, e2⟩ := Prod.mk.inj e
    exact ⟨p, hp, e1.symm, e2.symm⟩
  have HEQ : Hid (ar.toList.map (fun e => (e.key, e.val)) = cs.map (fun p => (endV p.1, Value.int .i64 p.2))) := by
    show _ = _
    rw [hent, List.map_map]; rfl
  have HND : Hid (ar.toList.Nodup) := by
    have := hst.2.1
    rw [List.nodup_iff_pairwise_ne] at *
    exact (List.pairwise_map.1 this).imp fun h e => h (by rw [e])
  have HBORN : Hid (∀ x ∈ ar.toList, ∀ y ∈ ar.toList, x.born = y.born → x = y) := fun x hx y hy e => by
    obtain ⟨i, hi⟩ := List.getElem?_of_mem hx
    obtain ⟨j, hj⟩ := List.getElem?_of_mem hy
    have := (List.getElem?_inj (l := ar.toList.map (·.born)) (by simpa using (List.getElem?_eq_some_iff.1 hi).1) hst.2.1 (i := i) (j := j)).1 (by rw [List.getElem?_map, List.getElem?_map, hi, hj, Option.map_some, Option.map_some, e])
    subst this
    rw [hi] at hj
    exact Option.some.inj hj
  have HLEN : Hid (∀ done : List MapEntry, done.Nodup → (∀ x ∈ done, x ∈ ar.toList) → done.length ≤ most) := fun done h1 h2 => by
    have := nodup_len h1 h2
    simp only [Array.length_toList] at this
    omega
  have HST := hidE hst
  have HB := hidE hb
  have HCS := hidE hl
  clear hent hoks hst hn hb hl
  go_enter Tryz.func92, Tryz.ntmps92
  have hrg := run_range_map (P := Tryz.prog) w 143 64 2 b ar clock (by kernel_rfl) HB.out
  go_wp2_with fail
  go_loopw [7] (fun v wr => ∃ seen c0 done D, Rowing92 w ar clock b w.heap.size wr v seen c0 done D) (fun _ wr => wr.rangeLeft b w.heap.size)
  case atStart =>
    exact ⟨#[], clock, [], [], World.alloc_heap_new _ _, Nat.le_refl _, (Below.refl _ _).alloc (Nat.le_refl _) _, orow_nil _ _ _ _ _, rfl, List.nodup_nil, fun x hx => by simp at hx, fun x hx => by simp⟩
  case round =>
    obtain ⟨seen, c0, done, D, hC⟩ := hrel
    have HC := hidE hC
    have hb2 : wr.heap[b]? = some (.map ar clock) := (hC.bw.block b hbl).trans HB.out
    rcases run_next_at (P := Tryz.prog) wr 0 w.heap.size b clock c0 seen ar clock hC.it hb2 HST.out.1 hC.cl with ⟨h0, hnx⟩ | ⟨x, hx, w1, hw1, hnx⟩
    · have HF : Hid ((D.map (fun p : EndR × Int => (p.1.1, p.1.2.1, p.1.2.2.1, p.2))).Perm (cs.map (fun p : EndR × Int => (p.1.1, p.1.2.1, p.1.2.2.1, p.2)))) := by
        have hp : done.Perm ar.toList := (List.perm_ext_iff_of_nodup hC.nd HND.out).2 fun x => ⟨hC.sub x, fun hx => (hC.has x hx).1 (all_seen ar seen h0 x hx)⟩
        have h1 := hp.map (fun e => (e.key, e.val))
        rw [← hC.dn, HEQ.out] at h1
        exact (perm_back endV_inj h1).map _
      have hlen : (D.map (fun p : EndR × Int => (p.1.1, p.1.2.1, p.1.2.2.1, p.2))).length ≤ most := by rw [HF.out.length_eq, List.length_map]; exact HCS.out
      have HS := hidE (hsort wr _ (w.heap.size + 1) _ (by have := (Array.getElem?_eq_some_iff.1 hC.it).1; omega) hlen hC.row)
      have HBW := hidE hC.bw
      clear hC HC hb2 h0 hlen
      go_wp2_with (go_at_call 125; refine HS.out.mono ?_; rintro e W3 ⟨rfl, ys, y1, y2, y3, y4⟩; have HY := hidE (And.intro y1 (And.intro y2 (And.intro y3 y4))); clear y1 y2 y3 y4)
      go_ret
      obtain ⟨y1, y2, y3, y4⟩ := HY.out
      exact ⟨_, ys, rfl, y1.trans HF.out, y2, y3.base (by omega), HBW.out.trans (y4.mono (by omega))⟩
    · obtain ⟨hxm, hxs⟩ := mem_left hx
      obtain ⟨⟨⟨s, t, p, q⟩, z⟩, hpc, ek, ev⟩ := HENT.out x hxm
      simp only [endV] at ek ev
      obtain ⟨U, hU⟩ : ∃ V, Go.ChangeMaps.setBlock w1 w.heap.size (.mapIter (some b) clock (seen.push x.born) clock) = V := ⟨_, rfl⟩
      rw [hU, ek, ev] at hnx
      have hit1 : w1.heap[w.heap.size]? = some (.mapIter (some b) clock seen c0) := by rcases hw1 with rfl | rfl <;> exact hC.it
      have hset := MapKept.heap_set (o' := .mapIter (some b) clock (seen.push x.born) clock) hit1
      have hVo : ∀ q, q ≠ w.heap.size → U.heap[q]? = wr.heap[q]? := fun q hq => by
        rw [← hU]
        have : w1.heap[q]? = wr.heap[q]? := by rcases hw1 with rfl | rfl <;> rfl
        exact (hset.2 q hq).trans this
      have hVs : U.heap.size = wr.heap.size := by
        rw [← hU]
        have : w1.heap.size = wr.heap.size := by rcases hw1 with rfl | rfl <;> rfl
        simp [Go.ChangeMaps.setBlock, this]
      have hVi : U.heap[w.heap.size]? = some (.mapIter (some b) clock (seen.push x.born) clock) := by rw [← hU]; exact hset.1
      have hVt : U.os = wr.os ∧ U.tape = wr.tape ∧ U.output = wr.output := by
        rw [← hU]
        rcases hw1 with rfl | rfl <;> exact ⟨rfl, rfl, rfl⟩
      have hbV : Below w.heap.size w U := ⟨hVt.1.trans hC.bw.os, hVt.2.1.trans hC.bw.tape, hVt.2.2.trans hC.bw.output, by rw [hVs]; exact hC.bw.size, fun q hq => (hVo q (by omega)).trans (hC.bw.block q hq)⟩
      have hen := run_entry_at (P := Tryz.prog) U w.heap.size b clock seen ar clock x hVi ((hbV.block b hbl).trans HB.out) hxm HST.out.2.1
      rw [ek, ev] at hen
      have hor : ORow 64 4 endC (w.heap.size + 1) U _ (D.map (fun p : EndR × Int => (p.1.1, p.1.2.1, p.1.2.2.1, p.2))) := hC.row.keep fun g hg _ => hVo g (by omega)
      have hmeas : (leftOf ar (seen.push x.born)).size < (leftOf ar seen).size := left_shrinks ar seen x hx
      have hmeas2 : wr.rangeLeft b w.heap.size = (leftOf ar seen).size := by simp only [World.rangeLeft, hb2, hC.it]
      have hszr : w.heap.size < U.heap.size := (Array.getElem?_eq_some_iff.1 hVi).1
      have hdl : D.length ≤ most := by
        have h1 := congrArg List.length hC.dn
        simp only [List.length_map] at h1
        rw [h1]; exact HLEN.out done hC.nd hC.sub
      have HA : Hid (Below U.heap.size U (U.alloc (.cells #[.string s, .string t, .bool p, .int .i64 q] 64))) := (Below.refl _ _).alloc (Nat.le_refl _) _
      have HU := hidE (And.intro hVi (And.intro hbV (And.intro hor (And.intro hszr hdl))))
      have HX := hidE (And.intro hxm (And.intro hxs (And.intro ek ev)))
      have HM := hidE (And.intro hmeas hmeas2)
      clear hC hb2 hU hit1 hset hVo hVs hVi hVt hbV hxm hxs ek ev hx hw1 hmeas hmeas2 hpc hor hszr hdl
      go_wp2_with (first
        | (go_at_call 91; refine (f91_any s t p q z _).mono ?_; rintro e W2 ⟨rfl, hb2⟩
           obtain ⟨v6, W6, p1, p2, p3, p4⟩ := append_one (ty := 30) (c := 1) (bl := W2.heap.size) (off := 0) (x := (s, t, p, z)) elem30 (fun x => rfl) one_end (((HU.out.2.2.1.below HA.out).below hb2).below ((Below.refl _ _).alloc (Nat.le_refl _) (.cells #[.string s, .string t, .bool p, .int .i64 z] 64))) (fun jj u hu => by
             rw [Nat.zero_add]
             exact cell_new _ _ _ _ _ (by simpa [endC] using hu)) (by rw [List.length_map]; have := HU.out.2.2.2.2; omega) (by have h1 := HU.out.2.2.2.1; have h2 := HA.out.size; have h3 := hb2.size; simp; omega)
           have HP := hidE (And.intro p2 (And.intro p3 hb2))
           clear p2 p3 p4 hb2)
        | (at_builtin; refine Lib.wpList_append_run _ rfl _ _ _ _ rfl _ _ rfl rfl _ _ p1 ?_))
      have HNEW : Hid (Rowing92 w ar clock b w.heap.size W6 v6 (seen.push x.born) clock (done ++ [x]) (D ++ [((s, t, p, q), z)])) := by
        obtain ⟨p2, p3, hb2⟩ := HP.out
        obtain ⟨u1, u2, u3, u4, u5⟩ := HU.out
        have hbig : Below (w.heap.size + 1) U W6 := (((HA.out.mono (by omega)).trans (hb2.mono (by have := HA.out.size; omega))).trans (((Below.refl _ _).alloc (Nat.le_refl _) _ : Below W2.heap.size W2 (W2.alloc (.cells #[.string s, .string t, .bool p, .int .i64 z] 64))).mono (by have := HA.out.size; have := hb2.size; omega))).trans p3
        refine ⟨(hbig.block _ (by omega)).trans u1, Nat.le_refl _, u2.trans (hbig.mono (by omega)), ?_, ?_, ?_, ?_, ?_⟩
        · rw [List.map_append]; exact p2
        · rw [List.map_append, List.map_append, HC.out.dn]
          simp [endV, HX.out.2.2.1, HX.out.2.2.2]
        · refine List.nodup_append.2 ⟨HC.out.nd, by simp, fun a ha c hc => ?_⟩
          simp only [List.mem_singleton] at hc
          subst hc
          intro e
          subst e
          have := (HC.out.has _ HX.out.1).2 ha
          rw [HX.out.2.1] at this
          cases this
        · intro y hy
          rcases List.mem_append.1 hy with hy | hy
          · exact HC.out.sub y hy
          · rw [List.mem_singleton.1 hy]; exact HX.out.1
        · intro y hy
          rw [contains_push]
          simp only [Bool.or_eq_true, HC.out.has y hy, beq_iff_eq, List.mem_append, List.mem_singleton]
          constructor
          · rintro (h1 | h1)
            · exact .inl h1
            · exact .inr (HBORN.out y hy x HX.out.1 h1)
          · rintro (h1 | h1)
            · exact .inl h1
            · exact .inr (by rw [h1])
      go_roundw
      case rel => exact ⟨_, _, _, _, HNEW.out⟩
      case measure =>
        have h1 : W6.rangeLeft b w.heap.size = (leftOf ar (seen.push x.born)).size := by
          have hb4 : W6.heap[b]? = some (.map ar clock) := (HNEW.out.bw.block b hbl).trans HB.out
          simp only [World.rangeLeft, hb4, HNEW.out.it]
        rw [h1, HM.out.2]
        exact HM.out.1
end Go.Proofs.YthfilnflgahcjaaGreatDoor

namespace Go.Proofs.YthfilnflgahcjaaGreatDoor
open Go.RowKit Go.Shelf
set_option linter.unusedVariables false
set_option linter.unusedSimpArgs false
attribute [local go_sem] Oper.semAt_some
def ruL : List Value := [.func (.func 100) #[] #[], .func (.func 101) #[] #[], .func (.func 102) #[] #[], .func (.func 103) #[] #[], .func (.func 104) #[] #[], .func (.func 105) #[] #[]]
set_option maxRecDepth 100000 in
theorem rules_any (w : World) : Calls Tryz.prog 47 #[] w fun e w' => e = .returned (.slice (some ⟨w.heap.size, 0, none⟩) 6 6) ∧ Below w.heap.size w w' ∧ ∀ q v, ruL[q]? = some v → w'.cell? ⟨w.heap.size, q, none⟩ = some v := by
  go_enter Tryz.func47, Tryz.ntmps47
  go_wp2_with fail
  generalize hW1 : World.alloc _ _ = W1
  have HB1 : Hid (Below w.heap.size w W1) := by rw [← hW1]; exact (Below.refl _ _).alloc (Nat.le_refl _) _
  have HT : Hid (∀ q v, ruL[q]? = some v → W1.cell? ⟨w.heap.size, q, none⟩ = some v) := by
    intro q v hq
    rw [← hW1]
    refine cell_new _ _ _ _ _ ?_
    have : ruL.toArray[q]? = some v := by rw [List.getElem?_toArray, hq]
    exact this
  clear hW1
  go_ret
  exact ⟨rfl, HB1.out, HT.out⟩
end Go.Proofs.YthfilnflgahcjaaGreatDoor

