/- What was counted, in order. -/
import Derived.Test.YthfilnflgahcjaaGreatDoorJoin8
import Derived.Maps.RangeRun
import Derived.Test.YthfilnflgahcjaaGreatDoorJoin17
namespace Go.Proofs.YthfilnflgahcjaaGreatDoor
open Go.RowKit Go.Shelf Go.Maps
set_option linter.unusedVariables false
set_option linter.unusedSimpArgs false
attribute [local go_sem] Oper.semAt_some
set_option maxHeartbeats 1000000 in
theorem f91_any (s t : ByteArray) (p : Bool) (q z : Int) (w : World) : Calls Tryz.prog 91 #[.agg #[.string s, .string t, .bool p, .int .i64 q], .int .i64 z] w fun e w' => e = .returned (.agg #[.string s, .string t, .bool p, .int .i64 z]) ∧ Below w.heap.size w w' := by
  go_enter Tryz.func91, Tryz.ntmps91
  go_wp2
  refine bodyPost_ret (by simp [results, Tryz.results91, go_sem]) rfl ⟨rfl, ((Below.refl _ _).alloc (Nat.le_refl _) _).alloc (by simp) _⟩
structure Rowing92 (w : World) (ar : Array MapEntry) (clock b r : Nat) (wr : World) (v : Value) (seen : Array Nat) (c0 : Nat) (done : List MapEntry) (D : List ((EndR) × Int)) : Prop where
  it : wr.heap[r]? = some (.mapIter (some b) clock seen c0)
  cl : clock ≤ c0
  bw : Below w.heap.size w wr
  row : ORow 64 4 endC (r + 1) wr v (D.map (fun p : EndR × Int => (p.1.1, p.1.2.1, p.1.2.2.1, p.2)))
  dn : D.map (fun p => (endV p.1, Value.int .i64 p.2)) = done.map (fun e => (e.key, e.val))
  nd : done.Nodup
  sub : ∀ x ∈ done, x ∈ ar.toList
  has : ∀ x ∈ ar.toList, seen.contains x.born = true ↔ x ∈ done
/-- A sort that does so. -/
def Sorts92 (le : EndR → EndR → Prop) (most : Nat) : Prop := ∀ (W : World) (v : Value) (base : Nat) (xs : List (EndR)), base ≤ W.heap.size → xs.length ≤ most → ORow 64 4 endC base W v xs → Calls Tryz.prog 125 #[v, .func (.func 93) #[] #[]] W fun e w' => e = .returned (.tuple #[]) ∧ ∃ ys, ys.Perm xs ∧ ys.Pairwise le ∧ ORow 64 4 endC base w' v ys ∧ Below base W w'
set_option maxRecDepth 100000 in
set_option maxHeartbeats 8000000 in
theorem rows92_any {le : EndR → EndR → Prop} {most : Nat} (hsort : Sorts92 le most) (hmost : most ≤ 100000) {w : World} {b : Nat} {cs : List ((EndR) × Int)} (h : MC endV okE w b cs) (hl : cs.length ≤ most) :
    Calls Tryz.prog 92 #[.map (some b), .func (.func 91) #[] #[], .func (.func 93) #[] #[]] w fun e w' => ∃ v L, e = .returned v ∧ L.Perm (cs.map (fun p : EndR × Int => (p.1.1, p.1.2.1, p.1.2.2.1, p.2))) ∧ L.Pairwise le ∧ ORow 64 4 endC w.heap.size w' v L ∧ Below w.heap.size w w' := by
  have hbl := MG.lt h
  obtain ⟨ar, clock, hb, hent, hoks, hst⟩ := h
  have hn : ar.size = cs.length := by have := congrArg List.length hent; simpa using this
  have HENT : Hid (∀ x ∈ ar.toList, ∃ p ∈ cs, x.key = endV p.1 ∧ x.val = .int .i64 p.2) := fun x hx => by
    have h1 : (x.key, x.val) ∈ ar.toList.map (fun e => (e.key, e.val)) := List.mem_map.2 ⟨x, hx, rfl⟩
    rw [hent] at h1
    obtain ⟨q, hq, e⟩ := List.mem_map.1 h1
    obtain ⟨p, hp, rfl⟩ := List.mem_map.1 hq
    obtain ⟨e1, e2⟩ := Prod.mk.inj e
    exact ⟨p, hp, e1.symm, e2.symm⟩
  have HEQ : Hid (ar.toList.map (fun e => (e.key, e.val)) = cs.map (fun p => (endV p.1, Value.int .i64 p.2))) := by
    show _ = _
    rw [hent, List.map_map]; rfl
  have HND : Hid (ar.toList.Nodup) := by
    have := hst.2.1
    rw [List.nodup_iff_pairwise_ne] at *
    exact (List.pairwise_map.1 this).imp fun h e => h (by rw [e])
  have HBORN : Hid (∀ x ∈ ar.toList, ∀ y ∈ ar.toList, x.born = y.born → x = y) := fun x hx y hy e => by
    obtain ⟨i, hi⟩ := List.getElem?_of_mem hx
    obtain ⟨j, hj⟩ := List.getElem?_of_mem hy
    have := (List.getElem?_inj (l := ar.toList.map (·.born)) (by simpa using (List.getElem?_eq_some_iff.1 hi).1) hst.2.1 (i := i) (j := j)).1 (by rw [List.getElem?_map, List.getElem?_map, hi, hj, Option.map_some, Option.map_some, e])
    subst this
    rw [hi] at hj
    exact Option.some.inj hj
  have HLEN : Hid (∀ done : List MapEntry, done.Nodup → (∀ x ∈ done, x ∈ ar.toList) → done.length ≤ most) := fun done h1 h2 => by
    have := nodup_len h1 h2
    simp only [Array.length_toList] at this
    omega
  have HST := hidE hst
  have HB := hidE hb
  have HCS := hidE hl
  clear hent hoks hst hn hb hl
  go_enter Tryz.func92, Tryz.ntmps92
  have hrg := run_range_map (P := Tryz.prog) w 143 64 2 b ar clock (by kernel_rfl) HB.out
  go_wp2_with fail
  go_loopw [7] (fun v wr => ∃ seen c0 done D, Rowing92 w ar clock b w.heap.size wr v seen c0 done D) (fun _ wr => wr.rangeLeft b w.heap.size)
  case atStart =>
    exact ⟨#[], clock, [], [], World.alloc_heap_new _ _, Nat.le_refl _, (Below.refl _ _).alloc (Nat.le_refl _) _, orow_nil _ _ _ _ _, rfl, List.nodup_nil, fun x hx => by simp at hx, fun x hx => by simp⟩
  case round =>
    obtain ⟨seen, c0, done, D, hC⟩ := hrel
    have HC := hidE hC
    have hb2 : wr.heap[b]? = some (.map ar clock) := (hC.bw.block b hbl).trans HB.out
    rcases run_next_at (P := Tryz.prog) wr 0 w.heap.size b clock c0 seen ar clock hC.it hb2 HST.out.1 hC.cl with ⟨h0, hnx⟩ | ⟨x, hx, w1, hw1, hnx⟩
    · have HF : Hid ((D.map (fun p : EndR × Int => (p.1.1, p.1.2.1, p.1.2.2.1, p.2))).Perm (cs.map (fun p : EndR × Int => (p.1.1, p.1.2.1, p.1.2.2.1, p.2)))) := by
        have hp : done.Perm ar.toList := (List.perm_ext_iff_of_nodup hC.nd HND.out).2 fun x => ⟨hC.sub x, fun hx => (hC.has x hx).1 (all_seen ar seen h0 x hx)⟩
        have h1 := hp.map (fun e => (e.key, e.val))
        rw [← hC.dn, HEQ.out] at h1
        exact (perm_back endV_inj h1).map _
      have hlen : (D.map (fun p : EndR × Int => (p.1.1, p.1.2.1, p.1.2.2.1, p.2))).length ≤ most := by rw [HF.out.length_eq, List.length_map]; exact HCS.out
      have HS := hidE (hsort wr _ (w.heap.size + 1) _ (by have := (Array.getElem?_eq_some_iff.1 hC.it).1; omega) hlen hC.row)
      have HBW := hidE hC.bw
      clear hC HC hb2 h0 hlen
      go_wp2_with (go_at_call 125; refine HS.out.mono ?_; rintro e W3 ⟨rfl, ys, y1, y2, y3, y4⟩; have HY := hidE (And.intro y1 (And.intro y2 (And.intro y3 y4))); clear y1 y2 y3 y4)
      go_ret
      obtain ⟨y1, y2, y3, y4⟩ := HY.out
      exact ⟨_, ys, rfl, y1.trans HF.out, y2, y3.base (by omega), HBW.out.trans (y4.mono (by omega))⟩
    · obtain ⟨hxm, hxs⟩ := mem_left hx
      obtain ⟨⟨⟨s, t, p, q⟩, z⟩, hpc, ek, ev⟩ := HENT.out x hxm
      simp only [endV] at ek ev
      obtain ⟨U, hU⟩ : ∃ V, Go.ChangeMaps.setBlock w1 w.heap.size (.mapIter (some b) clock (seen.push x.born) clock) = V := ⟨_, rfl⟩
      rw [hU, ek, ev] at hnx
      have hit1 : w1.heap[w.heap.size]? = some (.mapIter (some b) clock seen c0) := by rcases hw1 with rfl | rfl <;> exact hC.it
      have hset := MapKept.heap_set (o' := .mapIter (some b) clock (seen.push x.born) clock) hit1
      have hVo : ∀ q, q ≠ w.heap.size → U.heap[q]? = wr.heap[q]? := fun q hq => by
        rw [← hU]
        have : w1.heap[q]? = wr.heap[q]? := by rcases hw1 with rfl | rfl <;> rfl
        exact (hset.2 q hq).trans this
      have hVs : U.heap.size = wr.heap.size := by
        rw [← hU]
        have : w1.heap.size = wr.heap.size := by rcases hw1 with rfl | rfl <;> rfl
        simp [Go.ChangeMaps.setBlock, this]
      have hVi : U.heap[w.heap.size]? = some (.mapIter (some b) clock (seen.push x.born) clock) := by rw [← hU]; exact hset.1
      have hVt : U.os = wr.os ∧ U.tape = wr.tape ∧ U.output = wr.output := by
        rw [← hU]
        rcases hw1 with rfl | rfl <;> exact ⟨rfl, rfl, rfl⟩
      have hbV : Below w.heap.size w U := ⟨hVt.1.trans hC.bw.os, hVt.2.1.trans hC.bw.tape, hVt.2.2.trans hC.bw.output, by rw [hVs]; exact hC.bw.size, fun q hq => (hVo q (by omega)).trans (hC.bw.block q hq)⟩
      have hen := run_entry_at (P := Tryz.prog) U w.heap.size b clock seen ar clock x hVi ((hbV.block b hbl).trans HB.out) hxm HST.out.2.1
      rw [ek, ev] at hen
      have hor : ORow 64 4 endC (w.heap.size + 1) U _ (D.map (fun p : EndR × Int => (p.1.1, p.1.2.1, p.1.2.2.1, p.2))) := hC.row.keep fun g hg _ => hVo g (by omega)
      have hmeas : (leftOf ar (seen.push x.born)).size < (leftOf ar seen).size := left_shrinks ar seen x hx
      have hmeas2 : wr.rangeLeft b w.heap.size = (leftOf ar seen).size := by simp only [World.rangeLeft, hb2, hC.it]
      have hszr : w.heap.size < U.heap.size := (Array.getElem?_eq_some_iff.1 hVi).1
      have hdl : D.length ≤ most := by
        have h1 := congrArg List.length hC.dn
        simp only [List.length_map] at h1
        rw [h1]; exact HLEN.out done hC.nd hC.sub
      have HA : Hid (Below U.heap.size U (U.alloc (.cells #[.string s, .string t, .bool p, .int .i64 q] 64))) := (Below.refl _ _).alloc (Nat.le_refl _) _
      have HU := hidE (And.intro hVi (And.intro hbV (And.intro hor (And.intro hszr hdl))))
      have HX := hidE (And.intro hxm (And.intro hxs (And.intro ek ev)))
      have HM := hidE (And.intro hmeas hmeas2)
      clear hC hb2 hU hit1 hset hVo hVs hVi hVt hbV hxm hxs ek ev hx hw1 hmeas hmeas2 hpc hor hszr hdl
      go_wp2_with (first
        | (go_at_call 91; refine (f91_any s t p q z _).mono ?_; rintro e W2 ⟨rfl, hb2⟩
           obtain ⟨v6, W6, p1, p2, p3, p4⟩ := append_one (ty := 30) (c := 1) (bl := W2.heap.size) (off := 0) (x := (s, t, p, z)) elem30 (fun x => rfl) one_end (((HU.out.2.2.1.below HA.out).below hb2).below ((Below.refl _ _).alloc (Nat.le_refl _) (.cells #[.string s, .string t, .bool p, .int .i64 z] 64))) (fun jj u hu => by
             rw [Nat.zero_add]
             exact cell_new _ _ _ _ _ (by simpa [endC] using hu)) (by rw [List.length_map]; have := HU.out.2.2.2.2; omega) (by have h1 := HU.out.2.2.2.1; have h2 := HA.out.size; have h3 := hb2.size; simp; omega)
           have HP := hidE (And.intro p2 (And.intro p3 hb2))
           clear p2 p3 p4 hb2)
        | (at_builtin; refine Lib.wpList_append_run _ rfl _ _ _ _ rfl _ _ rfl rfl _ _ p1 ?_))
      have HNEW : Hid (Rowing92 w ar clock b w.heap.size W6 v6 (seen.push x.born) clock (done ++ [x]) (D ++ [((s, t, p, q), z)])) := by
        obtain ⟨p2, p3, hb2⟩ := HP.out
        obtain ⟨u1, u2, u3, u4, u5⟩ := HU.out
        have hbig : Below (w.heap.size + 1) U W6 := (((HA.out.mono (by omega)).trans (hb2.mono (by have := HA.out.size; omega))).trans (((Below.refl _ _).alloc (Nat.le_refl _) _ : Below W2.heap.size W2 (W2.alloc (.cells #[.string s, .string t, .bool p, .int .i64 z] 64))).mono (by have := HA.out.size; have := hb2.size; omega))).trans p3
        refine ⟨(hbig.block _ (by omega)).trans u1, Nat.le_refl _, u2.trans (hbig.mono (by omega)), ?_, ?_, ?_, ?_, ?_⟩
        · rw [List.map_append]; exact p2
        · rw [List.map_append, List.map_append, HC.out.dn]
          simp [endV, HX.out.2.2.1, HX.out.2.2.2]
        · refine List.nodup_append.2 ⟨HC.out.nd, by simp, fun a ha c hc => ?_⟩
          simp only [List.mem_singleton] at hc
          subst hc
          intro e
          subst e
          have := (HC.out.has _ HX.out.1).2 ha
          rw [HX.out.2.1] at this
          cases this
        · intro y hy
          rcases List.mem_append.1 hy with hy | hy
          · exact HC.out.sub y hy
          · rw [List.mem_singleton.1 hy]; exact HX.out.1
        · intro y hy
          rw [contains_push]
          simp only [Bool.or_eq_true, HC.out.has y hy, beq_iff_eq, List.mem_append, List.mem_singleton]
          constructor
          · rintro (h1 | h1)
            · exact .inl h1
            · exact .inr (HBORN.out y hy x HX.out.1 h1)
          · rintro (h1 | h1)
            · exact .inl h1
            · exact .inr (by rw [h1])
      go_roundw
      case rel => exact ⟨_, _, _, _, HNEW.out⟩
      case measure =>
        have h1 : W6.rangeLeft b w.heap.size = (leftOf ar (seen.push x.born)).size := by
          have hb4 : W6.heap[b]? = some (.map ar clock) := (HNEW.out.bw.block b hbl).trans HB.out
          simp only [World.rangeLeft, hb4, HNEW.out.it]
        rw [h1, HM.out.2]
        exact HM.out.1
end Go.Proofs.YthfilnflgahcjaaGreatDoor
