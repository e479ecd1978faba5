/- StatsMoved's own walk. -/
import Derived.Test.YthfilnflgahcjaaGreatDoorJoin36
import Derived.Test.YthfilnflgahcjaaGreatDoorJoin35
import Derived.Test.YthfilnflgahcjaaGreatDoorPtxt
import Derived.Test.YthfilnflgahcjaaGreatDoorJoin12
import Derived.Test.YthfilnflgahcjaaGreatDoorJoin27
namespace Go.Proofs.YthfilnflgahcjaaGreatDoor
open Go.RowKit Go.Shelf Go.Maps
set_option linter.unusedVariables false
set_option linter.unusedSimpArgs false
attribute [local go_sem] Oper.semAt_some
/-- In the midst of the copying. -/
structure MvI (X : Nat) (nn nr : Int) (v v2 : Value) (xs : List NodX) (ys : List RelX) (W5 wr : World) : Prop where
  r : Rec wr X #[v, v2, .int .i64 nn, .int .i64 nr] 25
  o : ORow 73 3 nodC (X + 1) wr v xs
  o2 : ORow 71 5 relC (X + 1) wr v2 ys
  b : Below X W5 wr
  z : X + 1 ≤ wr.heap.size
/-- In the midst of the second copying. -/
structure MvJ (X Y : Nat) (nn nr : Int) (v v2 : Value) (ys : List RelX) (wr w2 : World) : Prop where
  r : Rec w2 X #[v, v2, .int .i64 nn, .int .i64 nr] 25
  o2 : ORow 71 5 relC Y w2 v2 ys
  f : ∀ q, q ≠ X → q < Y → w2.heap[q]? = wr.heap[q]?
  b : Below X wr w2
  z : Y ≤ w2.heap.size
set_option maxRecDepth 100000 in
set_option maxHeartbeats 16000000 in
theorem moved_law (g : GraphP) (by' : Int) (v : Value) (B : Nat) (w : World) (hB : B ≤ w.heap.size) (hE : Env2 w) (h : GraphLies B w v g) (hz : LentG g) (hby : W64 by') :
    Calls Tryz.prog 7 #[v, .int .i64 by'] w fun e w' => e = .returned (.bool true) ∧ Below w.heap.size w w' := by
  have HE := hidE hE
  have HG := hidE h
  have HZ := hidE hz
  have hby2 := w64_range hby
  obtain ⟨na, nc, ra, rc, rfl, hn, hr⟩ := h
  have HN := hidE hn
  have HR := hidE hr
  have hnn := w64_range hz.nn
  have hnr := w64_range hz.nr
  obtain ⟨m, hm⟩ : ∃ n, g.nodes.length = n := ⟨_, rfl⟩
  obtain ⟨m2, hm2⟩ : ∃ n, g.rels.length = n := ⟨_, rfl⟩
  obtain ⟨nn, hnne⟩ : ∃ n, g.nn = n := ⟨_, rfl⟩
  obtain ⟨nr, hnre⟩ : ∃ n, g.nr = n := ⟨_, rfl⟩
  have HM := hidE (And.intro hm (And.intro hm2 (And.intro hnne hnre)))
  obtain ⟨sm, hsm⟩ : ∃ b, smallG g = b := ⟨_, rfl⟩
  have HSM := hidE hsm
  have H9 : Hid (∀ W, Below w.heap.size w W → Calls Tryz.prog 9 #[.agg #[.slice na m nc, .slice ra m2 rc, .int .i64 nn, .int .i64 nr]] W fun e w' => e = .returned (.bool sm) ∧ Below W.heap.size W w') := fun W hb => by
    rw [← hsm, ← hm, ← hm2, ← hnne, ← hnre]
    exact smallG_any g _ B W (Nat.le_trans hB hb.size) (HG.out.below (hb.mono hB)) HZ.out.sane
  have H13 : Hid (smallG g = true → ∀ W, Below w.heap.size w W → Calls Tryz.prog 13 #[.agg #[.slice na m nc, .slice ra m2 rc, .int .i64 nn, .int .i64 nr]] W fun e w' => e = .returned (.int .i64 (if checkPB g = true then 0 else 2)) ∧ Below W.heap.size W w') := fun hs W hb => by
    rw [← hm, ← hm2, ← hnne, ← hnre]
    exact checkP_any g B _ W (Nat.le_trans hB hb.size) (HE.out.e.below hb HE.out.e.room) (HG.out.below (hb.mono hB)) (small_mild hs) (w64_range HZ.out.nn) (w64_range HZ.out.nr) (fun r hr => (HZ.out.r r hr).1.2)
  have HWK : Hid (∀ W, Below w.heap.size w W → Calls Tryz.prog 10 #[] W fun e w' => e = .returned (.bool true) ∧ Below W.heap.size W w') := fun W hb => works_any W (HE.out.e.below hb HE.out.e.room)
  rw [hm] at HG HN ⊢
  rw [hm2] at HG HR ⊢
  rw [hnne] at HG hnn ⊢
  rw [hnre] at HG hnr ⊢
  clear hn hr hE hz hby hsm hm hm2 hnne hnre
  obtain ⟨W1, hW1⟩ : ∃ W1, w.alloc (.cells #[.slice na m nc, .slice ra m2 rc, .int .i64 nn, .int .i64 nr] 25) = W1 := ⟨_, rfl⟩
  have r1 : Rec W1 w.heap.size #[.slice na m nc, .slice ra m2 rc, .int .i64 nn, .int .i64 nr] 25 := by rw [← hW1]; exact rec_new _ _ _
  have b1 : Below w.heap.size w W1 := by rw [← hW1]; exact (Below.refl _ _).alloc (Nat.le_refl _) _
  have HW1 := hidE hW1
  have HR1 := hidE r1
  have HB1 := hidE b1
  clear hW1 b1
  have c0 := r1.cell 0 rfl
  have c1 := r1.cell 1 rfl
  have c2 := r1.cell 2 rfl
  have c3 := r1.cell 3 rfl
  clear r1
  go_enter Tryz.func7, Tryz.ntmps7
  go_upto_region 1 with fail
  try rw [HW1.out]
  go_wp2_with fail
  refine (H9.out _ HB1.out).mono ?_
  rintro e W2 ⟨rfl, hb2⟩
  have HB2 := hidE (Below.on HB1.out hb2)
  have HR2 := hidE (HR1.out.below hb2 HR1.out.lt)
  clear hb2 c0 c1 c2 c3
  cases sm with
  | false =>
    go_wp2_with (go_at_call 10; refine (HWK.out _ HB2.out).mono ?_; rintro e W4 ⟨rfl, y1⟩; have HY := hidE (Below.on HB2.out y1); clear y1)
    go_ret
    exact ⟨rfl, HY.out⟩
  | true =>
    have c0 := HR2.out.cell 0 rfl
    have c1 := HR2.out.cell 1 rfl
    have c2 := HR2.out.cell 2 rfl
    have c3 := HR2.out.cell 3 rfl
    go_wp2_with fail
    refine (H13.out HSM.out _ HB2.out).mono ?_
    rintro e W3 ⟨rfl, hb3⟩
    have HB3 := hidE (Below.on HB2.out hb3)
    have HR3 := hidE (HR2.out.below hb3 HR2.out.lt)
    clear hb3 c0 c1 c2 c3 HB2 HR2
    obtain ⟨ck, hck⟩ : ∃ b, checkPB g = b := ⟨_, rfl⟩
    have HCK := hidE hck
    rw [hck]; clear hck
    cases ck with
    | false =>
      go_wp2_with (first | (go_at_call 12; refine (num_any _ _).mono ?_; rintro e _ ⟨rfl, rfl⟩) | (go_at_call 10; refine (HWK.out _ HB3.out).mono ?_; rintro e W4 ⟨rfl, y1⟩; have HY := hidE (Below.on HB3.out y1); clear y1))
      go_ret
      exact ⟨rfl, HY.out⟩
    | true =>
      have hnums := check_nums HCK.out
      have HNUM := hidE hnums
      have hn0 : 0 ≤ nn ∧ nn ≤ 4611686018427387904 := by have h1 := hnums.2.2.1; have h2 := HM.out.2.2.1; rw [h2] at h1; exact h1
      have hr0 : 0 ≤ nr ∧ nr ≤ 4611686018427387904 := by have h1 := hnums.2.2.2; have h2 := HM.out.2.2.2; rw [h2] at h1; exact h1
      clear hnums
      have c2 := HR3.out.cell 2 rfl
      have c3 := HR3.out.cell 3 rfl
      by_cases k1 : by' < 0
      · go_wp2_with (first | (go_at_call 12; refine (num_any _ _).mono ?_; rintro e _ ⟨rfl, rfl⟩) | (go_at_call 10; refine (HWK.out _ HB3.out).mono ?_; rintro e W4 ⟨rfl, y1⟩; have HY := hidE (Below.on HB3.out y1); clear y1))
        go_ret
        exact ⟨rfl, HY.out⟩
      · by_cases k2 : (1099511627776 : Int) < by'
        · go_wp2_with (first | (go_at_call 12; refine (num_any _ _).mono ?_; rintro e _ ⟨rfl, rfl⟩) | (go_at_call 10; refine (HWK.out _ HB3.out).mono ?_; rintro e W4 ⟨rfl, y1⟩; have HY := hidE (Below.on HB3.out y1); clear y1))
          go_ret
          exact ⟨rfl, HY.out⟩
        · by_cases k3 : (1152921504606846976 : Int) < nn
          · go_wp2_with (first | (go_at_call 12; refine (num_any _ _).mono ?_; rintro e _ ⟨rfl, rfl⟩) | (go_at_call 10; refine (HWK.out _ HB3.out).mono ?_; rintro e W4 ⟨rfl, y1⟩; have HY := hidE (Below.on HB3.out y1); clear y1))
            go_ret
            exact ⟨rfl, HY.out⟩
          · by_cases k4 : (1152921504606846976 : Int) < nr
            · go_wp2_with (first | (go_at_call 12; refine (num_any _ _).mono ?_; rintro e _ ⟨rfl, rfl⟩) | (go_at_call 10; refine (HWK.out _ HB3.out).mono ?_; rintro e W4 ⟨rfl, y1⟩; have HY := hidE (Below.on HB3.out y1); clear y1))
              go_ret
              exact ⟨rfl, HY.out⟩
            · go_upto_region 4 with (first | (go_at_call 12; refine (num_any _ _).mono ?_; rintro e W4 ⟨rfl, rfl⟩))
              obtain ⟨W5, hW5⟩ : ∃ W, W4.alloc (.cells #[.slice none 0 0, .slice none 0 0, .int .i64 (nn + by'), .int .i64 (nr + by')] 25) = W := ⟨_, rfl⟩
              have r5 : Rec W5 W4.heap.size #[.slice none 0 0, .slice none 0 0, .int .i64 (nn + by'), .int .i64 (nr + by')] 25 := by rw [← hW5]; exact rec_new _ _ _
              have b5 : Below W4.heap.size W4 W5 := by rw [← hW5]; exact below_new _ _
              have z5 : W5.heap.size = W4.heap.size + 1 := by rw [← hW5]; simp
              have HRG := hidE (HR3.out.below b5 HR3.out.lt)
              have HB5 := hidE (Below.on HB3.out b5)
              have hgx : w.heap.size < W4.heap.size := HR3.out.lt
              rw [hW5]
              obtain ⟨X, hX⟩ : ∃ X, W4.heap.size = X := ⟨_, rfl⟩
              rw [hX] at r5 z5 hgx ⊢
              have HZ5 := hidE (And.intro z5 hgx)
              have HR5 := hidE r5
              obtain ⟨xs, hxl, hxi, hxs⟩ := nodes_x HN.out
              obtain ⟨ys, hyl, hyi, hys⟩ := rels_x HR.out
              obtain ⟨xa, xc, hxe, hx1, hx2, hx3⟩ := hxs
              obtain ⟨ya, yc, hye, hy1, hy2, hy3⟩ := hys
              obtain ⟨rfl, rfl, rfl⟩ : na = xa ∧ m = xs.length ∧ nc = xc := by injection hxe with a b c; exact ⟨a, b, c⟩
              obtain ⟨rfl, rfl, rfl⟩ : ra = ya ∧ m2 = ys.length ∧ rc = yc := by injection hye with a b c; exact ⟨a, b, c⟩
              have HX3 := hidE hx3
              have HY3 := hidE hy3
              have HXI := hidE (And.intro hxl hxi)
              have HYI := hidE (And.intro hyl hyi)
              obtain ⟨m, hm⟩ : ∃ n, xs.length = n := ⟨_, rfl⟩
              obtain ⟨m2, hm2⟩ : ∃ n, ys.length = n := ⟨_, rfl⟩
              have HML := hidE (And.intro hm hm2)
              have hml : m ≤ 100 := by have h1 := (small_weighs HSM.out).1; omega
              have hml2 : m2 ≤ 100 := by have h1 := (small_weighs HSM.out).1; omega
              rw [hm] at HG HN HRG HR3 hx1 ⊢
              rw [hm2] at HG HR HRG HR3 hy1 ⊢
              clear hW5 r5 b5 z5 hX hxe hye hx3 hy3 hxl hxi hyl hyi hm hm2 H9 H13 HB3 HR3 HB1 HW1 HR1 c2 c3 hgx
              go_wp2_with fail
              go_loopw [6] (fun i wr => ∃ (j : Nat) (a : Option Addr) (c : Nat), j ≤ m ∧ i = .int .i64 j ∧ MvI X (nn + by') (nr + by') (.slice a j c) (.slice none 0 0) ((xs.take j).map (movNX by')) [] W5 wr) (fun i _ => m - (intOf i).toNat)
              case atStart => exact ⟨0, none, 0, Nat.zero_le _, rfl, HR5.out, orow_nil _ _ _ _ _, orow_nil _ _ _ _ _, Below.refl _ _, by have := HZ5.out.1; omega⟩
              case round =>
                obtain ⟨j, va, vc, hj, rfl, hI⟩ := hrel
                have HI := hidE hI
                have HRGr := hidE (HRG.out.below hI.b HZ5.out.2)
                have HBr : Hid (Below w.heap.size w wr) := HB5.out.trans (HI.out.b.mono (Nat.le_of_lt HZ5.out.2))
                have c0 := HRGr.out.cell 0 rfl
                by_cases hlt : j < m
                · have hlt' : (j : Int) < m := by omega
                  have hjx : j < xs.length := by have := HML.out.1; omega
                  have hjn : j < g.nodes.length := by have := HXI.out.1; omega
                  obtain ⟨n, hn⟩ : ∃ n, g.nodes[j]? = some n := ⟨_, List.getElem?_eq_getElem hjn⟩
                  obtain ⟨⟨xi, ⟨la, ln, lc⟩, ⟨pa, pn, pc⟩⟩, hx⟩ : ∃ x, xs[j]? = some x := ⟨_, List.getElem?_eq_getElem hjx⟩
                  have hid : xi = n.id := (HXI.out.2 j n _ hn hx).1
                  have hnid := HNUM.out.1 n (List.mem_of_getElem? hn)
                  have hxi : 0 ≤ xi ∧ xi ≤ 1152921504606846976 := by have := HM.out.2.2.1; omega
                  obtain ⟨bl, off, rfl, hbl, hc⟩ := HX3.out.resolve_left (by intro e; rw [e] at hx; simp at hx)
                  have hbB : Below B w wr := HBr.out.mono hB
                  have d0 := (hbB.cell (p := ⟨bl, off + j * 3 + 0, none⟩) hbl).trans (hc j _ hx 0 _ rfl)
                  have d1 := (hbB.cell (p := ⟨bl, off + j * 3 + 1, none⟩) hbl).trans (hc j _ hx 1 _ rfl)
                  have d2 := (hbB.cell (p := ⟨bl, off + j * 3 + 2, none⟩) hbl).trans (hc j _ hx 2 _ rfl)
                  simp only [slV, Nat.add_zero] at d0 d1 d2
                  have HTK : Hid ((xs.take (j + 1)).map (movNX by') = (xs.take j).map (movNX by') ++ [(xi + by', (la, ln, lc), (pa, pn, pc))]) := by show _ = _; rw [List.take_add_one, hx, List.map_append]; rfl
                  have HTL : Hid (((xs.take j).map (movNX by')).length = j) := by show _ = _; rw [List.length_map, List.length_take]; omega
                  clear hjx hjn hn hx hid hnid hc hbB
                  go_upto_region 8 with fail
                  obtain ⟨W6, hW6⟩ : ∃ W, wr.alloc (.cells #[.int .i64 xi, .slice la ln lc, .slice pa pn pc] 73) = W := ⟨_, rfl⟩
                  have r6 : Rec W6 wr.heap.size #[.int .i64 xi, .slice la ln lc, .slice pa pn pc] 73 := by rw [← hW6]; exact rec_new _ _ _
                  have b6 : Below wr.heap.size wr W6 := by rw [← hW6]; exact below_new _ _
                  rw [hW6]
                  have q0 := r6.cell 0 rfl
                  have z0 := r6.z 0
                  have HP6 := hidE (put_set (put_refl r6) 0 (.int .i64 (xi + by')))
                  have HB6 := hidE b6
                  have HZ6 : Hid (W6.heap.size = wr.heap.size + 1) := by show _ = _; rw [← hW6]; simp
                  clear hW6 r6 b6 d0 d1 d2 c0
                  go_upto_region 9 with fail
                  have hp7 := HP6.out
                  obtain ⟨W7, hW7⟩ : ∃ W, W6.setCell ⟨wr.heap.size, 0, none⟩ (.int .i64 (xi + by')) = W := ⟨_, rfl⟩
                  rw [hW7] at hp7 ⊢
                  clear hW7 q0 z0 HP6
                  have b7 : Below wr.heap.size wr W7 := HB6.out.trans hp7.below
                  have hz7 : W7.heap.size = wr.heap.size + 1 := hp7.size.trans HZ6.out
                  have r7 := HI.out.r.below b7 HI.out.r.lt
                  have o7 := HI.out.o.below b7
                  obtain ⟨v', W', p1, p2, p3, _⟩ := append_one (t := 22) (ty := 22) (c := 1) (bl := W7.heap.size) (off := 0) (x := (xi + by', (la, ln, lc), (pa, pn, pc))) elem22 (fun _ => rfl) one_nod (o7.below (below_new W7 (.cells #[.int .i64 (xi + by'), .slice la ln lc, .slice pa pn pc] 73))) (fun jj u hu => by
                    rw [Nat.zero_add]; exact cell_new _ _ _ _ _ (by simpa [nodC, slV] using hu)) (by rw [HTL.out]; omega) (by have := HI.out.z; simp; omega)
                  have hln : ((xs.take j).map (movNX by') ++ [(xi + by', (la, ln, lc), (pa, pn, pc))]).length = j + 1 := by rw [List.length_append, HTL.out]; rfl
                  obtain ⟨a6, c6, hv6⟩ := p2.slice
                  rw [hln] at hv6
                  subst hv6
                  have q0 := hp7.r.cell 0 (v := .int .i64 (xi + by')) rfl
                  have q1 := hp7.r.cell 1 (v := .slice la ln lc) rfl
                  have q2 := hp7.r.cell 2 (v := .slice pa pn pc) rfl
                  have x0 := r7.cell 0 (v := .slice va j vc) rfl
                  have r8 := (r7.up (.cells #[.int .i64 (xi + by'), .slice la ln lc, .slice pa pn pc] 73)).below p3 (Nat.lt_succ_self X)
                  have y0 := r8.cell 0 (v := .slice va j vc) rfl
                  have fz := r8.z 0
                  have HPX := hidE (put_set (put_refl r8) 0 (.slice a6 (j + 1) c6))
                  have HP2 := hidE p2
                  have hXr : X < wr.heap.size := HI.out.r.lt
                  have HB8 : Hid (Below X wr W') := (b7.mono (Nat.le_of_lt hXr)).trans (((below_new W7 _).mono (by omega)).trans (p3.mono (Nat.le_succ X)))
                  have HZ8 : Hid (X + 1 ≤ W'.heap.size) := Nat.succ_le_of_lt r8.lt
                  clear p2 p3 r8 r7 o7 b7 hp7 hln hz7 HZ6 HB6 hXr
                  go_wp2_with (at_builtin; refine Lib.wpList_append_run _ rfl _ _ _ _ rfl _ _ rfl rfl _ _ p1 ?_)
                  go_roundw
                  case rel => exact ⟨j + 1, a6, c6, by omega, by go_num, HPX.out.r, by rw [HTK.out]; exact HP2.out.keep fun q hq _ => HPX.out.other q (by omega), orow_nil _ _ _ _ _, HI.out.b.trans (HB8.out.trans HPX.out.below), by rw [HPX.out.size]; exact HZ8.out⟩
                  case measure => simp [intOf]; omega
                · have hlt' : ¬ (j : Int) < m := by omega
                  have hA : ORow 73 3 nodC (X + 1) wr (.slice va j vc) (xs.map (movNX by')) := by
                    have := HI.out.o
                    rwa [List.take_of_length_le (by have := HML.out.1; omega)] at this
                  obtain ⟨Y, hY⟩ : ∃ Y, wr.heap.size = Y := ⟨_, rfl⟩
                  have HYY := hidE hY
                  have hXY : X < Y := by rw [← hY]; exact HI.out.r.lt
                  have HXY := hidE hXY
                  have HOA := hidE hA
                  have HRA := hidE HI.out.r
                  have HBA := hidE HI.out.b
                  have hzw : w.heap.size < X := HZ5.out.2
                  clear hY hA hXY hzw HI HX3
                  obtain ⟨WA, hWA⟩ : ∃ W, W = wr := ⟨_, rfl⟩
                  subst hWA
                  go_wp2_with fail
                  clear c0
                  go_loopw [8] (fun i w2 => ∃ (k : Nat) (a : Option Addr) (c : Nat), k ≤ m2 ∧ i = .int .i64 k ∧ MvJ X Y (nn + by') (nr + by') (.slice va j vc) (.slice a k c) ((ys.take k).map (movRX by')) WA w2) (fun i _ => m2 - (intOf i).toNat)
                  case atStart => exact ⟨0, none, 0, Nat.zero_le _, rfl, HRA.out, orow_nil _ _ _ _ _, fun _ _ _ => rfl, Below.refl _ _, Nat.le_of_eq HYY.out.symm⟩
                  case round =>
                    obtain ⟨k, ua, uc, hk, rfl, hJ⟩ := hrel
                    have HJ := hidE hJ
                    have HRG2 := hidE (HRGr.out.below hJ.b HZ5.out.2)
                    have HB2 : Hid (Below w.heap.size w wr) := HBr.out.trans (hJ.b.mono (Nat.le_of_lt HZ5.out.2))
                    have c1 := HRG2.out.cell 1 rfl
                    clear hJ
                    by_cases hlt2 : k < m2
                    · have hlt2' : (k : Int) < m2 := by omega
                      have hkx : k < ys.length := by have := HML.out.2; omega
                      have hkn : k < g.rels.length := by have := HYI.out.1; omega
                      obtain ⟨n, hn⟩ : ∃ n, g.rels[k]? = some n := ⟨_, List.getElem?_eq_getElem hkn⟩
                      obtain ⟨⟨yi, yf, yt, ty, ⟨pa, pn, pc⟩⟩, hy⟩ : ∃ y, ys[k]? = some y := ⟨_, List.getElem?_eq_getElem hkx⟩
                      have hid : yi = n.id ∧ yf = n.fr ∧ yt = n.tt ∧ ty = n.type := (HYI.out.2 k n _ hn hy).1
                      have hrid := HNUM.out.2.1 n (List.mem_of_getElem? hn)
                      have hyi : 0 ≤ yi ∧ yi ≤ 1152921504606846976 := by have := HM.out.2.2.2; omega
                      have hyf : 0 ≤ yf ∧ yf ≤ 1152921504606846976 := by have := HM.out.2.2.1; omega
                      have hyt : 0 ≤ yt ∧ yt ≤ 1152921504606846976 := by have := HM.out.2.2.1; omega
                      obtain ⟨bl, off, rfl, hbl, hc⟩ := HY3.out.resolve_left (by intro e; rw [e] at hy; simp at hy)
                      have hbB : Below B w wr := HB2.out.mono hB
                      have d0 := (hbB.cell (p := ⟨bl, off + k * 5 + 0, none⟩) hbl).trans (hc k _ hy 0 _ rfl)
                      have d1 := (hbB.cell (p := ⟨bl, off + k * 5 + 1, none⟩) hbl).trans (hc k _ hy 1 _ rfl)
                      have d2 := (hbB.cell (p := ⟨bl, off + k * 5 + 2, none⟩) hbl).trans (hc k _ hy 2 _ rfl)
                      have d3 := (hbB.cell (p := ⟨bl, off + k * 5 + 3, none⟩) hbl).trans (hc k _ hy 3 _ rfl)
                      have d4 := (hbB.cell (p := ⟨bl, off + k * 5 + 4, none⟩) hbl).trans (hc k _ hy 4 _ rfl)
                      simp only [slV, Nat.add_zero] at d0 d1 d2 d3 d4
                      have HTK : Hid ((ys.take (k + 1)).map (movRX by') = (ys.take k).map (movRX by') ++ [(yi + by', yf + by', yt + by', ty, (pa, pn, pc))]) := by show _ = _; rw [List.take_add_one, hy, List.map_append]; rfl
                      have HTL : Hid (((ys.take k).map (movRX by')).length = k) := by show _ = _; rw [List.length_map, List.length_take]; omega
                      clear hkx hkn hn hy hid hrid hc hbB
                      go_upto_region 14 with fail
                      obtain ⟨W6, hW6⟩ : ∃ W, wr.alloc (.cells #[.int .i64 yi, .int .i64 yf, .int .i64 yt, .string ty, .slice pa pn pc] 71) = W := ⟨_, rfl⟩
                      have r6 : Rec W6 wr.heap.size #[.int .i64 yi, .int .i64 yf, .int .i64 yt, .string ty, .slice pa pn pc] 71 := by rw [← hW6]; exact rec_new _ _ _
                      have b6 : Below wr.heap.size wr W6 := by rw [← hW6]; exact below_new _ _
                      rw [hW6]
                      have q0 := r6.cell 0 (v := .int .i64 yi) rfl
                      have q1 := r6.cell 1 (v := .int .i64 yf) rfl
                      have q2 := r6.cell 2 (v := .int .i64 yt) rfl
                      have z0 := r6.z 0
                      have z1 := (put_set (put_refl r6) 0 (.int .i64 (yi + by'))).r.z 1
                      have z2 := (put_set (put_set (put_refl r6) 0 (.int .i64 (yi + by'))) 1 (.int .i64 (yf + by'))).r.z 2
                      have HP6 := hidE (put_set (put_set (put_set (put_refl r6) 0 (.int .i64 (yi + by'))) 1 (.int .i64 (yf + by'))) 2 (.int .i64 (yt + by')))
                      have HB6 := hidE b6
                      have HZ6 : Hid (W6.heap.size = wr.heap.size + 1) := by show _ = _; rw [← hW6]; simp
                      clear hW6 r6 b6 d0 d1 d2 d3 d4 c1
                      go_upto_region 15 with fail
                      have hp7 := HP6.out
                      obtain ⟨W7, hW7⟩ : ∃ W, ((W6.setCell ⟨wr.heap.size, 0, none⟩ (.int .i64 (yi + by'))).setCell ⟨wr.heap.size, 1, none⟩ (.int .i64 (yf + by'))).setCell ⟨wr.heap.size, 2, none⟩ (.int .i64 (yt + by')) = W := ⟨_, rfl⟩
                      rw [hW7] at hp7 ⊢
                      clear hW7 q0 q1 q2 z0 z1 z2 HP6
                      have b7 : Below wr.heap.size wr W7 := HB6.out.trans hp7.below
                      have hz7 : W7.heap.size = wr.heap.size + 1 := hp7.size.trans HZ6.out
                      have r7 := HJ.out.r.below b7 HJ.out.r.lt
                      have o7 := HJ.out.o2.below b7
                      obtain ⟨v', W', p1, p2, p3, _⟩ := append_one (t := 23) (ty := 23) (c := 1) (bl := W7.heap.size) (off := 0) (x := (yi + by', yf + by', yt + by', ty, (pa, pn, pc))) elem23 (fun _ => rfl) one_rel (o7.below (below_new W7 (.cells #[.int .i64 (yi + by'), .int .i64 (yf + by'), .int .i64 (yt + by'), .string ty, .slice pa pn pc] 71))) (fun jj u hu => by
                        rw [Nat.zero_add]; exact cell_new _ _ _ _ _ (by simpa [relC, slV] using hu)) (by rw [HTL.out]; omega) (by have := HJ.out.z; simp; omega)
                      have hln : ((ys.take k).map (movRX by') ++ [(yi + by', yf + by', yt + by', ty, (pa, pn, pc))]).length = k + 1 := by rw [List.length_append, HTL.out]; rfl
                      obtain ⟨a6, c6, hv6⟩ := p2.slice
                      rw [hln] at hv6
                      subst hv6
                      have q0 := hp7.r.cell 0 (v := .int .i64 (yi + by')) rfl
                      have q1 := hp7.r.cell 1 (v := .int .i64 (yf + by')) rfl
                      have q2 := hp7.r.cell 2 (v := .int .i64 (yt + by')) rfl
                      have q3 := hp7.r.cell 3 (v := .string ty) rfl
                      have q4 := hp7.r.cell 4 (v := .slice pa pn pc) rfl
                      have x1 := r7.cell 1 (v := .slice ua k uc) rfl
                      have r8 := (r7.up (.cells #[.int .i64 (yi + by'), .int .i64 (yf + by'), .int .i64 (yt + by'), .string ty, .slice pa pn pc] 71)).below p3 HXY.out
                      have y1 := r8.cell 1 (v := .slice ua k uc) rfl
                      have fz := r8.z 1
                      have HPX := hidE (put_set (put_refl r8) 1 (.slice a6 (k + 1) c6))
                      have HP2 := hidE p2
                      have hYw : Y ≤ wr.heap.size := HJ.out.z
                      have hF : ∀ q, q ≠ X → q < Y → W'.heap[q]? = wr.heap[q]? := fun q h1 h2 => (p3.block q h2).trans (((below_new W7 _).block q (by omega)).trans (b7.block q (by omega)))
                      have HF : Hid (∀ q, q ≠ X → q < Y → W'.heap[q]? = WA.heap[q]?) := fun q h1 h2 => (hF q h1 h2).trans (HJ.out.f q h1 h2)
                      have HB8 : Hid (Below X wr W') := (b7.mono (Nat.le_trans (Nat.le_of_lt HXY.out) hYw)).trans (((below_new W7 _).mono (by have := HXY.out; omega)).trans (p3.mono (Nat.le_of_lt HXY.out)))
                      have HZ8 : Hid (Y ≤ W'.heap.size) := Nat.le_trans (by rw [show (W7.alloc (.cells #[.int .i64 (yi + by'), .int .i64 (yf + by'), .int .i64 (yt + by'), .string ty, .slice pa pn pc] 71)).heap.size = W7.heap.size + 1 by simp]; omega) p3.size
                      clear p2 p3 r8 r7 o7 b7 hp7 hln hz7 HZ6 HB6 hYw hF
                      go_wp2_with (at_builtin; refine Lib.wpList_append_run _ rfl _ _ _ _ rfl _ _ rfl rfl _ _ p1 ?_)
                      go_roundw
                      case rel => exact ⟨k + 1, a6, c6, by omega, by go_num, HPX.out.r, by rw [HTK.out]; exact HP2.out.keep fun q hq _ => HPX.out.other q (by have := HXY.out; omega), fun q h1 h2 => (HPX.out.other q h1).trans (HF.out q h1 h2), HJ.out.b.trans (HB8.out.trans HPX.out.below), by rw [HPX.out.size]; exact HZ8.out⟩
                      case measure => simp [intOf]; omega
                    · have hlt2' : ¬ (k : Int) < m2 := by omega
                      have HGM : Hid (GraphLies wr.heap.size wr (.agg #[.slice va j vc, .slice ua k uc, .int .i64 (nn + by'), .int .i64 (nr + by')]) (movG by' g)) := by
                        have e1 : (g.nodes.map (movN by')).length = j := by rw [List.length_map]; have := HXI.out.1; have := HML.out.1; omega
                        have e2 : (g.rels.map (movR by')).length = k := by rw [List.length_map]; have := HYI.out.1; have := HML.out.2; omega
                        have hbB : Below B w wr := HB2.out.mono hB
                        have hle : B ≤ wr.heap.size := Nat.le_trans hB HB2.out.size
                        have a1 := moved_nodes (b := by') hle hbB HXI.out.1 HXI.out.2 (ORow.srow (fun _ => rfl) (HOA.out.keep fun q hq hl => HJ.out.f q (by omega) (by rw [← HYY.out]; exact hl)))
                        have o2 := HJ.out.o2
                        rw [List.take_of_length_le (by have := HML.out.2; omega)] at o2
                        have a2 := moved_rels (b := by') hle hbB HYI.out.1 HYI.out.2 (ORow.srow (fun _ => rfl) o2)
                        have a3 := HM.out.2.2
                        refine ⟨va, vc, ua, uc, ?_, ?_, ?_⟩
                        · show _ = Value.agg #[.slice va (g.nodes.map (movN by')).length vc, .slice ua (g.rels.map (movR by')).length uc, .int .i64 (g.nn + by'), .int .i64 (g.nr + by')]
                          rw [e1, e2, a3.1, a3.2]
                        · show NodesLie _ _ (.slice va (g.nodes.map (movN by')).length vc) _
                          rw [e1]; exact a1
                        · show RelsLie _ _ (.slice ua (g.rels.map (movR by')).length uc) _
                          rw [e2]; exact a2
                      have hGM := HGM.out
                      have hfrg : ∀ r ∈ g.rels, W64 r.fr ∧ W64 r.tt := fun r hr => (HZ.out.r r hr).1.2
                      have hidg : ∀ n ∈ g.nodes, W64 n.id := fun n hn => (HZ.out.n n hn).1
                      have hfrm : ∀ r ∈ (movG by' g).rels, W64 r.fr ∧ W64 r.tt := fun r hr => by
                        obtain ⟨r0, hr0, rfl⟩ := List.mem_map.1 hr
                        have a := HNUM.out.2.1 r0 hr0
                        have b := HM.out.2.2.1
                        exact ⟨w64 (show _ ≤ r0.fr + by' by omega) (show r0.fr + by' ≤ _ by omega), w64 (show _ ≤ r0.tt + by' by omega) (show r0.tt + by' ≤ _ by omega)⟩
                      have hidm : ∀ n ∈ (movG by' g).nodes, W64 n.id := fun n hn => by
                        obtain ⟨n0, hn0, rfl⟩ := List.mem_map.1 hn
                        have a := HNUM.out.1 n0 hn0
                        have b := HM.out.2.2.1
                        exact w64 (show _ ≤ n0.id + by' by omega) (show n0.id + by' ≤ _ by omega)
                      have hsm2 : smallG (movG by' g) = true := by rw [mov_small]; exact HSM.out
                      have hck2 : checkPB (movG by' g) = true := mov_check (by omega) (by omega) (by have := HM.out.2.2.1; omega) (by have := HM.out.2.2.2; omega) HCK.out
                      have HFR := hidE (And.intro hfrg (And.intro hidg (And.intro hfrm (And.intro hidm (And.intro hsm2 hck2)))))
                      have H11g : Hid (Calls Tryz.prog 11 #[.agg #[.slice na m nc, .slice ra m2 rc, .int .i64 nn, .int .i64 nr]] wr fun e w' => ∃ s vl vt ve vk, e = .returned (.tuple #[statV s vl vt ve vk, .int .i64 0]) ∧ CntA g s ∧ CntL wr.heap.size w' vl vt ve vk s ∧ Below wr.heap.size wr w') :=
                        count_may g _ B wr (Nat.le_trans hB HB2.out.size) (HE.out.below HB2.out) (HG.out.below (HB2.out.mono hB)) HSM.out (w64_range HZ.out.nn) (w64_range HZ.out.nr) HCK.out hfrg hidg (fun n hn q hq => ((HZ.out.n n hn).2.2 q hq).2.1)
                      have H11m : Hid (∀ W, Below wr.heap.size wr W → Calls Tryz.prog 11 #[.agg #[.slice va j vc, .slice ua k uc, .int .i64 (nn + by'), .int .i64 (nr + by')]] W fun e w' => ∃ s vl vt ve vk, e = .returned (.tuple #[statV s vl vt ve vk, .int .i64 0]) ∧ CntA (movG by' g) s ∧ CntL W.heap.size w' vl vt ve vk s ∧ Below W.heap.size W w') := fun W hb =>
                        count_may (movG by' g) _ wr.heap.size W hb.size (HE.out.below (Below.on HB2.out hb)) (hGM.below hb) hsm2 (by have := HM.out.2.2.1; show _ ≤ g.nn + by' ∧ g.nn + by' ≤ _; omega) (by have := HM.out.2.2.2; show _ ≤ g.nr + by' ∧ g.nr + by' ≤ _; omega) hck2 hfrm hidm (fun n hn q hq => by
                          obtain ⟨n0, hn0, rfl⟩ := List.mem_map.1 hn
                          exact ((HZ.out.n n0 hn0).2.2 q hq).2.1)
                      have c0 := HRG2.out.cell 0 rfl
                      have c2 := HRG2.out.cell 2 rfl
                      have c3 := HRG2.out.cell 3 rfl
                      have HRX := hidE HJ.out.r
                      clear hGM hfrg hidg hfrm hidm hsm2 hck2 HJ HGM HOA HRA HBA HYY HXI HYI hlt hlt2
                      go_wp2_with fail
                      refine H11g.out.mono ?_
                      rintro e WB ⟨s, vl, vt, ve, vk, rfl, hci, hcl, hbb⟩
                      have hcb := may_b HSM.out HCK.out HFR.out.1 HFR.out.2.1 hci
                      have hst := cnt_lies hcb hcl
                      have HCI := hidE hci
                      have HCB := hidE hcb
                      obtain ⟨pla, plc, rfl⟩ := hcl.l.slice
                      obtain ⟨pta, ptc, rfl⟩ := hcl.t.slice
                      obtain ⟨pea, pec, rfl⟩ := hcl.e.slice
                      obtain ⟨pka, pkc, rfl⟩ := hcl.k.slice
                      obtain ⟨pn, hpn⟩ : ∃ n, s.nodes = n := ⟨_, rfl⟩
                      obtain ⟨pr, hpr⟩ : ∃ n, s.rels = n := ⟨_, rfl⟩
                      obtain ⟨plm, hplm⟩ : ∃ n, s.labels.length = n := ⟨_, rfl⟩
                      obtain ⟨ptm, hptm⟩ : ∃ n, s.types.length = n := ⟨_, rfl⟩
                      obtain ⟨pem, hpem⟩ : ∃ n, s.ends.length = n := ⟨_, rfl⟩
                      obtain ⟨pkm, hpkm⟩ : ∃ n, s.keys.length = n := ⟨_, rfl⟩
                      have HLEN := hidE (And.intro hplm (And.intro hptm (And.intro hpem (And.intro hpkm (And.intro hpn hpr)))))
                      have HVs : Hid (∀ va vb vc vd, statV s va vb vc vd = .agg #[.int .i64 pn, .int .i64 pr, va, vb, vc, vd]) := fun va vb vc vd => by unfold statV; rw [hpn, hpr]
                      rw [hplm] at hst ⊢
                      rw [hptm] at hst ⊢
                      rw [hpem] at hst ⊢
                      rw [hpkm] at hst ⊢
                      rw [HVs.out]
                      have HST := hidE hst
                      have HBB := hidE hbb
                      clear hst hbb hcl hci hcb hpn hpr hplm hptm hpem hpkm c0 c1 c2 c3 H11g
                      go_upto_region 17 with fail
                      obtain ⟨W10, hW10⟩ : ∃ W, WB.alloc (.cells #[.int .i64 pn, .int .i64 pr, .slice pla plm plc, .slice pta ptm ptc, .slice pea pem pec, .slice pka pkm pkc] 33) = W := ⟨_, rfl⟩
                      have s10 : SBox WB.heap.size (.int .i64 pn) (.int .i64 pr) (.slice pla plm plc) (.slice pta ptm ptc) (.slice pea pem pec) (.slice pka pkm pkc) W10 := by rw [← hW10]; exact sbox_new _ _ _ _ _ _ _ _
                      have b10 : Below WB.heap.size WB W10 := by rw [← hW10]; exact below_new _ _
                      have HB10 : Hid (Below wr.heap.size wr W10) := Below.on HBB.out b10
                      have HS10 := hidE s10
                      have HST10 := hidE (HST.out.up b10 b10.size)
                      have HRX10 := hidE (HRX.out.below HB10.out HRX.out.lt)
                      rw [hW10]
                      clear hW10 s10 b10 HST HRX HBB
                      have c0 := HRX10.out.cell 0 rfl
                      have c1 := HRX10.out.cell 1 rfl
                      have c2 := HRX10.out.cell 2 rfl
                      have c3 := HRX10.out.cell 3 rfl
                      go_wp2_with fail
                      refine (H11m.out _ HB10.out).mono ?_
                      rintro e WC ⟨t, ul, ut, ue, uk, rfl, hci, hcl, hbc⟩
                      have est : t = s := (mov_counts HCI.out hci).symm
                      subst est
                      have hst2 := cnt_lies HCB.out hcl
                      obtain ⟨qla, qlc, rfl⟩ := hcl.l.slice
                      obtain ⟨qta, qtc, rfl⟩ := hcl.t.slice
                      obtain ⟨qea, qec, rfl⟩ := hcl.e.slice
                      obtain ⟨qka, qkc, rfl⟩ := hcl.k.slice
                      rw [HLEN.out.1] at hst2 ⊢
                      rw [HLEN.out.2.1] at hst2 ⊢
                      rw [HLEN.out.2.2.1] at hst2 ⊢
                      rw [HLEN.out.2.2.2.1] at hst2 ⊢
                      rw [HVs.out]
                      have HST2 := hidE hst2
                      have HBC := hidE hbc
                      clear hst2 hbc hcl hci c0 c1 c2 c3 H11m HRX10
                      go_upto_region 18 with fail
                      obtain ⟨W11, hW11⟩ : ∃ W, WC.alloc (.cells #[.int .i64 pn, .int .i64 pr, .slice qla plm qlc, .slice qta ptm qtc, .slice qea pem qec, .slice qka pkm qkc] 33) = W := ⟨_, rfl⟩
                      have s11 : SBox WC.heap.size (.int .i64 pn) (.int .i64 pr) (.slice qla plm qlc) (.slice qta ptm qtc) (.slice qea pem qec) (.slice qka pkm qkc) W11 := by rw [← hW11]; exact sbox_new _ _ _ _ _ _ _ _
                      have b11 : Below WC.heap.size WC W11 := by rw [← hW11]; exact below_new _ _
                      have HB11 : Hid (Below w.heap.size w W11) := Below.on HB2.out (Below.on HB10.out (Below.on HBC.out b11))
                      have hC11 : Below W10.heap.size W10 W11 := Below.on HBC.out b11
                      have HSB := hidE s11
                      have HSA := hidE (HS10.out.keep hC11)
                      have HLB := hidE (HST2.out.up b11 b11.size)
                      have HLA := hidE (HST10.out.up hC11 hC11.size)
                      rw [hW11]
                      clear hW11 s11 b11 hC11 HST2 HST10 HS10 HBC HB10
                      have hEW : Env2 W11 := HE.out.below HB11.out
                      obtain ⟨T, hT⟩ : ∃ T : ByteArray, (⟨(textL t).toArray⟩ : ByteArray) = T := ⟨_, rfl⟩
                      have H36a : Hid (∀ W, Below W11.heap.size W11 W → Calls Tryz.prog 36 #[.agg #[.int .i64 pn, .int .i64 pr, .slice pla plm plc, .slice pta ptm ptc, .slice pea pem pec, .slice pka pkm pkc]] W fun e w' => e = .returned (.string T) ∧ Below W.heap.size W w') := fun W hb => by
                        have h := text_any t _ _ _ _ _ W hb.size (hEW.below hb) (HLA.out.keep hb) HCB.out.w (by have := HCB.out.l; omega) (by have := HCB.out.t; omega) HCB.out.e HCB.out.k
                        rwa [HVs.out, hT] at h
                      have H36b : Hid (∀ W, Below W11.heap.size W11 W → Calls Tryz.prog 36 #[.agg #[.int .i64 pn, .int .i64 pr, .slice qla plm qlc, .slice qta ptm qtc, .slice qea pem qec, .slice qka pkm qkc]] W fun e w' => e = .returned (.string T) ∧ Below W.heap.size W w') := fun W hb => by
                        have h := text_any t _ _ _ _ _ W hb.size (hEW.below hb) (HLB.out.keep hb) HCB.out.w (by have := HCB.out.l; omega) (by have := HCB.out.t; omega) HCB.out.e HCB.out.k
                        rwa [HVs.out, hT] at h
                      have H38 : Hid (∀ W, Below W11.heap.size W11 W → Calls Tryz.prog 38 #[.agg #[.int .i64 pn, .int .i64 pr, .slice pla plm plc, .slice pta ptm ptc, .slice pea pem pec, .slice pka pkm pkc], .agg #[.int .i64 pn, .int .i64 pr, .slice qla plm qlc, .slice qta ptm qtc, .slice qea pem qec, .slice qka pkm qkc]] W fun e w' => e = .returned (.bool true) ∧ Below W.heap.size W w') := fun W hb => by
                        have h := same_any38 t t _ _ _ _ _ _ _ _ _ W hb.size (HLA.out.keep hb) (HLB.out.keep hb)
                        rwa [HVs.out, HVs.out, sameB_self] at h
                      have H10 : Hid (∀ W, Below W11.heap.size W11 W → Calls Tryz.prog 10 #[] W fun e w' => e = .returned (.bool true) ∧ Below W.heap.size W w') := fun W hb => HWK.out W (Below.on HB11.out hb)
                      have H12 : Hid (∀ W, Calls Tryz.prog 12 #[.int .i64 0] W fun e w' => e = .returned (.int .i64 0) ∧ Below W.heap.size W w') := fun W => (num_any 0 W).mono fun e w' ⟨h1, h2⟩ => ⟨h1, by rw [h2]; exact Below.refl _ _⟩
                      have e0 : ∀ u : Up W11, u.x.cell? ⟨WB.heap.size, 0, none⟩ = some (.int .i64 pn) := fun u => u.cell HSA.out.c0
                      have e1 : ∀ u : Up W11, u.x.cell? ⟨WB.heap.size, 1, none⟩ = some (.int .i64 pr) := fun u => u.cell HSA.out.c1
                      have e2 : ∀ u : Up W11, u.x.cell? ⟨WB.heap.size, 2, none⟩ = some (.slice pla plm plc) := fun u => u.cell HSA.out.c2
                      have e3 : ∀ u : Up W11, u.x.cell? ⟨WB.heap.size, 3, none⟩ = some (.slice pta ptm ptc) := fun u => u.cell HSA.out.c3
                      have e4 : ∀ u : Up W11, u.x.cell? ⟨WB.heap.size, 4, none⟩ = some (.slice pea pem pec) := fun u => u.cell HSA.out.c4
                      have e5 : ∀ u : Up W11, u.x.cell? ⟨WB.heap.size, 5, none⟩ = some (.slice pka pkm pkc) := fun u => u.cell HSA.out.c5
                      have f0 : ∀ u : Up W11, u.x.cell? ⟨WC.heap.size, 0, none⟩ = some (.int .i64 pn) := fun u => u.cell HSB.out.c0
                      have f1 : ∀ u : Up W11, u.x.cell? ⟨WC.heap.size, 1, none⟩ = some (.int .i64 pr) := fun u => u.cell HSB.out.c1
                      have f2 : ∀ u : Up W11, u.x.cell? ⟨WC.heap.size, 2, none⟩ = some (.slice qla plm qlc) := fun u => u.cell HSB.out.c2
                      have f3 : ∀ u : Up W11, u.x.cell? ⟨WC.heap.size, 3, none⟩ = some (.slice qta ptm qtc) := fun u => u.cell HSB.out.c3
                      have f4 : ∀ u : Up W11, u.x.cell? ⟨WC.heap.size, 4, none⟩ = some (.slice qea pem qec) := fun u => u.cell HSB.out.c4
                      have f5 : ∀ u : Up W11, u.x.cell? ⟨WC.heap.size, 5, none⟩ = some (.slice qka pkm qkc) := fun u => u.cell HSB.out.c5
                      have up_ne : Nonempty (Up W11) := ⟨⟨W11, Below.refl _ _⟩⟩
                      clear hT hEW
                      refine wp_up (by kernel_rfl) (by kernel_rfl) ?_
                      repeat (go_big_quiet_step (first | (go_at_call 12; exact Up.call (H12.out _)) | (go_at_call 38; exact Up.call (H38.out _ (Up.b _))) | (go_at_call_of 36 (Value.agg #[.int .i64 pn, .int .i64 pr, .slice pla plm plc, .slice pta ptm ptc, .slice pea pem pec, .slice pka pkm pkc]); exact Up.call (H36a.out _ (Up.b _))) | (go_at_call_of 36 (Value.agg #[.int .i64 pn, .int .i64 pr, .slice qla plm qlc, .slice qta ptm qtc, .slice qea pem qec, .slice qka pkm qkc]); exact Up.call (H36b.out _ (Up.b _))) | (go_at_call 10; exact Up.call (H10.out _ (Up.b _)))))
                      refine wpQuiet_nil ?_
                      rintro w7 ⟨⟨W7, hb7⟩, rfl⟩
                      have HBZ := hidE (Below.on HB11.out hb7)
                      clear e0 e1 e2 e3 e4 e5 f0 f1 f2 f3 f4 f5 up_ne hb7
                      go_wp2_with fail
                      go_ret
                      exact ⟨rfl, HBZ.out⟩
end Go.Proofs.YthfilnflgahcjaaGreatDoor
