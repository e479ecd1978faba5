/- StatsAsks' own walk. -/
import Derived.Test.YthfilnflgahcjaaGreatDoorSaU
import Derived.Test.YthfilnflgahcjaaGreatDoorSaV
import Derived.Test.YthfilnflgahcjaaGreatDoorJoin33
import Derived.Deep.Cut
namespace Go.Proofs.YthfilnflgahcjaaGreatDoor
open Go.RowKit Go.Shelf Go.Maps
set_option linter.unusedVariables false
set_option linter.unusedSimpArgs false
attribute [local go_sem] Oper.semAt_some
theorem upC_eq9 (w : World) : upC w = fun w' => ∃ u : Up w, w' = u.x := rfl
set_option maxRecDepth 100000 in
set_option maxHeartbeats 16000000 in
theorem asks_law (s : StatP) (vl vt ve vk vls vts vns : Value) (key : ByteArray) (dir : Int) (ls ts : List ByteArray) (ns : List Int) (B : Nat) (w : World) (hB : B ≤ w.heap.size) (hE : Env w) (h : StatO B w vl vt ve vk s)
    (h1 : SRow 1 strE B w vls ls) (h2 : SRow 1 strE B w vts ts) (h3 : SRow 1 intE B w vns ns) (hkey : okS key) (ho1 : ∀ x ∈ ls, okS x) (ho2 : ∀ x ∈ ts, okS x) :
    Calls Tryz.prog 4 #[statV s vl vt ve vk, .agg #[vls, vts, .string key, .int .i64 dir, vns]] w fun e w' => e = .returned (.bool true) ∧ Below w.heap.size w w' := by
  have HO := hidE h
  have HLS := hidE h1
  have HTS := hidE h2
  have HNS := hidE h3
  have HE := hidE hE
  have HOK := hidE (And.intro hkey (And.intro ho1 ho2))
  obtain ⟨la, lc, rfl, -⟩ := h.hl
  obtain ⟨ta, tc, rfl, -⟩ := h.ht
  obtain ⟨ea, ec, rfl, -⟩ := h.he
  obtain ⟨ka, kc, rfl, -⟩ := h.hk
  obtain ⟨lsa, lsc, rfl, hx1, hx2, -⟩ := h1
  obtain ⟨tsa, tsc, rfl, hy1, hy2, -⟩ := h2
  obtain ⟨nsa, nsc, rfl, hz1, hz2, -⟩ := h3
  obtain ⟨p1, hp1⟩ : ∃ n, s.labels.length = n := ⟨_, rfl⟩
  obtain ⟨p2, hp2⟩ : ∃ n, s.types.length = n := ⟨_, rfl⟩
  obtain ⟨p3, hp3⟩ : ∃ n, s.ends.length = n := ⟨_, rfl⟩
  obtain ⟨p4, hp4⟩ : ∃ n, s.keys.length = n := ⟨_, rfl⟩
  obtain ⟨m1, hm1⟩ : ∃ n, ls.length = n := ⟨_, rfl⟩
  obtain ⟨m2, hm2⟩ : ∃ n, ts.length = n := ⟨_, rfl⟩
  obtain ⟨m3, hm3⟩ : ∃ n, ns.length = n := ⟨_, rfl⟩
  obtain ⟨sn, hsn⟩ : ∃ n, s.nodes = n := ⟨_, rfl⟩
  obtain ⟨sr, hsr⟩ : ∃ n, s.rels = n := ⟨_, rfl⟩
  have HV : Hid (statV s (.slice la p1 lc) (.slice ta p2 tc) (.slice ea p3 ec) (.slice ka p4 kc) = .agg #[.int .i64 sn, .int .i64 sr, .slice la p1 lc, .slice ta p2 tc, .slice ea p3 ec, .slice ka p4 kc]) := by
    show _ = _
    unfold statV; rw [hsn, hsr]
  have HM := hidE (And.intro hm1 (And.intro hm2 hm3))
  have HNN := hidE hsn
  rw [hp1, hp2, hp3, hp4] at HO
  rw [hm1] at HLS hx1
  rw [hm2] at HTS hy1
  rw [hm3] at HNS hz1
  rw [hp1, hp2, hp3, hp4, HV.out, hm1, hm2, hm3]
  have HFW : Hid (∀ W, Below w.heap.size w W → Calls Tryz.prog 16 #[.agg #[.int .i64 sn, .int .i64 sr, .slice la p1 lc, .slice ta p2 tc, .slice ea p3 ec, .slice ka p4 kc]] W fun e w' => e = .returned (.bool (fewB s)) ∧ Below W.heap.size W w') := fun W hb => by
    have := HO.out
    have h2 := few_anyO s _ _ _ _ B W ⟨this.hl.keep (hb.mono hB), this.ht.keep (hb.mono hB), this.he.keep (hb.mono hB), this.hk.keep (hb.mono hB), this.ol, this.ot, this.oe, this.ok, this.nl, this.nt, this.ne, this.nk⟩
    rwa [HV.out] at h2
  have HWK : Hid (∀ W, Below w.heap.size w W → Calls Tryz.prog 10 #[] W fun e w' => e = .returned (.bool true) ∧ Below W.heap.size W w') := fun W hb => works_any W (HE.out.below hb HE.out.room)
  clear h hkey ho1 ho2 hE hp1 hp2 hp3 hp4 hm1 hm2 hm3 hsn hsr HE
  obtain ⟨W1, hW1⟩ : ∃ W, w.alloc (.cells #[.int .i64 sn, .int .i64 sr, .slice la p1 lc, .slice ta p2 tc, .slice ea p3 ec, .slice ka p4 kc] 33) = W := ⟨_, rfl⟩
  have r1 : Rec W1 w.heap.size #[.int .i64 sn, .int .i64 sr, .slice la p1 lc, .slice ta p2 tc, .slice ea p3 ec, .slice ka p4 kc] 33 := by rw [← hW1]; exact rec_new _ _ _
  have hz1' : W1.heap.size = w.heap.size + 1 := by rw [← hW1]; simp
  have hb1 : Below w.heap.size w W1 := by rw [← hW1]; exact (Below.refl _ _).alloc (Nat.le_refl _) _
  obtain ⟨W2, hW2⟩ : ∃ W, W1.alloc (.cells #[.slice lsa m1 lsc, .slice tsa m2 tsc, .string key, .int .i64 dir, .slice nsa m3 nsc] 46) = W := ⟨_, rfl⟩
  have r2 : Rec W2 (w.heap.size + 1) #[.slice lsa m1 lsc, .slice tsa m2 tsc, .string key, .int .i64 dir, .slice nsa m3 nsc] 46 := by rw [← hW2, ← hz1']; exact rec_new _ _ _
  have hb12 : Below W1.heap.size W1 W2 := by rw [← hW2]; exact (Below.refl _ _).alloc (Nat.le_refl _) _
  have r1' := r1.below hb12 r1.lt
  have HB2 := hidE (Below.on hb1 hb12)
  have HR1 := hidE r1'
  have HR2 := hidE r2
  clear r1 hb1 hb12 r2 r1'
  have c0 := HR1.out.cell 0 rfl
  have c1 := HR1.out.cell 1 rfl
  have c2 := HR1.out.cell 2 rfl
  have c3 := HR1.out.cell 3 rfl
  have c4 := HR1.out.cell 4 rfl
  have c5 := HR1.out.cell 5 rfl
  have HF1 := hidE (HFW.out W2 HB2.out)
  go_enter Tryz.func4, Tryz.ntmps4
  go_upto_region 1 with fail
  try rw [hW1]
  try rw [hW2]
  clear hW1 hW2 hz1' HFW
  go_wp2_with fail
  refine HF1.out.mono ?_
  rintro e W3 ⟨rfl, hb3⟩
  have HB3 := hidE (Below.on HB2.out hb3)
  have HR1' := hidE (HR1.out.below hb3 HR1.out.lt)
  have HR2' := hidE (HR2.out.below hb3 HR2.out.lt)
  have d0 := HR2'.out.cell 0 rfl
  have d1 := HR2'.out.cell 1 rfl
  have d2 := HR2'.out.cell 2 rfl
  have d3 := HR2'.out.cell 3 rfl
  have d4 := HR2'.out.cell 4 rfl
  clear HF1 HR1 HR2 HB2 hb3 c0 c1 c2 c3 c4 c5
  obtain ⟨few, hfew⟩ : ∃ b, fewB s = b := ⟨_, rfl⟩
  have HFEW := hidE hfew
  rw [hfew]
  clear hfew
  cases few with
  | false =>
    go_wp2_with (go_at_call 10; refine (HWK.out _ HB3.out).mono ?_; rintro e W4 ⟨rfl, y1⟩; have HY := hidE (Below.on HB3.out y1); clear y1)
    go_ret
    exact ⟨rfl, HY.out⟩
  | true =>
    by_cases k1 : 20 < m1
    · have k1' : (20 : Int) < m1 := by omega
      go_wp2_with (go_at_call 10; refine (HWK.out _ HB3.out).mono ?_; rintro e W4 ⟨rfl, y1⟩; have HY := hidE (Below.on HB3.out y1); clear y1)
      go_ret
      exact ⟨rfl, HY.out⟩
    have k1' : ¬ (20 : Int) < m1 := by omega
    by_cases k2 : 20 < m2
    · have k2' : (20 : Int) < m2 := by omega
      go_wp2_with (go_at_call 10; refine (HWK.out _ HB3.out).mono ?_; rintro e W4 ⟨rfl, y1⟩; have HY := hidE (Below.on HB3.out y1); clear y1)
      go_ret
      exact ⟨rfl, HY.out⟩
    have k2' : ¬ (20 : Int) < m2 := by omega
    by_cases k3 : 100 < m3
    · have k3' : (100 : Int) < m3 := by omega
      go_wp2_with (go_at_call 10; refine (HWK.out _ HB3.out).mono ?_; rintro e W4 ⟨rfl, y1⟩; have HY := hidE (Below.on HB3.out y1); clear y1)
      go_ret
      exact ⟨rfl, HY.out⟩
    have k3' : ¬ (100 : Int) < m3 := by omega
    have HST : Hid (StatL B W3 (.slice la p1 lc) (.slice ta p2 tc) (.slice ea p3 ec) (.slice ka p4 kc) s) := by
      have hb := HB3.out.mono hB
      have := HO.out
      exact StatO.lies ⟨this.hl.keep hb, this.ht.keep hb, this.he.keep hb, this.hk.keep hb, this.ol, this.ot, this.oe, this.ok, this.nl, this.nt, this.ne, this.nk⟩ HFEW.out
    have hBW : B ≤ W3.heap.size := Nat.le_trans hB HB3.out.size
    have HLS3 := hidE (HLS.out.keep (HB3.out.mono hB))
    have HTS3 := hidE (HTS.out.keep (HB3.out.mono hB))
    have HNS3 := hidE (HNS.out.keep (HB3.out.mono hB))
    have hml : ls.length ≤ 100000 := by have := HM.out.1; omega
    have hmt : ts.length ≤ 100000 := by have := HM.out.2.1; omega
    clear HLS HTS HNS HO HFEW
    -- the types anew, with a place to spare
    go_upto_region 3 with fail
    go_cut [5] from 12 (fun s5 W4 => Below W3.heap.size W3 W4 ∧ ∃ va vc, s5 = .slice va m2 vc ∧ SRow 1 strE W4.heap.size W4 (.slice va (m2 + 1) vc) (ts ++ [spareS]))
    case first =>
      clear d0 d2 d3 d4
      have f1 : ∀ u : Up W3.drew, u.x.cell? ⟨w.heap.size + 1, 1, none⟩ = some (.slice tsa m2 tsc) := fun u => u.cell d1
      have up_ne : Nonempty (Up W3.drew) := ⟨⟨W3.drew, Below.refl _ _⟩⟩
      refine wp_tri [1, 2, 6, 7, 8] 0 3 4 [5, 9, 10] (by kernel_rfl) (by kernel_rfl) ?_
      simp only [pickL, nthL, upC_eq9]
      repeat (go_big_quiet_step (fail))
      refine wpQuiet_nil ?_
      have HT0 : Hid (SRow 1 strE W3.heap.size W3 (.slice tsa m2 tsc) ts) := HTS3.out.mono hBW
      clear f1 up_ne HST HLS3 HNS3 HWK d1
      have HMK : ∀ U : World, W3.heap.size ≤ U.heap.size → ORow 9 1 strE W3.heap.size (U.alloc (.cells #[] 9)) (.slice (some ⟨U.heap.size, 0, none⟩) 0 0) ([] : List ByteArray) := fun U hU => orow_new (e := 9) (k := 1) (base := W3.heap.size) (enc := strE) (fun _ => rfl) U [] #[] rfl (by simp) hU
      have HAP : ∀ (U : World) (v : Value), Below W3.heap.size W3 U → ORow 9 1 strE W3.heap.size U v ([] : List ByteArray) → ∃ v' w', (Builtin.append_ #[43, 43] 43 #[v, .slice tsa m2 tsc]).run Tryz.prog U = .ok v' w' ∧ ORow 9 1 strE W3.heap.size w' v' ts ∧ Below W3.heap.size U w' ∧ (∀ g, some g ≠ v.ownBlock → g < U.heap.size → w'.heap[g]? = U.heap[g]?) := fun U v hU hv => by
        obtain ⟨v1, w1, q1, q2, q3, q4⟩ := append_many (ty := 43) elem43 (fun _ => rfl) one_str hv (HT0.out.keep hU) (by simp; omega) hU.size
        exact ⟨v1, w1, q1, q2, q3, q4⟩
      have HMK := hidE HMK
      have HAP := hidE HAP
      refine ⟨fun x y z w4 => ORow 9 1 strE W3.heap.size w4 y ts ∧ ∃ b, z = .slice (some ⟨b, 0, none⟩) 1 1 ∧ w4.cell? ⟨b, 0, none⟩ = some (.string { data := #[115, 112, 97, 114, 101] }), ?_, ?_, ?_⟩
      · simp only [wpOne, pickL, nthL, Option.bind]
        go_wp2_with fail
        obtain ⟨A, hA⟩ : ∃ A, (W3.alloc (.cells #[] 9)).drew = A := ⟨_, rfl⟩
        have hOA : ORow 9 1 strE W3.heap.size A (.slice (some ⟨W3.heap.size, 0, none⟩) 0 0) ([] : List ByteArray) := by rw [← hA]; exact HMK.out W3.drew (Nat.le_refl _)
        have hbA : Below W3.heap.size W3.drew A := by rw [← hA]; exact below_new W3.drew (.cells #[] 9)
        have hbA' : Below W3.heap.size W3 A := by rw [← hA]; exact ((Below.refl _ W3).alloc (Nat.le_refl _) _).drew
        rw [hA]
        have HOA := hidE hOA
        have HBA := hidE hbA
        have HBA' := hidE hbA'
        have HZA : Hid (A.heap.size = W3.heap.size + 1) := by show _ = _; rw [← hA]; simp
        clear hOA hA hbA'
        refine ⟨rfl, hbA, ?_, ?_⟩
        · clear hbA
          obtain ⟨v1, w1, q1, q2, q3, _⟩ := HAP.out A _ HBA'.out HOA.out
          have Q2 := hidE q2
          have Q3 := hidE q3
          clear q2 q3
          go_wp2_with (at_builtin; refine Lib.wpList_append_run _ rfl _ _ _ _ rfl _ _ rfl rfl _ _ q1 ?_)
          clear q1
          refine ⟨rfl, HBA.out.trans Q3.out, ?_⟩
          go_wp2_with fail
          refine ⟨rfl, HBA.out.trans (Q3.out.alloc (HBA'.out.trans Q3.out).size _), _, _, _, rfl, Q2.out.below (below_new _ _), w1.heap.size, rfl, ?_⟩
          exact cell_new _ _ _ 0 _ rfl
        · clear hbA
          go_wp2_with fail
          refine ⟨rfl, HBA.out.alloc HBA'.out.size _, ?_⟩
          obtain ⟨Z, hZ⟩ : ∃ Z, A.alloc (.cells #[.string { data := #[115, 112, 97, 114, 101] }] 9) = Z := ⟨_, rfl⟩
          have hbZ : Below W3.heap.size W3 Z := by rw [← hZ]; exact HBA'.out.alloc HBA'.out.size _
          have hbZ2 : Below W3.heap.size W3.drew Z := by rw [← hZ]; exact HBA.out.alloc HBA'.out.size _
          have hcZ : Z.cell? ⟨A.heap.size, 0, none⟩ = some (.string { data := #[115, 112, 97, 114, 101] }) := by rw [← hZ]; exact cell_new _ _ _ 0 _ rfl
          have hOZ : ORow 9 1 strE W3.heap.size Z (.slice (some ⟨W3.heap.size, 0, none⟩) 0 0) ([] : List ByteArray) := by rw [← hZ]; exact HOA.out.below (below_new _ _)
          have hzz : A.heap.size < Z.heap.size := by rw [← hZ]; simp
          have hne : W3.heap.size < A.heap.size := by have := HZA.out; omega
          rw [hZ]
          obtain ⟨v1, w1, q1, q2, q3, q4⟩ := HAP.out Z _ hbZ hOZ
          have hc1 := (World.cell?_of_block (a := ⟨A.heap.size, 0, none⟩) (q4 A.heap.size (by simp [Value.ownBlock]; omega) hzz)).trans hcZ
          have Q2 := hidE q2
          have Q3 := hidE (hbZ2.trans q3)
          have HC1 := hidE hc1
          clear q2 q3 q4 hbZ hbZ2 hcZ hOZ hZ hne hzz hc1
          go_wp2_with (at_builtin; refine Lib.wpList_append_run _ rfl _ _ _ _ rfl _ _ rfl rfl _ _ q1 ?_)
          exact ⟨rfl, Q3.out, _, _, _, rfl, Q2.out, A.heap.size, rfl, HC1.out⟩
      · simp only [wpOne, pickL, nthL, Option.bind]
        go_wp2_with fail
        obtain ⟨A, hA⟩ : ∃ A, (W3.alloc (.cells #[.string { data := #[115, 112, 97, 114, 101] }] 9)).drew = A := ⟨_, rfl⟩
        have hcA : A.cell? ⟨W3.heap.size, 0, none⟩ = some (.string { data := #[115, 112, 97, 114, 101] }) := by rw [← hA]; exact cell_new W3 _ _ 0 _ rfl
        have hbA : Below W3.heap.size W3.drew A := by rw [← hA]; exact below_new W3.drew _
        have hbA' : Below W3.heap.size W3 A := by rw [← hA]; exact ((Below.refl _ W3).alloc (Nat.le_refl _) _).drew
        have hzA : A.heap.size = W3.heap.size + 1 := by rw [← hA]; simp
        rw [hA]
        have HBA := hidE hbA
        have HBA' := hidE hbA'
        have HCA := hidE hcA
        have HZA := hidE hzA
        clear hcA hA hbA' hzA
        refine ⟨rfl, hbA, ?_⟩
        clear hbA
        go_wp2_with fail
        refine ⟨rfl, HBA.out.alloc HBA'.out.size _, ?_⟩
        obtain ⟨Z, hZ⟩ : ∃ Z, A.alloc (.cells #[] 9) = Z := ⟨_, rfl⟩
        have hbZ : Below W3.heap.size W3 Z := by rw [← hZ]; exact HBA'.out.alloc HBA'.out.size _
        have hbZ2 : Below W3.heap.size W3.drew Z := by rw [← hZ]; exact HBA.out.alloc HBA'.out.size _
        have hcZ : Z.cell? ⟨W3.heap.size, 0, none⟩ = some (.string { data := #[115, 112, 97, 114, 101] }) := by
          rw [← hZ]
          exact ((below_new A (.cells #[] 9)).cell (p := ⟨W3.heap.size, 0, none⟩) (by have := HZA.out; show W3.heap.size < A.heap.size; omega)).trans HCA.out
        have hOZ : ORow 9 1 strE W3.heap.size Z (.slice (some ⟨A.heap.size, 0, none⟩) 0 0) ([] : List ByteArray) := by rw [← hZ]; exact HMK.out A HBA'.out.size
        have hzz : W3.heap.size < Z.heap.size := by rw [← hZ]; have := HZA.out; simp; omega
        rw [hZ]
        obtain ⟨v1, w1, q1, q2, q3, q4⟩ := HAP.out Z _ hbZ hOZ
        have hc1 := (World.cell?_of_block (a := ⟨W3.heap.size, 0, none⟩) (q4 W3.heap.size (by have := HZA.out; simp [Value.ownBlock]; omega) hzz)).trans hcZ
        have Q2 := hidE q2
        have Q3 := hidE (hbZ2.trans q3)
        have HC1 := hidE hc1
        clear q2 q3 q4 hbZ hbZ2 hcZ hOZ hZ hzz hc1
        go_wp2_with (at_builtin; refine Lib.wpList_append_run _ rfl _ _ _ _ rfl _ _ rfl rfl _ _ q1 ?_)
        exact ⟨rfl, Q3.out, _, _, _, rfl, Q2.out, W3.heap.size, rfl, HC1.out⟩
      · rintro x y z w4 hb4 ⟨hOy, b, rfl, hcb⟩
        obtain ⟨ya, yc, hyv⟩ := hOy.slice
        rw [HM.out.2.1] at hyv
        subst hyv
        have hb4' : Below W3.heap.size W3.drew w4 := hb4
        obtain ⟨v1, w1, q1, q2, q3, _⟩ := append_one (ty := 43) (c := 1) (bl := b) (off := 0) (x := spareS) elem43 (fun _ => rfl) one_str hOy (fun j u hu => by
          simp only [strE] at hu
          cases j with
          | zero => simp at hu; rw [← hu]; exact hcb
          | succ j => simp at hu) (by have := HM.out.2.1; omega) hb4'.size
        have hln : (ts ++ [spareS]).length = m2 + 1 := by rw [List.length_append, HM.out.2.1]; rfl
        obtain ⟨va, vc, hvv⟩ := q2.slice
        rw [hln] at hvv
        subst hvv
        have hsr := ORow.srow (enc := strE) (k := 1) (fun _ => rfl) q2
        have hcap : m2 + 1 ≤ vc ∧ vc ≤ 9223372036854775807 := by
          obtain ⟨a0, c0, e0, r1, r2, _⟩ := hsr
          injection e0 with _ e1 e2
          rw [hln] at r1
          rw [e2]; exact ⟨r1, r2⟩
        have HSR := hidE hsr
        have HBX : Hid (Below W3.heap.size W3.drew w1) := hb4'.trans q3
        have hv1 : (m2 : Int) ≤ vc := by omega
        clear q2 q3 hOy hcb hb4 hb4' hsr hln
        simp only [wpTail, wpOne, pickL, nthL, Option.bind, Act.put, List.setIfInBounds_toArray, List.set_cons_succ, List.set_cons_zero]
        go_wp2_with (at_builtin; refine Lib.wpList_append_run _ rfl _ _ _ _ rfl _ _ rfl rfl _ _ q1 ?_)
        clear q1
        refine ⟨rfl, HBX.out, ?_⟩
        go_wp2_with fail
        refine ⟨rfl, HBX.out, ?_⟩
        go_wp2_with fail
        refine ⟨rfl, HBX.out, ?_⟩
        go_wp2_with fail
        go_meet
        case rel => exact ⟨((Below.refl _ W3).drew).trans HBX.out, _, _, rfl, HSR.out⟩
    case rest =>
      obtain ⟨hb4, va, vc, rfl, hvt⟩ := hcut
      have hc4 : m2 + 1 ≤ vc ∧ vc ≤ 9223372036854775807 := by
        obtain ⟨a0, c0, e0, q1, q2, _⟩ := hvt
        injection e0 with _ e1 e2
        rw [e1, e2]; exact ⟨q1, q2⟩
      obtain ⟨bv, ov, rfl, hbv, hcv⟩ : ∃ bv ov, va = some ⟨bv, ov, none⟩ ∧ bv < wc.heap.size ∧ ∀ (i : Nat) (x : ByteArray), (ts ++ [spareS])[i]? = some x → wc.cell? ⟨bv, ov + i, none⟩ = some (.string x) := by
        obtain ⟨a0, c0, e0, q1, q2, q3⟩ := hvt
        injection e0 with e1 e2 e3
        rcases q3 with q3 | ⟨bl, off, rfl, hl, hc⟩
        · exact absurd q3 (by simp)
        · refine ⟨bl, off, e1, hl, fun i x hx => ?_⟩
          have h := hc i x hx 0 _ rfl
          rw [Nat.mul_one, Nat.add_zero] at h
          exact h
      have hvt2 : SRow 1 strE wc.heap.size wc (.slice (some ⟨bv, ov, none⟩) m2 vc) ts := by
        have := SRow.take hvt
        rwa [HM.out.2.1] at this
      have HVT := hidE hvt2
      have HCV := hidE hcv
      have HB4 := hidE hb4
      clear hvt hvt2 hcv hb4
      obtain ⟨W4, hW4⟩ : ∃ W, wc = W := ⟨_, rfl⟩
      subst hW4
      have HB34 : Hid (Below w.heap.size w wc) := Below.on HB3.out HB4.out
      have hBW4 : B ≤ wc.heap.size := Nat.le_trans hBW HB4.out.size
      have HS4 : Hid (StatL wc.heap.size wc (.slice la p1 lc) (.slice ta p2 tc) (.slice ea p3 ec) (.slice ka p4 kc) s) := (HST.out.keep (HB4.out.mono hBW)).mono hBW4
      have HL4 : Hid (SRow 1 strE wc.heap.size wc (.slice lsa m1 lsc) ls) := (HLS3.out.keep (HB4.out.mono hBW)).mono hBW4
      have HT4 : Hid (SRow 1 strE wc.heap.size wc (.slice tsa m2 tsc) ts) := (HTS3.out.keep (HB4.out.mono hBW)).mono hBW4
      have HN4 : Hid (SRow 1 intE wc.heap.size wc (.slice nsa m3 nsc) ns) := (HNS3.out.keep (HB4.out.mono hBW)).mono hBW4
      have HA1 : Hid (Rec wc w.heap.size #[.int .i64 sn, .int .i64 sr, .slice la p1 lc, .slice ta p2 tc, .slice ea p3 ec, .slice ka p4 kc] 33) := HR1'.out.below HB4.out HR1'.out.lt
      have HA2 : Hid (Rec wc (w.heap.size + 1) #[.slice lsa m1 lsc, .slice tsa m2 tsc, .string key, .int .i64 dir, .slice nsa m3 nsc] 46) := HR2'.out.below HB4.out HR2'.out.lt
      clear HST HLS3 HTS3 HNS3 HR1' HR2' d0 d1 d2 d3 d4
      -- the label, the kind
      obtain ⟨lab, hlab⟩ : ∃ x, ls.headD ⟨#[]⟩ = x := ⟨_, rfl⟩
      obtain ⟨kind, hkind⟩ : ∃ x, ts.headD ⟨#[]⟩ = x := ⟨_, rfl⟩
      have HOL : Hid (okS lab) := by
        show okS lab
        rw [← hlab]
        cases ls with
        | nil => show (⟨#[]⟩ : ByteArray).size ≤ maxLen; decide
        | cons x l => exact HOK.out.2.1 x List.mem_cons_self
      have HOKD : Hid (okS kind) := by
        show okS kind
        rw [← hkind]
        cases ts with
        | nil => show (⟨#[]⟩ : ByteArray).size ≤ maxLen; decide
        | cons x l => exact HOK.out.2.2 x List.mem_cons_self
      have d0 := HA2.out.cell 0 rfl
      have d1 := HA2.out.cell 1 rfl
      go_upto_if 47 with fail
      go_cut [1, 6] from 12 (fun s1 s6 W => s1 = .agg #[.slice lsa m1 lsc, .slice tsa m2 tsc, .string key, .int .i64 dir, .slice nsa m3 nsc] ∧ s6 = .string lab ∧ W = wc)
      case first =>
        by_cases hz : m1 = 0
        · have hz' : ¬ (0 : Int) < m1 := by omega
          have hl0 : ls = [] := List.eq_nil_of_length_eq_zero (by rw [HM.out.1]; exact hz)
          rw [hl0] at hlab
          subst hlab
          go_wp2_with fail
          go_meet
          case rel => exact ⟨by first | rfl | simp [hz], rfl, rfl⟩
        · have hz' : (0 : Int) < m1 := by omega
          obtain ⟨a0, c0', ea0, _, _, hrw⟩ := HL4.out
          obtain ⟨rfl, rfl⟩ : lsa = a0 ∧ lsc = c0' := by injection ea0 with a b c; exact ⟨a, c⟩
          obtain ⟨b0, o0, rfl, hb0, hc0⟩ := hrw.resolve_left (by intro e; have := HM.out.1; rw [e] at this; exact hz this.symm)
          have hx : ls[0]? = some lab := by
            rw [← hlab]
            cases ls with
            | nil => exact absurd HM.out.1.symm hz
            | cons x l => rfl
          have cx : wc.cell? ⟨b0, o0, none⟩ = some (.string lab) := by
            have h := hc0 0 lab hx 0 _ rfl
            rwa [Nat.zero_mul, Nat.add_zero] at h
          clear hx hrw hc0 ea0
          go_wp2_with fail
          go_meet
          case rel => exact ⟨by first | rfl | simp [hz], rfl, rfl⟩
      case rest =>
        obtain ⟨rfl, rfl, rfl⟩ := hcut
        go_upto_if 55 with fail
        go_cut [1, 5, 7] from 12 (fun s1 s5 s7 W => s1 = .agg #[.slice lsa m1 lsc, .slice tsa m2 tsc, .string key, .int .i64 dir, .slice nsa m3 nsc] ∧ s5 = .slice (some ⟨bv, ov, none⟩) m2 vc ∧ s7 = .string kind ∧ W = wc)
        case first =>
          by_cases hz : m2 = 0
          · have hz' : ¬ (0 : Int) < m2 := by omega
            have hl0 : ts = [] := List.eq_nil_of_length_eq_zero (by rw [HM.out.2.1]; exact hz)
            rw [hl0] at hkind
            subst hkind
            go_wp2_with fail
            go_meet
            case rel => exact ⟨by first | rfl | simp [hz], by first | rfl | simp [hz], rfl, rfl⟩
          · have hz' : (0 : Int) < m2 := by omega
            obtain ⟨a0, c0', ea0, _, _, hrw⟩ := HT4.out
            obtain ⟨rfl, rfl⟩ : tsa = a0 ∧ tsc = c0' := by injection ea0 with a b c; exact ⟨a, c⟩
            obtain ⟨b0, o0, rfl, hb0, hc0⟩ := hrw.resolve_left (by intro e; have := HM.out.2.1; rw [e] at this; exact hz this.symm)
            have hx : ts[0]? = some kind := by
              rw [← hkind]
              cases ts with
              | nil => exact absurd HM.out.2.1.symm hz
              | cons x l => rfl
            have cx : wc.cell? ⟨b0, o0, none⟩ = some (.string kind) := by
              have h := hc0 0 kind hx 0 _ rfl
              rwa [Nat.zero_mul, Nat.add_zero] at h
            clear hx hrw hc0 ea0
            go_wp2_with fail
            go_meet
            case rel => exact ⟨by first | rfl | simp [hz], by first | rfl | simp [hz], rfl, rfl⟩
        case rest =>
          obtain ⟨rfl, rfl, rfl, rfl⟩ := hcut
          have hk := ‹∀ (a : Act) (w : World), Code.wp _ _ _ a w → _›
          refine hk _ _ ?_
          refine wp_seq (asks_e10 s key lab kind dir sn sr ls ts ns la ta ea ka lsa tsa nsa lc tc ec kc lsc tsc nsc p1 p2 p3 p4 m1 m2 m3 bv ov vc w wc _ _ _ _ _ _ _ _ _ _ _ _ _ _ _ _ _ _ _ _ _ _ _ _ _ _ _ _ _ _ _ _ _ _ _ _ _ _ _ _ _ _ _ _ _ _ _ _ _ _ _ _ _ _ _ _ _ _ _ _ _ _ _ _ _ _ _ _ _ _ _ _ _ _ _ _ _ _ _ _ _ _ _ _ _ _ _ _ _ _ _ _ _ _ _ _ _ _ _ _ _ _ _ _ _ _ _ _ _ _ _ _ _ _ _ _ _ _ _ _ _ _ _ _ _ _ _ _ _ _ _ _ _ _ _ _ _ _ _ _ _ _ _ _ _ _ _ _ _ _ _ _ _ _ _ _ _ _ _ _ _ _ _ _ _ _ _ _ _ _ _ _ _ _ _ _ _ _ _ _ _ _ _ _ _ _ _ _ _ _ _ _ _ _ _ _ _ _ _ _ _ _ _ _ _ _ _ HM k2 k3 HWK hc4 hbv HCV HB34 HT4 HN4 HA2 HV HOK HOL HOKD hml hmt HVT HS4 HL4 HA1 _ _ ?_)
          intro v12 v13 v14 v15 v16 v17 v18 v19 v20 v21 v22 v23 v24 v25 v26 v27 v28 v29 v30 v31 v32 v33 v34 v35 v36 v37 v38 v39 v40 v41 v42 v43 v44 v45 v46 v47 v48 v49 v50 v51 v52 v53 v54 v55 v56 v57 v58 v59 v60 v61 v62 v63 v64 v65 v66 v67 v68 v69 v70 v71 v72 v73 v74 v75 v76 v77 v78 v79 v80 v81 v82 v83 v84 v85 v86 v87 v88 v89 v90 v91 v92 v93 v94 v95 v96 v97 v98 v99 v100 v101 v102 v103 v104 v105 v106 v107 v108 v109 v110 v111 v112 v113 v114 v115 v116 v117 v118 v119 v120 v121 v122 v123 v124 v125 v126 v127 v128 v129 v130 v131 v132 v133 v134 v135 v136 v137 v138 v139 v140 v141 v142 v143 v144 v145 v146 v147 v148 v149 v150 v151 v152 v153 v154 v155 v156 v157 v158 v159 v160 v161 v162 v163 v164 v165 v166 v167 v168 v169 v170 v171 v172 v173 v174 v175 v176 v177 v178 v179 v180 v181 v182 v183 v184 v185 v186 v187 v188 v189 v190 v191 v192 v193 v194 v195 v196 v197 v198 v199 v200 v201 v202 v203 v204 v205 v206 v207 v208 v209 v210 v211 v212 v213 v214 v215 v216 v217 v218 w5 hb5
          have HB5 := hidE hb5
          refine wp_seq (asks_e12 s key lab kind dir sn sr ls ts ns la ta ea ka lsa tsa nsa lc tc ec kc lsc tsc nsc p1 p2 p3 p4 m1 m2 m3 bv ov vc w wc w5 v12 v13 v14 v15 v16 v17 v18 v19 v20 v21 v22 v23 v24 v25 v26 v27 v28 v29 v30 v31 v32 v33 v34 v35 v36 v37 v38 v39 v40 v41 v42 v43 v44 v45 v46 v47 v48 v49 v50 v51 v52 v53 v54 v55 v56 v57 v58 v59 v60 v61 v62 v63 v64 v65 v66 v67 v68 v69 v70 v71 v72 v73 v74 v75 v76 v77 v78 v79 v80 v81 v82 v83 v84 v85 v86 v87 v88 v89 v90 v91 v92 v93 v94 v95 v96 v97 v98 v99 v100 v101 v102 v103 v104 v105 v106 v107 v108 v109 v110 v111 v112 v113 v114 v115 v116 v117 v118 v119 v120 v121 v122 v123 v124 v125 v126 v127 v128 v129 v130 v131 v132 v133 v134 v135 v136 v137 v138 v139 v140 v141 v142 v143 v144 v145 v146 v147 v148 v149 v150 v151 v152 v153 v154 v155 v156 v157 v158 v159 v160 v161 v162 v163 v164 v165 v166 v167 v168 v169 v170 v171 v172 v173 v174 v175 v176 v177 v178 v179 v180 v181 v182 v183 v184 v185 v186 v187 v188 v189 v190 v191 v192 v193 v194 v195 v196 v197 v198 v199 v200 v201 v202 v203 v204 v205 v206 v207 v208 v209 v210 v211 v212 v213 v214 v215 v216 v217 v218 HM k2 k3 HWK hc4 hbv HCV HB34 HT4 HN4 HA2 HV HOK HOL HOKD hml hmt HVT HS4 HL4 HA1 _ _ ?_ HB5)
          intro x12 x13 x14 x15 x16 x17 x18 x19 x20 x21 x22 x23 x24 x25 x26 x27 x28 x29 x30 x31 x32 x33 x34 x35 x36 x37 x38 x39 x40 x41 x42 x43 x44 x45 x46 x47 x48 x49 x50 x51 x52 x53 x54 x55 x56 x57 x58 x59 x60 x61 x62 x63 x64 x65 x66 x67 x68 x69 x70 x71 x72 x73 x74 x75 x76 x77 x78 x79 x80 x81 x82 x83 x84 x85 x86 x87 x88 x89 x90 x91 x92 x93 x94 x95 x96 x97 x98 x99 x100 x101 x102 x103 x104 x105 x106 x107 x108 x109 x110 x111 x112 x113 x114 x115 x116 x117 x118 x119 x120 x121 x122 x123 x124 x125 x126 x127 x128 x129 x130 x131 x132 x133 x134 x135 x136 x137 x138 x139 x140 x141 x142 x143 x144 x145 x146 x147 x148 x149 x150 x151 x152 x153 x154 x155 x156 x157 x158 x159 x160 x161 x162 x163 x164 x165 x166 x167 x168 x169 x170 x171 x172 x173 x174 x175 x176 x177 x178 x179 x180 x181 x182 x183 x184 x185 x186 x187 x188 x189 x190 x191 x192 x193 x194 x195 x196 x197 x198 x199 x200 x201 x202 x203 x204 x205 x206 x207 x208 x209 x210 x211 x212 x213 x214 x215 x216 x217 x218 w6 hb6
          exact asks_14 s key lab kind dir sn sr ls ts ns la ta ea ka lsa tsa nsa lc tc ec kc lsc tsc nsc p1 p2 p3 p4 m1 m2 m3 bv ov vc w wc w6 x12 x13 x14 x15 x16 x17 x18 x19 x20 x21 x22 x23 x24 x25 x26 x27 x28 x29 x30 x31 x32 x33 x34 x35 x36 x37 x38 x39 x40 x41 x42 x43 x44 x45 x46 x47 x48 x49 x50 x51 x52 x53 x54 x55 x56 x57 x58 x59 x60 x61 x62 x63 x64 x65 x66 x67 x68 x69 x70 x71 x72 x73 x74 x75 x76 x77 x78 x79 x80 x81 x82 x83 x84 x85 x86 x87 x88 x89 x90 x91 x92 x93 x94 x95 x96 x97 x98 x99 x100 x101 x102 x103 x104 x105 x106 x107 x108 x109 x110 x111 x112 x113 x114 x115 x116 x117 x118 x119 x120 x121 x122 x123 x124 x125 x126 x127 x128 x129 x130 x131 x132 x133 x134 x135 x136 x137 x138 x139 x140 x141 x142 x143 x144 x145 x146 x147 x148 x149 x150 x151 x152 x153 x154 x155 x156 x157 x158 x159 x160 x161 x162 x163 x164 x165 x166 x167 x168 x169 x170 x171 x172 x173 x174 x175 x176 x177 x178 x179 x180 x181 x182 x183 x184 x185 x186 x187 x188 x189 x190 x191 x192 x193 x194 x195 x196 x197 x198 x199 x200 x201 x202 x203 x204 x205 x206 x207 x208 x209 x210 x211 x212 x213 x214 x215 x216 x217 x218 HM k2 k3 HWK hc4 hbv HCV HB34 HT4 HN4 HA2 (hidE hb6)
end Go.Proofs.YthfilnflgahcjaaGreatDoor
