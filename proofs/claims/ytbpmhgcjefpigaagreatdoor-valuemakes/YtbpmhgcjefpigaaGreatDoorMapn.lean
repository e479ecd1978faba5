/- Map, at any keys and values, walked. -/
import Derived.Test.YtbpmhgcjefpigaaGreatDoorMapl
namespace Go.Proofs.YtbpmhgcjefpigaaGreatDoor
open Go.RowKit Go.Shelf Go.WideShapes Go.Lib
set_option linter.unusedVariables false
set_option linter.unusedSimpArgs false
set_option maxRecDepth 100000 in
set_option maxHeartbeats 8000000 in
theorem map_any (ks : List ByteArray) (ts : List Tree) (B : Nat) (ka : Option Addr) (kc : Nat) (la : Option Addr) (lc : Nat) (w : World) (hB : B ≤ w.heap.size) (hk : KeysLie B w ka ks) (hl : ListLies B w la ts) (h1 : ks.length ≤ kc) (h3 : ts.length ≤ lc) (hn : ks.length ≤ 1000) (hm : ts.length ≤ 1000) (ht : ∀ t ∈ ts, t.total ≤ 1000000) :
    Calls Tryz.prog 50 #[.slice ka ks.length kc, .slice la ts.length lc] w fun e w' => MapTo ks ts w.heap.size e w' ∧ Below w.heap.size w w' := by
  by_cases hlen : ks.length = ts.length
  rotate_left
  · have hne : ((ks.length : Int) != (ts.length : Int)) = true := by simp; omega
    have HNE := hidE hlen
    clear hlen hk hl ht
    go_enter Tryz.func50, Tryz.ntmps50
    go_wp2_with fail
    exact bodyPost_ret (v := .tuple #[.agg #[.int .i64 0, .bool false, .int .i64 0, .string ⟨#[]⟩, .slice none 0 0, .slice none 0 0], .int .i64 2]) (by simp [results, Tryz.results50, go_sem]) rfl ⟨.inr ⟨fun h => HNE.out h.1, rfl⟩, (Below.refl _ _).alloc (Nat.le_refl _) _⟩
  have HLEN := hidE hlen
  have hne : ((ks.length : Int) != (ts.length : Int)) = false := by simp; omega
  obtain ⟨W2, hW2⟩ : ∃ W2, (w.alloc (.cells #[.int .i64 0, .bool false, .int .i64 0, .string ⟨#[]⟩, .slice none 0 0, .slice none 0 0] 26)).alloc (.cells #[.int .i64 5, .bool false, .int .i64 0, .string ⟨#[]⟩, .slice none 0 0, .slice none 0 0] 26) = W2 := ⟨_, rfl⟩
  have HX : Hid (∀ w1, Below W2.heap.size W2 w1 → (Below w.heap.size w w1 ∧ (∀ i v, (#[.int .i64 0, .bool false, .int .i64 0, .string ⟨#[]⟩, .slice none 0 0, .slice none 0 0] : Array Value)[i]? = some v → w1.cell? ⟨w.heap.size, i, none⟩ = some v) ∧ (∀ i v, (#[.int .i64 5, .bool false, .int .i64 0, .string ⟨#[]⟩, .slice none 0 0, .slice none 0 0] : Array Value)[i]? = some v → w1.cell? ⟨w.heap.size + 1, i, none⟩ = some v)) ∧
      (∀ i, w1.frozen? ⟨w.heap.size, i, none⟩ = false) ∧ (∀ i, w1.frozen? ⟨w.heap.size + 1, i, none⟩ = false)) := fun w1 hb => by
    rw [← hW2] at hb
    exact ⟨two_boxes hb, box_frozen hb⟩
  have hs2 : W2.heap.size = w.heap.size + 2 := by rw [← hW2]; simp
  have hbW := (HX.out W2 (Below.refl _ _)).1.1
  have HBK := hidE (bykeys_any ks B ka kc W2 (Nat.le_trans hB hbW.size) (hk.below (hbW.mono hB)) h1 hn)
  have HKL := hidE (And.intro hk hl)
  have HTT := hidE ht
  have HW2 := hidE hW2
  have HS2 := hidE hs2
  clear hW2 hk hl ht hlen hbW hs2
  go_enter Tryz.func50, Tryz.ntmps50
  go_wp2_with fail
  rw [HW2.out]
  refine HBK.out.mono ?_
  rintro e w3 ⟨ps, rfl, hri, hpc, hsz3, hb3⟩
  rw [HS2.out] at hsz3 hpc
  have hps : ps.length = ks.length := by have := hri.perm.length_eq; simpa using this
  have HPS := hidE hps
  have HRI := hidE hri
  have HPC := hidE hpc
  have HSZ3 : Hid (w.heap.size + 2 + 1 < w3.heap.size) := hsz3
  have HX3 := hidE (HX.out w3 hb3)
  have HST : Hid (MapAt w w3 ks ts ps 0 w3) := by
    obtain ⟨⟨hbw3, hq, hr⟩, fz, fy⟩ := HX3.out
    exact ⟨⟨.slice none 0 0, .slice none 0 0, [], hr 4 _ rfl, hr 5 _ rfl, World.ownsRow_nil _ _ _ _, World.ownsRow_nil _ _ _ _, Cops.start _ _ _, fun q h => by cases h⟩, fun _ _ _ _ => rfl, fun _ _ _ => rfl, hbw3, Nat.le_refl _, by simp⟩
  rw [HS2.out]
  clear hri hpc hsz3 hb3 hps HBK HW2
  go_wp2_with fail
  go_loopw [20] (fun i wr => ∃ j : Nat, j ≤ ks.length ∧ i = .int .i64 j ∧ MapAt w w3 ks ts ps j wr) (fun i _ => ks.length - (intOf i).toNat)
  case atStart => exact ⟨0, Nat.zero_le _, rfl, HST.out⟩
  case round =>
    obtain ⟨j, hj, rfl, hgo⟩ := hrel
    obtain ⟨w4, rfl⟩ : ∃ x, x = wr := ⟨_, rfl⟩
    have HGO := hidE hgo
    clear hgo
    have hs34 : w3.heap.size ≤ w4.heap.size := HGO.out.size
    have hz3 := HSZ3.out
    by_cases hlt : j < ks.length
    · obtain ⟨p, hp⟩ : ∃ p, ps[j]? = some p := ⟨_, List.getElem?_eq_getElem (by rw [HPS.out]; exact hlt)⟩
      have hpl : p < ks.length := by have := HRI.out.perm.subset (List.mem_of_getElem? hp); simpa using this
      have hplt : p < ts.length := by have := HLEN.out; omega
      obtain ⟨kv, lv, xs, b4, b5, ok, ol, hcop, hdis⟩ := HGO.out.rows
      have pl : w4.cell? ⟨w.heap.size + 2 + 1, j, none⟩ = some (.int .i64 (p : Int)) := (HGO.out.other _ _ (by omega) (.inl (by omega))).trans (HPC.out j p hp)
      obtain ⟨b, off, rfl, hb, hkey⟩ := (HKL.out.1.below (HGO.out.below.mono hB)).resolve_left (by intro e; rw [e] at hlt; simp at hlt)
      have hkc : w4.cell? ⟨b, off + p, none⟩ = some (.string (keyN ks p)) := (hkey p hpl).1
      obtain ⟨lb, loff, rfl, hlb, hkl⟩ := (HKL.out.2.below (HGO.out.below.mono hB)).resolve_left (by intro e; rw [e] at hplt; simp at hplt)
      obtain ⟨⟨a0, a1, a2, a3, a4, a5⟩, hx⟩ : ∃ t, ts[p]? = some t := ⟨_, List.getElem?_eq_getElem hplt⟩
      have htn : treeN ts p = .mk a0 a1 a2 a3 a4 a5 := by simp [treeN, List.getD, hx]
      obtain ⟨ja, jc, jl, jd, ⟨c0, c1, c2, c3, c4, c5⟩, hlx⟩ := hkl.cells hx
      have htot := HTT.out _ (List.mem_of_getElem? hx)
      obtain ⟨ad, kcap, rfl, had⟩ := row_any ok
      have hkcap : j ≤ kcap := by
        rcases ok.2 with ⟨h, h0⟩ | ⟨g, cap, cur, h, _, _, h5, h6, _⟩
        · simp only [Value.slice.injEq] at h; omega
        · simp only [Value.slice.injEq] at h; omega
      have HR := hidE (And.intro b4 (And.intro b5 (And.intro ok (And.intro ol (And.intro hcop hdis)))))
      have HV := hidE (And.intro htn (And.intro hlx (And.intro htot (And.intro hx hkey))))
      have HC := hidE (And.intro c0 (And.intro c1 (And.intro c2 (And.intro c3 (And.intro c4 c5)))))
      have HP := hidE hp
      obtain ⟨y, hy⟩ : ∃ y, keyN ks p = y := ⟨_, rfl⟩
      rw [hy] at hkc
      have HY := hidE hy
      have hblw : b < w4.heap.size := lt_of_cell hkc
      have hlbw : lb < w4.heap.size := lt_of_cell c0
      clear hp htn hlx htot hx hkey ol hcop hdis b5 hkl c0 c1 c2 c3 c4 c5 hy
      cases j with
      | zero =>
        clear ok had
        go_wp2_with fail
        go_upto_region 8 with fail
        go_quiet (fail)
        go_upto_region 10 with fail
        show (Code.region 10 RK10 true).wp _ _ _ _
        obtain ⟨b4, b5, ok, ol, hcop, hdis⟩ := HR.out
        have fy : ∀ o, w4.frozen? ⟨w.heap.size + 1, o, none⟩ = false := fun o => (HGO.out.frz _ _ (by omega)).trans (HX3.out.2.2 o)
        refine regionK10 (w.heap.size + 1) b off ks.length kc p 0 (.slice ad 0 kcap) _ y w3.heap.size _ _ _ ⟨rfl, rfl, rfl, rfl⟩ ⟨b4, fy 4, hkc, hpl, by omega, ok, by omega, hs34, by omega⟩ ?_
        intro c g cap W hS hown hgr hob
        have hl : c = ⟨#[Value.slice (some { block := b, off := off }) ks.length kc, Value.slice (some { block := lb, off := loff }) ts.length lc, undef, undef, Value.pointer (some { block := w.heap.size, off := 0 }), u5, Value.pointer (some { block := w.heap.size + 1, off := 0 }), undef, Value.int IntKind.i64 ↑p, Value.int IntKind.i64 0, Value.slice (some { block := b, off := off }) ks.length kc, Value.int IntKind.i64 ↑ks.length, Value.slice (some { block := lb, off := loff }) ts.length lc, Value.int IntKind.i64 ↑ts.length, Value.bool false, undef, Value.agg #[Value.int IntKind.i64 5, Value.bool false, Value.int IntKind.i64 0, Value.string { data := #[] }, Value.slice none 0 0, Value.slice none 0 0], Value.slice (some { block := b, off := off }) ks.length kc, Value.slice (some { block := w.heap.size + 2 + 1, off := 0 }) ks.length ks.length, Value.int IntKind.i64 ↑ks.length, Value.int IntKind.i64 ↑0, Value.bool true, Value.pointer (some { block := w.heap.size + 2 + 1, off := 0 }), Value.int IntKind.i64 ↑p, Value.pointer (some { block := w.heap.size + 1, off := 4 }), Value.slice ad 0 kcap, Value.int IntKind.i64 0, Value.int IntKind.i64 0, Value.bool false, Value.bool false, undef, undef, undef, undef, undef, undef, undef, undef, undef, undef, undef, Value.bool false, u42, c.eval (.tmp 43), c.eval (.tmp 44), c.eval (.tmp 45), c.eval (.tmp 46), c.eval (.tmp 47), c.eval (.tmp 48), c.eval (.tmp 49), c.eval (.tmp 50), c.eval (.tmp 51), u52, u53, u54, u55, u56, u57, u58, u59, u60, u61, u62, undef], []⟩ := (same_lay hS).trans (by kernel_rfl)
        generalize c.eval (.tmp 43) = y43 at hl
        generalize c.eval (.tmp 44) = y44 at hl
        generalize c.eval (.tmp 45) = y45 at hl
        generalize c.eval (.tmp 46) = y46 at hl
        generalize c.eval (.tmp 47) = y47 at hl
        generalize c.eval (.tmp 48) = y48 at hl
        generalize c.eval (.tmp 49) = y49 at hl
        generalize c.eval (.tmp 50) = y50 at hl
        generalize c.eval (.tmp 51) = y51 at hl
        clear hS
        subst hl
        obtain ⟨w5, hw5, hs5, b4', b5', ok', ol', hcop', hdis', hc5, hf5, hbw5⟩ := map_key (ts := ts) (p := p) (by omega) hs34 b4 b5 ok ol hcop hdis (by rw [HY.out]; exact hown) ⟨hgr.os, hgr.tape, hgr.output, hgr.size, hgr.block⟩ hob HGO.out.below
        rw [hw5]
        have H5 := hidE (And.intro hs5 (And.intro b4' (And.intro b5' (And.intro ok' (And.intro ol' (And.intro hcop' (And.intro hdis' (And.intro hc5 (And.intro hf5 hbw5)))))))))
        clear hs5 b4' b5' ok' ol' hcop' hdis' hc5 hf5 hbw5 hw5 hown hgr hob b4 b5 ok ol hcop hdis fy
        go_upto_region 11 with fail
        show (Code.region 11 RJ11 true).wp _ _ _ _
        obtain ⟨hs5, b4', b5', ok', ol', hcop', hdis', hc5, hf5, hbw5⟩ := H5.out
        obtain ⟨htn, hlx, htot, hx, hkey⟩ := HV.out
        obtain ⟨c0, c1, c2, c3, c4, c5⟩ := HC.out
        have hkeep : Below w.heap.size w4 w5 := ⟨(hbw5.os).trans HGO.out.below.os.symm, (hbw5.tape).trans HGO.out.below.tape.symm, (hbw5.output).trans HGO.out.below.output.symm, hs5, fun k hk => (hbw5.block k hk).trans (HGO.out.below.block k hk).symm⟩
        have hlbB : lb < w.heap.size := by omega
        refine regionJ11 (w.heap.size + 1) lb loff ts.length lc p 0 lv xs a0 a1 a2 a3 ja a4.length jc jl a5.length jd (.mk a0 a1 a2 a3 a4 a5) w3.heap.size _ _ _ ⟨rfl, rfl, rfl, rfl⟩
          ⟨b5', (hf5 _ _ (by omega)).trans ((HGO.out.frz _ _ (by omega)).trans (HX3.out.2.2 5)), (hkeep.cell (p := ⟨lb, _, none⟩) hlbB).trans c0, (hkeep.cell (p := ⟨lb, _, none⟩) hlbB).trans c1, (hkeep.cell (p := ⟨lb, _, none⟩) hlbB).trans c2, (hkeep.cell (p := ⟨lb, _, none⟩) hlbB).trans c3, (hkeep.cell (p := ⟨lb, _, none⟩) hlbB).trans c4, (hkeep.cell (p := ⟨lb, _, none⟩) hlbB).trans c5, hplt, by omega, ol', by omega, by omega, by omega, (hlx.below (hkeep.mono hB)).mono (by omega), htot⟩ ?_
        intro c lg lcap W6 e0 e1 e2 e3 e4 e5 hi6 hS hown6 hgr6 hlr6 hhi6 hob6
        have hl : c = ⟨#[Value.slice (some { block := b, off := off }) ks.length kc, Value.slice (some { block := lb, off := loff }) ts.length lc, undef, undef, Value.pointer (some { block := w.heap.size, off := 0 }), u5, Value.pointer (some { block := w.heap.size + 1, off := 0 }), undef, Value.int IntKind.i64 ↑p, Value.int IntKind.i64 0, Value.slice (some { block := b, off := off }) ks.length kc, Value.int IntKind.i64 ↑ks.length, Value.slice (some { block := lb, off := loff }) ts.length lc, Value.int IntKind.i64 ↑ts.length, Value.bool false, undef, Value.agg #[Value.int IntKind.i64 5, Value.bool false, Value.int IntKind.i64 0, Value.string { data := #[] }, Value.slice none 0 0, Value.slice none 0 0], Value.slice (some { block := b, off := off }) ks.length kc, Value.slice (some { block := w.heap.size + 2 + 1, off := 0 }) ks.length ks.length, Value.int IntKind.i64 ↑ks.length, Value.int IntKind.i64 0, Value.bool true, Value.pointer (some { block := w.heap.size + 2 + 1, off := 0 }), Value.int IntKind.i64 ↑p, Value.pointer (some { block := w.heap.size + 1, off := 4 }), Value.slice ad 0 kcap, Value.int IntKind.i64 0, Value.int IntKind.i64 0, Value.bool false, Value.bool false, undef, undef, undef, undef, undef, undef, undef, undef, undef, undef, undef, Value.bool false, u42, y43, y44, y45, y46, y47, y48, y49, y50, y51, c.eval (.tmp 52), c.eval (.tmp 53), c.eval (.tmp 54), c.eval (.tmp 55), c.eval (.tmp 56), c.eval (.tmp 57), c.eval (.tmp 58), c.eval (.tmp 59), c.eval (.tmp 60), c.eval (.tmp 61), u62, undef], []⟩ := (same_lay hS).trans (by kernel_rfl)
        generalize c.eval (.tmp 52) = y52 at hl
        generalize c.eval (.tmp 53) = y53 at hl
        generalize c.eval (.tmp 54) = y54 at hl
        generalize c.eval (.tmp 55) = y55 at hl
        generalize c.eval (.tmp 56) = y56 at hl
        generalize c.eval (.tmp 57) = y57 at hl
        generalize c.eval (.tmp 58) = y58 at hl
        generalize c.eval (.tmp 59) = y59 at hl
        generalize c.eval (.tmp 60) = y60 at hl
        generalize c.eval (.tmp 61) = y61 at hl
        clear hS
        subst hl
        obtain ⟨w6, hw6, hs6, b4'', b5'', ok'', ol'', hcop'', hdis'', hc6, hf6, hbw6⟩ := map_value (ts := ts) (kg := g) (by omega) (by omega) rfl b4' b5' ok' ol' hcop' hdis' hown6 hgr6 hlr6 hhi6.2 hob6 hhi6.1 hbw5
        rw [hw6]
        have HNEW : Hid (MapAt w w3 ks ts ps (0 + 1) w6) := by
          refine ⟨⟨_, _, _, b4'', b5'', ?_, ol'', ?_, hdis''⟩, fun q o h h' => ?_, fun q o h => (hf6 q o h).trans ((hf5 q o h).trans (HGO.out.frz q o h)), hbw6, by omega, ?_⟩
          · rw [List.take_add_one, HP.out, List.map_append]
            exact ok''
          · rw [List.take_add_one, HP.out, List.map_append]
            show Cops _ _ _ _ (_ ++ [treeN ts p])
            rw [htn]
            exact hcop''
          · refine (hc6 q o h (h'.imp id fun h => h.2)).trans ((hc5 q o h (h'.imp id fun h => h.1)).trans (HGO.out.other q o h h'))
          · refine places_up HP.out HGO.out.up fun q hq a ha => ?_
            omega
        clear hs6 b4'' b5'' ok'' ol'' hcop'' hdis'' hc6 hf6 hbw6 hw6 hown6 hgr6 hlr6 hhi6 hob6 hs5 b4' b5' ok' ol' hcop' hdis' hc5 hf5 hbw5 htn hlx htot hx hkey c0 c1 c2 c3 c4 c5 hkeep hlbB H5
        go_wp2_with fail
        go_roundw
        case rel => exact ⟨0 + 1, by omega, by go_num, HNEW.out⟩
        case measure => simp [intOf]; omega
      | succ i =>
        obtain ⟨kg, rfl⟩ := had (by omega)
        obtain ⟨p', hp'⟩ : ∃ p', ps[i]? = some p' := ⟨_, List.getElem?_eq_getElem (by rw [HPS.out]; omega)⟩
        have hkp : w4.cell? ⟨kg, i, none⟩ = some (.string (keyN ks p')) := by
          have := ok.cells (g := kg) rfl i (.string (keyN ks p')) (by rw [List.getElem?_map, List.getElem?_take, if_pos (by omega), hp']; rfl)
          rwa [Lib.add_plain, Nat.zero_add] at this
        obtain ⟨y', hy'⟩ : ∃ y', keyN ks p' = y' := ⟨_, rfl⟩
        rw [hy'] at hkp
        have HY' := hidE (And.intro hp' hy')
        have hsub : IntKind.i64.wrap (((i + 1 : Nat) : Int) - 1) = (i : Int) := by
          simp [IntKind.wrap, IntKind.bits, IntKind.signed]; omega
        clear ok hp' hy' had
        by_cases hyy : y' = y
        · have hbq : (y'.toList == y.toList) = true := by rw [hyy]; simp
          have HND : Hid (¬ ks.Nodup) := places_dup HRI.out.perm HY'.out.1 HP.out (by rw [HY'.out.2, HY.out, hyy])
          have hq7 : ∀ o v, (#[.int .i64 0, .bool false, .int .i64 0, .string ⟨#[]⟩, .slice none 0 0, .slice none 0 0] : Array Value)[o]? = some v → w4.cell? ⟨w.heap.size, o, none⟩ = some v := fun o v h => (HGO.out.other _ _ (by omega) (.inl (by omega))).trans (HX3.out.1.2.1 o v h)
          have fz7 : ∀ o, w4.frozen? ⟨w.heap.size, o, none⟩ = false := fun o => (HGO.out.frz _ _ (by omega)).trans (HX3.out.2.1 o)
          have m0 := hq7 0 _ rfl
          have m1 := hq7 1 _ rfl
          have m2 := hq7 2 _ rfl
          have m3 := hq7 3 _ rfl
          have m4 := hq7 4 _ rfl
          have m5 := hq7 5 _ rfl
          have n0 := fz7 0
          have n1 := fz7 1
          have n2 := fz7 2
          have n3 := fz7 3
          have n4 := fz7 4
          have n5 := fz7 5
          have HBW := hidE HGO.out.below
          clear hq7 fz7 hyy
          go_wp2_with fail
          go_upto_region 8 with fail
          go_quiet (fail)
          go_wp2_with fail
          have HFB : Hid (Below w.heap.size w (six (w4.drewN nq) w.heap.size 0 (.int .i64 0) (.bool false) (.int .i64 0) (.string ⟨#[]⟩) (.slice none 0 0) (.slice none 0 0))) := six_below (below_drewN' HBW.out _) (Nat.le_refl _) _ _ _ _ _ _
          exact bodyPost_ret (v := .tuple #[.agg #[.int .i64 0, .bool false, .int .i64 0, .string ⟨#[]⟩, .slice none 0 0, .slice none 0 0], .int .i64 2]) (by simp [results, Tryz.results50, go_sem, m0, m1, m2, m3, m4, m5]) rfl ⟨.inr ⟨fun h => HND.out h.2, rfl⟩, HFB.out⟩
        · have hbq : (y'.toList == y.toList) = false := by
            rw [beq_eq_false_iff_ne]
            intro e
            apply hyy
            have e2 : y'.data.toList = y.data.toList := by simpa [ByteArray.toList_eq] using e
            obtain ⟨⟨a⟩⟩ := y'
            obtain ⟨⟨b⟩⟩ := y
            simpa using e2
          have HNY := hidE hyy
          clear hyy
          go_wp2_with fail
          go_upto_region 8 with fail
          go_quiet (fail)
          go_upto_region 10 with fail
          show (Code.region 10 RK10 true).wp _ _ _ _
          obtain ⟨b4, b5, ok, ol, hcop, hdis⟩ := HR.out
          have fy : ∀ o, w4.frozen? ⟨w.heap.size + 1, o, none⟩ = false := fun o => (HGO.out.frz _ _ (by omega)).trans (HX3.out.2.2 o)
          refine regionK10 (w.heap.size + 1) b off ks.length kc p (i + 1) (.slice (some ⟨kg, 0, none⟩) (i + 1) kcap) _ y w3.heap.size _ _ _ ⟨rfl, rfl, rfl, rfl⟩ ⟨b4, fy 4, hkc, hpl, by omega, ok, by omega, hs34, by omega⟩ ?_
          intro c g cap W hS hown hgr hob
          have hl : c = ⟨#[Value.slice (some { block := b, off := off }) ks.length kc, Value.slice (some { block := lb, off := loff }) ts.length lc, undef, undef, Value.pointer (some { block := w.heap.size, off := 0 }), u5, Value.pointer (some { block := w.heap.size + 1, off := 0 }), undef, Value.int IntKind.i64 ↑p, Value.int IntKind.i64 (↑i + 1), Value.slice (some { block := b, off := off }) ks.length kc, Value.int IntKind.i64 ↑ks.length, Value.slice (some { block := lb, off := loff }) ts.length lc, Value.int IntKind.i64 ↑ts.length, Value.bool false, undef, Value.agg #[Value.int IntKind.i64 5, Value.bool false, Value.int IntKind.i64 0, Value.string { data := #[] }, Value.slice none 0 0, Value.slice none 0 0], Value.slice (some { block := b, off := off }) ks.length kc, Value.slice (some { block := w.heap.size + 2 + 1, off := 0 }) ks.length ks.length, Value.int IntKind.i64 ↑ks.length, Value.int IntKind.i64 ↑(i + 1), Value.bool (decide ((((i : Nat) : Int) + 1) < ((ks.length : Nat) : Int))), Value.pointer (some { block := w.heap.size + 2 + 1, off := i + 1 }), Value.int IntKind.i64 ↑p, Value.pointer (some { block := w.heap.size + 1, off := 4 }), Value.slice (some { block := kg, off := 0 }) (i + 1) kcap, Value.int IntKind.i64 (↑i + 1), Value.int IntKind.i64 (↑i + 1), Value.bool true, Value.bool true, Value.pointer (some { block := w.heap.size + 1, off := 4 }), Value.slice (some { block := kg, off := 0 }) (i + 1) kcap, Value.int IntKind.i64 (↑i + 1), Value.int IntKind.i64 ↑i, Value.pointer (some { block := kg, off := i }), Value.string y', Value.slice (some { block := b, off := off }) ks.length kc, Value.int IntKind.i64 ↑p, Value.pointer (some { block := b, off := off + p }), Value.string y, Value.bool false, Value.bool false, u42, c.eval (.tmp 43), c.eval (.tmp 44), c.eval (.tmp 45), c.eval (.tmp 46), c.eval (.tmp 47), c.eval (.tmp 48), c.eval (.tmp 49), c.eval (.tmp 50), c.eval (.tmp 51), u52, u53, u54, u55, u56, u57, u58, u59, u60, u61, u62, undef], []⟩ := (same_lay hS).trans (by kernel_rfl)
          generalize c.eval (.tmp 43) = y43 at hl
          generalize c.eval (.tmp 44) = y44 at hl
          generalize c.eval (.tmp 45) = y45 at hl
          generalize c.eval (.tmp 46) = y46 at hl
          generalize c.eval (.tmp 47) = y47 at hl
          generalize c.eval (.tmp 48) = y48 at hl
          generalize c.eval (.tmp 49) = y49 at hl
          generalize c.eval (.tmp 50) = y50 at hl
          generalize c.eval (.tmp 51) = y51 at hl
          clear hS
          subst hl
          obtain ⟨w5, hw5, hs5, b4', b5', ok', ol', hcop', hdis', hc5, hf5, hbw5⟩ := map_key (ts := ts) (p := p) (by omega) hs34 b4 b5 ok ol hcop hdis (by rw [HY.out]; exact hown) ⟨hgr.os, hgr.tape, hgr.output, hgr.size, hgr.block⟩ hob HGO.out.below
          rw [hw5]
          have H5 := hidE (And.intro hs5 (And.intro b4' (And.intro b5' (And.intro ok' (And.intro ol' (And.intro hcop' (And.intro hdis' (And.intro hc5 (And.intro hf5 hbw5)))))))))
          clear hs5 b4' b5' ok' ol' hcop' hdis' hc5 hf5 hbw5 hw5 hown hgr hob b4 b5 ok ol hcop hdis fy
          go_upto_region 11 with fail
          show (Code.region 11 RJ11 true).wp _ _ _ _
          obtain ⟨hs5, b4', b5', ok', ol', hcop', hdis', hc5, hf5, hbw5⟩ := H5.out
          obtain ⟨htn, hlx, htot, hx, hkey⟩ := HV.out
          obtain ⟨c0, c1, c2, c3, c4, c5⟩ := HC.out
          have hkeep : Below w.heap.size w4 w5 := ⟨(hbw5.os).trans HGO.out.below.os.symm, (hbw5.tape).trans HGO.out.below.tape.symm, (hbw5.output).trans HGO.out.below.output.symm, hs5, fun k hk => (hbw5.block k hk).trans (HGO.out.below.block k hk).symm⟩
          have hlbB : lb < w.heap.size := by omega
          refine regionJ11 (w.heap.size + 1) lb loff ts.length lc p (i + 1) lv xs a0 a1 a2 a3 ja a4.length jc jl a5.length jd (.mk a0 a1 a2 a3 a4 a5) w3.heap.size _ _ _ ⟨rfl, rfl, rfl, rfl⟩
            ⟨b5', (hf5 _ _ (by omega)).trans ((HGO.out.frz _ _ (by omega)).trans (HX3.out.2.2 5)), (hkeep.cell (p := ⟨lb, _, none⟩) hlbB).trans c0, (hkeep.cell (p := ⟨lb, _, none⟩) hlbB).trans c1, (hkeep.cell (p := ⟨lb, _, none⟩) hlbB).trans c2, (hkeep.cell (p := ⟨lb, _, none⟩) hlbB).trans c3, (hkeep.cell (p := ⟨lb, _, none⟩) hlbB).trans c4, (hkeep.cell (p := ⟨lb, _, none⟩) hlbB).trans c5, hplt, by omega, ol', by omega, by omega, by omega, (hlx.below (hkeep.mono hB)).mono (by omega), htot⟩ ?_
          intro c lg lcap W6 e0 e1 e2 e3 e4 e5 hi6 hS hown6 hgr6 hlr6 hhi6 hob6
          have hl : c = ⟨#[Value.slice (some { block := b, off := off }) ks.length kc, Value.slice (some { block := lb, off := loff }) ts.length lc, undef, undef, Value.pointer (some { block := w.heap.size, off := 0 }), u5, Value.pointer (some { block := w.heap.size + 1, off := 0 }), undef, Value.int IntKind.i64 ↑p, Value.int IntKind.i64 (↑i + 1), Value.slice (some { block := b, off := off }) ks.length kc, Value.int IntKind.i64 ↑ks.length, Value.slice (some { block := lb, off := loff }) ts.length lc, Value.int IntKind.i64 ↑ts.length, Value.bool false, undef, Value.agg #[Value.int IntKind.i64 5, Value.bool false, Value.int IntKind.i64 0, Value.string { data := #[] }, Value.slice none 0 0, Value.slice none 0 0], Value.slice (some { block := b, off := off }) ks.length kc, Value.slice (some { block := w.heap.size + 2 + 1, off := 0 }) ks.length ks.length, Value.int IntKind.i64 ↑ks.length, Value.int IntKind.i64 ↑(i + 1), Value.bool (decide ((((i : Nat) : Int) + 1) < ((ks.length : Nat) : Int))), Value.pointer (some { block := w.heap.size + 2 + 1, off := i + 1 }), Value.int IntKind.i64 ↑p, Value.pointer (some { block := w.heap.size + 1, off := 4 }), Value.slice (some { block := kg, off := 0 }) (i + 1) kcap, Value.int IntKind.i64 (↑i + 1), Value.int IntKind.i64 (↑i + 1), Value.bool true, Value.bool true, Value.pointer (some { block := w.heap.size + 1, off := 4 }), Value.slice (some { block := kg, off := 0 }) (i + 1) kcap, Value.int IntKind.i64 (↑i + 1), Value.int IntKind.i64 ↑i, Value.pointer (some { block := kg, off := i }), Value.string y', Value.slice (some { block := b, off := off }) ks.length kc, Value.int IntKind.i64 ↑p, Value.pointer (some { block := b, off := off + p }), Value.string y, Value.bool false, Value.bool false, u42, y43, y44, y45, y46, y47, y48, y49, y50, y51, c.eval (.tmp 52), c.eval (.tmp 53), c.eval (.tmp 54), c.eval (.tmp 55), c.eval (.tmp 56), c.eval (.tmp 57), c.eval (.tmp 58), c.eval (.tmp 59), c.eval (.tmp 60), c.eval (.tmp 61), u62, undef], []⟩ := (same_lay hS).trans (by kernel_rfl)
          generalize c.eval (.tmp 52) = y52 at hl
          generalize c.eval (.tmp 53) = y53 at hl
          generalize c.eval (.tmp 54) = y54 at hl
          generalize c.eval (.tmp 55) = y55 at hl
          generalize c.eval (.tmp 56) = y56 at hl
          generalize c.eval (.tmp 57) = y57 at hl
          generalize c.eval (.tmp 58) = y58 at hl
          generalize c.eval (.tmp 59) = y59 at hl
          generalize c.eval (.tmp 60) = y60 at hl
          generalize c.eval (.tmp 61) = y61 at hl
          clear hS
          subst hl
          obtain ⟨w6, hw6, hs6, b4'', b5'', ok'', ol'', hcop'', hdis'', hc6, hf6, hbw6⟩ := map_value (ts := ts) (kg := g) (by omega) (by omega) rfl b4' b5' ok' ol' hcop' hdis' hown6 hgr6 hlr6 hhi6.2 hob6 hhi6.1 hbw5
          rw [hw6]
          have HNEW : Hid (MapAt w w3 ks ts ps ((i + 1) + 1) w6) := by
            refine ⟨⟨_, _, _, b4'', b5'', ?_, ol'', ?_, hdis''⟩, fun q o h h' => ?_, fun q o h => (hf6 q o h).trans ((hf5 q o h).trans (HGO.out.frz q o h)), hbw6, by omega, ?_⟩
            · rw [List.take_add_one, HP.out, List.map_append]
              exact ok''
            · rw [List.take_add_one, HP.out, List.map_append]
              show Cops _ _ _ _ (_ ++ [treeN ts p])
              rw [htn]
              exact hcop''
            · refine (hc6 q o h (h'.imp id fun h => h.2)).trans ((hc5 q o h (h'.imp id fun h => h.1)).trans (HGO.out.other q o h h'))
            · refine places_up HP.out HGO.out.up fun q hq a ha => ?_
              have hq' : q = i := by omega
              subst hq'
              have ha' : a = p' := by
                have := HY'.out.1
                rw [ha] at this
                exact Option.some.inj this
              subst ha'
              have hle : cmpK (keyN ks a) (keyN ks p) ≤ 0 := by
                obtain ⟨i1, e1⟩ := List.getElem?_eq_some_iff.1 ha
                obtain ⟨i2, e2⟩ := List.getElem?_eq_some_iff.1 HP.out
                have := List.pairwise_iff_getElem.1 HRI.out.up q (q + 1) i1 i2 (by omega)
                rw [e1, e2] at this
                exact this
              have hne0 : cmpK (keyN ks a) (keyN ks p) ≠ 0 := fun h => by
                have := cmpK_one h
                rw [HY'.out.2, HY.out] at this
                exact HNY.out this
              omega
          clear hs6 b4'' b5'' ok'' ol'' hcop'' hdis'' hc6 hf6 hbw6 hw6 hown6 hgr6 hlr6 hhi6 hob6 hs5 b4' b5' ok' ol' hcop' hdis' hc5 hf5 hbw5 htn hlx htot hx hkey c0 c1 c2 c3 c4 c5 hkeep hlbB H5
          go_wp2_with fail
          go_roundw
          case rel => exact ⟨(i + 1) + 1, by omega, by go_num, HNEW.out⟩
          case measure => simp [intOf]; omega
    · obtain rfl : j = ks.length := by omega
      obtain ⟨kv, lv, xs, b4, b5, ok, ol, hcop, hdis⟩ := HGO.out.rows
      have htake : ps.take ks.length = ps := List.take_of_length_le (by rw [HPS.out]; exact Nat.le_refl _)
      rw [htake] at ok hcop
      obtain ⟨ad1, cap1, rfl, -⟩ := row_any ok
      obtain ⟨ad2, cap2, rfl, -⟩ := row_any ol
      have hup := HGO.out.up
      rw [htake] at hup
      have HMO := hidE (map_places HLEN.out HRI.out.perm hup)
      have hq7 : ∀ o v, (#[.int .i64 0, .bool false, .int .i64 0, .string ⟨#[]⟩, .slice none 0 0, .slice none 0 0] : Array Value)[o]? = some v → w4.cell? ⟨w.heap.size, o, none⟩ = some v := fun o v h => (HGO.out.other _ _ (by omega) (.inl (by omega))).trans (HX3.out.1.2.1 o v h)
      have fz7 : ∀ o, w4.frozen? ⟨w.heap.size, o, none⟩ = false := fun o => (HGO.out.frz _ _ (by omega)).trans (HX3.out.2.1 o)
      have hbx : ∀ o v, o ≠ 4 → o ≠ 5 → (#[.int .i64 5, .bool false, .int .i64 0, .string ⟨#[]⟩, .slice none 0 0, .slice none 0 0] : Array Value)[o]? = some v → w4.cell? ⟨w.heap.size + 1, o, none⟩ = some v := fun o v h4 h5 h => (HGO.out.other _ _ (by omega) (.inr ⟨h4, h5⟩)).trans (HX3.out.1.2.2 o v h)
      have y0 := hbx 0 _ (by decide) (by decide) rfl
      have y1 := hbx 1 _ (by decide) (by decide) rfl
      have y2 := hbx 2 _ (by decide) (by decide) rfl
      have y3 := hbx 3 _ (by decide) (by decide) rfl
      have m0 := hq7 0 _ rfl
      have m1 := hq7 1 _ rfl
      have m2 := hq7 2 _ rfl
      have m3 := hq7 3 _ rfl
      have m4 := hq7 4 _ rfl
      have m5 := hq7 5 _ rfl
      have n0 := fz7 0
      have n1 := fz7 1
      have n2 := fz7 2
      have n3 := fz7 3
      have n4 := fz7 4
      have n5 := fz7 5
      have HFB : Hid (Below w.heap.size w (six w4 w.heap.size 0 (.int .i64 5) (.bool false) (.int .i64 0) (.string ⟨#[]⟩) (.slice ad1 ks.length cap1) (.slice ad2 ks.length cap2))) := six_below HGO.out.below (Nat.le_refl _) _ _ _ _ _ _
      have HFL := hidE (map_lies (w := w) (w' := six w4 w.heap.size 0 (.int .i64 5) (.bool false) (.int .i64 0) (.string ⟨#[]⟩) (.slice ad1 ks.length cap1) (.slice ad2 ks.length cap2)) HPS.out (by omega) hs34 ok ol hcop (fun p hp => by
        have hpl : p < ks.length := by have := HRI.out.perm.subset hp; simpa using this
        rcases HKL.out.1 with e | ⟨_, _, _, _, h⟩
        · rw [e] at hpl; simp at hpl
        · exact (h p hpl).2) (fun q hq => six_heap (by omega)) six_size)
      clear hq7 fz7 hbx ok ol hcop hdis hup htake
      go_wp2_with fail
      exact bodyPost_ret (v := .tuple #[.agg #[.int .i64 5, .bool false, .int .i64 0, .string ⟨#[]⟩, .slice ad1 ks.length cap1, .slice ad2 ks.length cap2], .int .i64 0]) (by simp [results, Tryz.results50, go_sem, m0, m1, m2, m3, m4, m5]) rfl ⟨.inl ⟨⟨HLEN.out, HMO.out.nodup HLEN.out⟩, _, _, rfl, HMO.out, HFL.out⟩, HFB.out⟩
end Go.Proofs.YtbpmhgcjefpigaaGreatDoor
