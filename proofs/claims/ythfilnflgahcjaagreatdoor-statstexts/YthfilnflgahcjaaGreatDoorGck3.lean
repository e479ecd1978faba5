/- Numbers that rise: the program's word. -/
import Derived.Test.YthfilnflgahcjaaGreatDoorGck2
namespace Go.Proofs.YthfilnflgahcjaaGreatDoor
open Go.RowKit Go.Shelf
set_option linter.unusedVariables false
set_option linter.unusedSimpArgs false
attribute [local go_sem] Oper.semAt_some
/-- Do numbers rise from one on, up to another? -/
def riseI (next : Int) : Int → List Int → Bool
  | _, [] => decide (0 ≤ next) && decide (next ≤ 4611686018427387904)
  | l, x :: r => !decide (x < l) && (!decide (next ≤ x) && riseI next (x + 1) r)
theorem riseI_at {next l : Int} {ks : List Int} {j : Nat} {x : Int} (h : ks[j]? = some x) : riseI next l (ks.drop j) = (!decide (x < l) && (!decide (next ≤ x) && riseI next (x + 1) (ks.drop (j + 1)))) := by
  obtain ⟨hj, hx⟩ := List.getElem?_eq_some_iff.1 h
  rw [List.drop_eq_getElem_cons hj, hx, riseI]
set_option maxHeartbeats 1000000 in
theorem nodeNum_any (xi : Int) (la : Option Addr) (ll lc : Nat) (pa : Option Addr) (pl pc : Nat) (w : World) : Calls Tryz.prog 130 #[.agg #[.int .i64 xi, .slice la ll lc, .slice pa pl pc]] w fun e w' => e = .returned (.int .i64 xi) ∧ Below w.heap.size w w' := by
  go_enter Tryz.func130, Tryz.ntmps130
  go_upto_region 1 with fail
  generalize hW1 : World.alloc _ _ = W1
  have hr := rec_new w #[.int .i64 xi, .slice la ll lc, .slice pa pl pc] 73
  rw [hW1] at hr
  have HB1 : Hid (Below w.heap.size w W1) := by rw [← hW1]; exact (Below.refl _ _).alloc (Nat.le_refl _) _
  have q0 := hr.cell 0 rfl
  clear hW1 hr
  go_wp2_with fail
  go_ret
  exact ⟨rfl, HB1.out⟩
set_option maxHeartbeats 1000000 in
theorem relNum_any (xi fr tt : Int) (ty : ByteArray) (pa : Option Addr) (pl pc : Nat) (w : World) : Calls Tryz.prog 132 #[.agg #[.int .i64 xi, .int .i64 fr, .int .i64 tt, .string ty, .slice pa pl pc]] w fun e w' => e = .returned (.int .i64 xi) ∧ Below w.heap.size w w' := by
  go_enter Tryz.func132, Tryz.ntmps132
  go_upto_region 1 with fail
  generalize hW1 : World.alloc _ _ = W1
  have hr := rec_new w #[.int .i64 xi, .int .i64 fr, .int .i64 tt, .string ty, .slice pa pl pc] 71
  rw [hW1] at hr
  have HB1 : Hid (Below w.heap.size w W1) := by rw [← hW1]; exact (Below.refl _ _).alloc (Nat.le_refl _) _
  have q0 := hr.cell 0 rfl
  clear hW1 hr
  go_wp2_with fail
  go_ret
  exact ⟨rfl, HB1.out⟩
set_option maxRecDepth 100000 in
set_option maxHeartbeats 4000000 in
theorem risingN_any (ks : List NodeP) (next : Int) (B : Nat) (v : Value) (w : World) (hB : B ≤ w.heap.size) (hk : NodesLie B w v ks) (hx1 : -9223372036854775808 ≤ next) (hx2 : next ≤ 9223372036854775807) :
    Calls Tryz.prog 129 #[v, .func (.func 130) #[] #[], .int .i64 next] w fun e w' => e = .returned (.bool (riseI next 0 (ks.map NodeP.id))) ∧ Below w.heap.size w w' := by
  obtain ⟨ka, kc, rfl, h1, h2, hk3⟩ := hk
  have HK := hidE hk3
  obtain ⟨n, hn⟩ : ∃ n, ks.length = n := ⟨_, rfl⟩
  have HN := hidE hn
  rw [hn] at h1 ⊢
  obtain ⟨res, hres⟩ : ∃ r, riseI next 0 (ks.map NodeP.id) = r := ⟨_, rfl⟩
  have HR := hidE hres
  rw [hres]
  clear hk3 hn hres
  go_enter Tryz.func129, Tryz.ntmps129
  go_wp2_with fail
  go_loopw [13, 7] (fun i l wr => ∃ (j : Nat) (s : Int), j ≤ n ∧ i = .int .i64 j ∧ l = .int .i64 s ∧ 0 ≤ s ∧ Below w.heap.size w wr ∧ riseI next s ((ks.map NodeP.id).drop j) = res) (fun i _ _ => n - (intOf i).toNat)
  case atStart => exact ⟨0, 0, Nat.zero_le _, rfl, rfl, by omega, Below.refl _ _, HR.out⟩
  case round =>
    obtain ⟨j, s, hj, rfl, rfl, hs0, hbr, hrs⟩ := hrel
    have HBR := hidE hbr
    have HRS := hidE hrs
    have hwz : w.heap.size ≤ wr.heap.size := hbr.size
    clear hbr hrs
    by_cases hlt : j < n
    · have hlt' : (j : Int) < n := by omega
      obtain ⟨⟨xi, xl, xp⟩, hx⟩ : ∃ x, ks[j]? = some x := ⟨_, List.getElem?_eq_getElem (by have := HN.out; omega)⟩
      have HX : Hid ((ks.map NodeP.id)[j]? = some xi) := by
        show _ = _
        rw [List.getElem?_map, hx]; rfl
      obtain ⟨bl, off, rfl, hbl, hc⟩ := HK.out.resolve_left (by intro e; rw [e] at hx; simp at hx)
      obtain ⟨la, lc, pv, ⟨c0, c1, c2⟩, _, _, hp⟩ := (hc j _ hx).below (HBR.out.mono hB) hbl
      simp only at c0 c1 c2 hp
      obtain ⟨pa, pc, rfl, _, _, _⟩ := hp
      have HE2 : Hid (res = (!decide (xi < s) && (!decide (next ≤ xi) && riseI next (xi + 1) ((ks.map NodeP.id).drop (j + 1))))) := by
        show _ = _
        rw [← HRS.out, riseI_at HX.out]
      clear hc hx
      go_upto_region 5 with fail
      generalize hW2 : World.alloc _ _ = W2
      have hr2 := rec_new wr #[.int .i64 xi, .slice la xl.length lc, .slice pa xp.length pc] 73
      rw [hW2] at hr2
      have HB2 : Hid (Below wr.heap.size wr W2) := by rw [← hW2]; exact (Below.refl _ _).alloc (Nat.le_refl _) _
      have k0 := hr2.cell 0 rfl
      have k1 := hr2.cell 1 rfl
      have k2 := hr2.cell 2 rfl
      clear hW2 hr2 c0 c1 c2
      go_wp2_with fail
      refine (nodeNum_any xi la xl.length lc pa xp.length pc _).mono ?_
      rintro e w3 ⟨rfl, hb3⟩
      have HB3 := hidE (below_on HBR.out (below_on HB2.out hb3))
      clear hb3 k0 k1 k2
      by_cases a1 : xi < s
      · have HF : Hid (res = false) := by
          show _ = _
          rw [HE2.out, decide_eq_true a1]; rfl
        go_wp2_with fail
        go_ret
        exact ⟨by rw [HF.out]; rfl, HB3.out⟩
      · by_cases a2 : next ≤ xi
        · have HF : Hid (res = false) := by
            show _ = _
            rw [HE2.out, decide_eq_false a1, decide_eq_true a2]; rfl
          go_wp2_with fail
          go_ret
          exact ⟨by rw [HF.out]; rfl, HB3.out⟩
        · have HN2 : Hid (riseI next (xi + 1) ((ks.map NodeP.id).drop (j + 1)) = res) := by
            show _ = _
            rw [HE2.out, decide_eq_false a1, decide_eq_false a2]; rfl
          have hwr : IntKind.i64.wrap (xi + 1) = xi + 1 := by rw [IntKind.wrap_i64]; omega
          go_wp2_with fail
          go_roundw
          case rel => exact ⟨j + 1, xi + 1, by omega, by go_num, rfl, by omega, HB3.out, HN2.out⟩
          case measure => simp [intOf]; omega
    · have HF : Hid (res = (decide (0 ≤ next) && decide (next ≤ 4611686018427387904))) := by
        show _ = _
        rw [← HRS.out, List.drop_of_length_le (by have := HN.out; simp; omega)]; rfl
      have hlt' : ¬ (j : Int) < n := by omega
      by_cases b1 : 0 ≤ next
      · have HF2 : Hid (res = decide (next ≤ 4611686018427387904)) := by
          show _ = _
          rw [HF.out, decide_eq_true b1]; rfl
        go_wp2_with fail
        go_ret
        exact ⟨by rw [HF2.out]; rfl, HBR.out⟩
      · have HF2 : Hid (res = false) := by
          show _ = _
          rw [HF.out, decide_eq_false b1]; rfl
        go_wp2_with fail
        go_ret
        exact ⟨by rw [HF2.out]; rfl, HBR.out⟩
set_option maxRecDepth 100000 in
set_option maxHeartbeats 4000000 in
theorem risingR_any (ks : List RelP) (next : Int) (B : Nat) (v : Value) (w : World) (hB : B ≤ w.heap.size) (hk : RelsLie B w v ks) (hx1 : -9223372036854775808 ≤ next) (hx2 : next ≤ 9223372036854775807) :
    Calls Tryz.prog 131 #[v, .func (.func 132) #[] #[], .int .i64 next] w fun e w' => e = .returned (.bool (riseI next 0 (ks.map RelP.id))) ∧ Below w.heap.size w w' := by
  obtain ⟨ka, kc, rfl, h1, h2, hk3⟩ := hk
  have HK := hidE hk3
  obtain ⟨n, hn⟩ : ∃ n, ks.length = n := ⟨_, rfl⟩
  have HN := hidE hn
  rw [hn] at h1 ⊢
  obtain ⟨res, hres⟩ : ∃ r, riseI next 0 (ks.map RelP.id) = r := ⟨_, rfl⟩
  have HR := hidE hres
  rw [hres]
  clear hk3 hn hres
  go_enter Tryz.func131, Tryz.ntmps131
  go_wp2_with fail
  go_loopw [13, 7] (fun i l wr => ∃ (j : Nat) (s : Int), j ≤ n ∧ i = .int .i64 j ∧ l = .int .i64 s ∧ 0 ≤ s ∧ Below w.heap.size w wr ∧ riseI next s ((ks.map RelP.id).drop j) = res) (fun i _ _ => n - (intOf i).toNat)
  case atStart => exact ⟨0, 0, Nat.zero_le _, rfl, rfl, by omega, Below.refl _ _, HR.out⟩
  case round =>
    obtain ⟨j, s, hj, rfl, rfl, hs0, hbr, hrs⟩ := hrel
    have HBR := hidE hbr
    have HRS := hidE hrs
    have hwz : w.heap.size ≤ wr.heap.size := hbr.size
    clear hbr hrs
    by_cases hlt : j < n
    · have hlt' : (j : Int) < n := by omega
      obtain ⟨⟨xi, fr, tt, ty, xp⟩, hx⟩ : ∃ x, ks[j]? = some x := ⟨_, List.getElem?_eq_getElem (by have := HN.out; omega)⟩
      have HX : Hid ((ks.map RelP.id)[j]? = some xi) := by
        show _ = _
        rw [List.getElem?_map, hx]; rfl
      obtain ⟨bl, off, rfl, hbl, hc⟩ := HK.out.resolve_left (by intro e; rw [e] at hx; simp at hx)
      obtain ⟨pv, ⟨c0, c1, c2, c3, c4⟩, _, hp⟩ := (hc j _ hx).below (HBR.out.mono hB) hbl
      simp only at c0 c1 c2 c3 c4 hp
      obtain ⟨pa, pc, rfl, _, _, _⟩ := hp
      have HE2 : Hid (res = (!decide (xi < s) && (!decide (next ≤ xi) && riseI next (xi + 1) ((ks.map RelP.id).drop (j + 1))))) := by
        show _ = _
        rw [← HRS.out, riseI_at HX.out]
      clear hc hx
      go_upto_region 5 with fail
      generalize hW2 : World.alloc _ _ = W2
      have hr2 := rec_new wr #[.int .i64 xi, .int .i64 fr, .int .i64 tt, .string ty, .slice pa xp.length pc] 71
      rw [hW2] at hr2
      have HB2 : Hid (Below wr.heap.size wr W2) := by rw [← hW2]; exact (Below.refl _ _).alloc (Nat.le_refl _) _
      have k0 := hr2.cell 0 rfl
      have k1 := hr2.cell 1 rfl
      have k2 := hr2.cell 2 rfl
      have k3 := hr2.cell 3 rfl
      have k4 := hr2.cell 4 rfl
      clear hW2 hr2 c0 c1 c2 c3 c4
      go_wp2_with fail
      refine (relNum_any xi fr tt ty pa xp.length pc _).mono ?_
      rintro e w3 ⟨rfl, hb3⟩
      have HB3 := hidE (below_on HBR.out (below_on HB2.out hb3))
      clear hb3 k0 k1 k2 k3 k4
      by_cases a1 : xi < s
      · have HF : Hid (res = false) := by
          show _ = _
          rw [HE2.out, decide_eq_true a1]; rfl
        go_wp2_with fail
        go_ret
        exact ⟨by rw [HF.out]; rfl, HB3.out⟩
      · by_cases a2 : next ≤ xi
        · have HF : Hid (res = false) := by
            show _ = _
            rw [HE2.out, decide_eq_false a1, decide_eq_true a2]; rfl
          go_wp2_with fail
          go_ret
          exact ⟨by rw [HF.out]; rfl, HB3.out⟩
        · have HN2 : Hid (riseI next (xi + 1) ((ks.map RelP.id).drop (j + 1)) = res) := by
            show _ = _
            rw [HE2.out, decide_eq_false a1, decide_eq_false a2]; rfl
          have hwr : IntKind.i64.wrap (xi + 1) = xi + 1 := by rw [IntKind.wrap_i64]; omega
          go_wp2_with fail
          go_roundw
          case rel => exact ⟨j + 1, xi + 1, by omega, by go_num, rfl, by omega, HB3.out, HN2.out⟩
          case measure => simp [intOf]; omega
    · have HF : Hid (res = (decide (0 ≤ next) && decide (next ≤ 4611686018427387904))) := by
        show _ = _
        rw [← HRS.out, List.drop_of_length_le (by have := HN.out; simp; omega)]; rfl
      have hlt' : ¬ (j : Int) < n := by omega
      by_cases b1 : 0 ≤ next
      · have HF2 : Hid (res = decide (next ≤ 4611686018427387904)) := by
          show _ = _
          rw [HF.out, decide_eq_true b1]; rfl
        go_wp2_with fail
        go_ret
        exact ⟨by rw [HF2.out]; rfl, HBR.out⟩
      · have HF2 : Hid (res = false) := by
          show _ = _
          rw [HF.out, decide_eq_false b1]; rfl
        go_wp2_with fail
        go_ret
        exact ⟨by rw [HF2.out]; rfl, HBR.out⟩
set_option maxRecDepth 100000 in
set_option maxHeartbeats 4000000 in
theorem numbers_any (g : GraphP) (B : Nat) (v : Value) (w : World) (hB : B ≤ w.heap.size) (hg : GraphLies B w v g) (hn1 : -9223372036854775808 ≤ g.nn ∧ g.nn ≤ 9223372036854775807) (hn2 : -9223372036854775808 ≤ g.nr ∧ g.nr ≤ 9223372036854775807) : Calls Tryz.prog 101 #[v] w fun e w' => e = .returned (.bool (riseI g.nn 0 (g.nodes.map NodeP.id) && riseI g.nr 0 (g.rels.map RelP.id))) ∧ Below w.heap.size w w' := by
  obtain ⟨na, nc, ra, rc, rfl, hn, hr⟩ := hg
  have HK1 := hidE (fun W (hb : Below w.heap.size w W) => risingN_any g.nodes g.nn B _ W (by have := hb.size; omega) (hn.below (hb.mono hB)) hn1.1 hn1.2)
  have HK2 := hidE (fun W (hb : Below w.heap.size w W) => risingR_any g.rels g.nr B _ W (by have := hb.size; omega) (hr.below (hb.mono hB)) hn2.1 hn2.2)
  obtain ⟨ns, rs, nn, nr⟩ := g
  simp only at HK1 HK2 ⊢
  obtain ⟨b1, hb1⟩ : ∃ b, riseI nn 0 (ns.map NodeP.id) = b := ⟨_, rfl⟩
  obtain ⟨b2, hb2⟩ : ∃ b, riseI nr 0 (rs.map RelP.id) = b := ⟨_, rfl⟩
  rw [hb1] at HK1 ⊢
  rw [hb2] at HK2 ⊢
  generalize ns.length = n at *
  generalize rs.length = m at *
  clear hb1 hb2 hn hr
  go_enter Tryz.func101, Tryz.ntmps101
  go_upto_region 1 with fail
  generalize hW1 : World.alloc _ _ = W1
  have hr1 := rec_new w #[.slice na n nc, .slice ra m rc, .int .i64 nn, .int .i64 nr] 25
  rw [hW1] at hr1
  have HB1 : Hid (Below w.heap.size w W1) := by rw [← hW1]; exact (Below.refl _ _).alloc (Nat.le_refl _) _
  have HR1 := hidE hr1
  have q0 := hr1.cell 0 rfl
  have q2 := hr1.cell 2 rfl
  clear hW1 hr1
  go_wp2_with fail
  refine (HK1.out W1 HB1.out).mono ?_
  rintro e w2 ⟨rfl, hb2⟩
  have HB2 := hidE (below_on HB1.out hb2)
  have k1 := (HR1.out.below hb2 HR1.out.lt).cell 1 rfl
  have k3 := (HR1.out.below hb2 HR1.out.lt).cell 3 rfl
  clear hb2 q0 q2
  cases b1 with
  | false =>
    go_wp2_with fail
    go_ret
    exact ⟨rfl, HB2.out⟩
  | true =>
    go_wp2_with fail
    refine (HK2.out w2 HB2.out).mono ?_
    rintro e w3 ⟨rfl, hb3⟩
    have HB3 := hidE (below_on HB2.out hb3)
    clear hb3 k1 k3
    go_wp2_with fail
    go_ret
    exact ⟨rfl, HB3.out⟩
end Go.Proofs.YthfilnflgahcjaaGreatDoor
