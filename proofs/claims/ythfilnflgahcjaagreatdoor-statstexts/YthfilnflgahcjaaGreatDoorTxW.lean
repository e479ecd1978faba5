/- StatsTexts' own walk. -/
import Derived.Test.YthfilnflgahcjaaGreatDoorPtxt
import Derived.Test.YthfilnflgahcjaaGreatDoorRsam
import Derived.Test.YthfilnflgahcjaaGreatDoorJoin34
namespace Go.Proofs.YthfilnflgahcjaaGreatDoor
open Go.RowKit Go.Shelf Go.Maps
set_option linter.unusedVariables false
set_option linter.unusedSimpArgs false
attribute [local go_sem] Oper.semAt_some
def sz1 {α : Type} (f : α → Nat) (xs : List α) : Nat := (xs.map f).sum
theorem sz1_step {α : Type} {f : α → Nat} {xs : List α} {j : Nat} {x : α} (h : xs[j]? = some x) : sz1 f (xs.take (j + 1)) = sz1 f (xs.take j) + f x := by
  unfold sz1
  rw [List.take_add_one, h]; simp
theorem sz1_mem {α : Type} {f : α → Nat} : ∀ {xs : List α} {x : α}, x ∈ xs → f x ≤ sz1 f xs
  | y :: xs, x, h => by
    unfold sz1
    rw [List.map_cons, List.sum_cons]
    rcases List.mem_cons.1 h with rfl | h
    · omega
    · have := sz1_mem (f := f) h; unfold sz1 at this; omega
theorem sz1_le {α : Type} {f : α → Nat} {K : Nat} : ∀ {xs : List α}, (∀ x ∈ xs, f x ≤ K) → sz1 f xs ≤ K * xs.length
  | [], _ => by simp [sz1]
  | y :: xs, h => by
    have h1 := h y List.mem_cons_self
    have h2 := sz1_le (f := f) (xs := xs) fun x hx => h x (List.mem_cons_of_mem _ hx)
    unfold sz1 at h2 ⊢
    rw [List.map_cons, List.sum_cons, List.length_cons, Nat.mul_add]
    omega
theorem sz1_take {α : Type} {f : α → Nat} {K : Nat} {xs : List α} (j : Nat) (h : ∀ x ∈ xs, f x ≤ K) : sz1 f (xs.take j) ≤ K * xs.length := by
  have h1 := sz1_le (f := f) (xs := xs.take j) fun x hx => h x (List.mem_of_mem_take hx)
  have h2 : (xs.take j).length ≤ xs.length := by rw [List.length_take]; omega
  exact Nat.le_trans h1 (Nat.mul_le_mul_left K h2)
def fL (x : ByteArray × Int) : Nat := x.1.size
def fE (x : EndR) : Nat := x.1.size + x.2.1.size
def fK (x : KeyR) : Nat := x.1.size + x.2.1.size
set_option maxRecDepth 100000 in
set_option maxHeartbeats 16000000 in
theorem texts_law (a b : StatP) (vl vt ve vk ul ut ue uk : Value) (B : Nat) (w : World) (hB : B ≤ w.heap.size) (hE : Env2 w) (ha : StatO B w vl vt ve vk a) (hb : StatO B w ul ut ue uk b) (hz : StatZ a) :
    Calls Tryz.prog 5 #[statV a vl vt ve vk, statV b ul ut ue uk] w fun e w' => e = .returned (.bool true) ∧ Below w.heap.size w w' := by
  have HE := hidE hE
  have HOA := hidE ha
  have HOB := hidE hb
  have HZ := hidE hz
  obtain ⟨pla, plc, rfl, pl1, pl2, -⟩ := ha.hl
  obtain ⟨pta, ptc, rfl, pt1, pt2, -⟩ := ha.ht
  obtain ⟨pea, pec, rfl, pe1, pe2, -⟩ := ha.he
  obtain ⟨pka, pkc, rfl, pk1, pk2, -⟩ := ha.hk
  obtain ⟨qla, qlc, rfl, ql1, ql2, -⟩ := hb.hl
  obtain ⟨qta, qtc, rfl, qt1, qt2, -⟩ := hb.ht
  obtain ⟨qea, qec, rfl, qe1, qe2, -⟩ := hb.he
  obtain ⟨qka, qkc, rfl, qk1, qk2, -⟩ := hb.hk
  obtain ⟨pn, hpn⟩ : ∃ n, a.nodes = n := ⟨_, rfl⟩
  obtain ⟨pr, hpr⟩ : ∃ n, a.rels = n := ⟨_, rfl⟩
  obtain ⟨plm, hplm⟩ : ∃ n, a.labels.length = n := ⟨_, rfl⟩
  obtain ⟨ptm, hptm⟩ : ∃ n, a.types.length = n := ⟨_, rfl⟩
  obtain ⟨pem, hpem⟩ : ∃ n, a.ends.length = n := ⟨_, rfl⟩
  obtain ⟨pkm, hpkm⟩ : ∃ n, a.keys.length = n := ⟨_, rfl⟩
  obtain ⟨qn, hqn⟩ : ∃ n, b.nodes = n := ⟨_, rfl⟩
  obtain ⟨qr, hqr⟩ : ∃ n, b.rels = n := ⟨_, rfl⟩
  obtain ⟨qlm, hqlm⟩ : ∃ n, b.labels.length = n := ⟨_, rfl⟩
  obtain ⟨qtm, hqtm⟩ : ∃ n, b.types.length = n := ⟨_, rfl⟩
  obtain ⟨qem, hqem⟩ : ∃ n, b.ends.length = n := ⟨_, rfl⟩
  obtain ⟨qkm, hqkm⟩ : ∃ n, b.keys.length = n := ⟨_, rfl⟩
  have HLEN := hidE (And.intro hplm (And.intro hptm (And.intro hpem hpkm)))
  have HVp : Hid (statV a (.slice pla plm plc) (.slice pta ptm ptc) (.slice pea pem pec) (.slice pka pkm pkc) = .agg #[.int .i64 pn, .int .i64 pr, .slice pla plm plc, .slice pta ptm ptc, .slice pea pem pec, .slice pka pkm pkc]) := by
    show _ = _
    unfold statV; rw [hpn, hpr]
  have HVq : Hid (statV b (.slice qla qlm qlc) (.slice qta qtm qtc) (.slice qea qem qec) (.slice qka qkm qkc) = .agg #[.int .i64 qn, .int .i64 qr, .slice qla qlm qlc, .slice qta qtm qtc, .slice qea qem qec, .slice qka qkm qkc]) := by
    show _ = _
    unfold statV; rw [hqn, hqr]
  rw [hplm] at pl1 HOA
  rw [hptm] at pt1 HOA
  rw [hpem] at pe1 HOA
  rw [hpkm] at pk1 HOA
  rw [hqlm] at ql1 HOB
  rw [hqtm] at qt1 HOB
  rw [hqem] at qe1 HOB
  rw [hqkm] at qk1 HOB
  rw [hplm, hptm, hpem, hpkm, hqlm, hqtm, hqem, hqkm, HVp.out, HVq.out]
  have HFp : Hid (∀ W, Below w.heap.size w W → Calls Tryz.prog 16 #[.agg #[.int .i64 pn, .int .i64 pr, .slice pla plm plc, .slice pta ptm ptc, .slice pea pem pec, .slice pka pkm pkc]] W fun e w' => e = .returned (.bool (fewB a)) ∧ Below W.heap.size W w') := fun W hb => by
    have := HOA.out
    have h2 := few_anyO a _ _ _ _ B W ⟨this.hl.keep (hb.mono hB), this.ht.keep (hb.mono hB), this.he.keep (hb.mono hB), this.hk.keep (hb.mono hB), this.ol, this.ot, this.oe, this.ok, this.nl, this.nt, this.ne, this.nk⟩
    rwa [HVp.out] at h2
  have HFq : Hid (∀ W, Below w.heap.size w W → Calls Tryz.prog 16 #[.agg #[.int .i64 qn, .int .i64 qr, .slice qla qlm qlc, .slice qta qtm qtc, .slice qea qem qec, .slice qka qkm qkc]] W fun e w' => e = .returned (.bool (fewB b)) ∧ Below W.heap.size W w') := fun W hb => by
    have := HOB.out
    have h2 := few_anyO b _ _ _ _ B W ⟨this.hl.keep (hb.mono hB), this.ht.keep (hb.mono hB), this.he.keep (hb.mono hB), this.hk.keep (hb.mono hB), this.ol, this.ot, this.oe, this.ok, this.nl, this.nt, this.ne, this.nk⟩
    rwa [HVq.out] at h2
  have HWK : Hid (∀ W, Below w.heap.size w W → Calls Tryz.prog 10 #[] W fun e w' => e = .returned (.bool true) ∧ Below W.heap.size W w') := fun W hb => works_any W (HE.out.e.below hb HE.out.e.room)
  clear ha hb hz hE hpn hpr hqn hqr hplm hptm hpem hpkm hqlm hqtm hqem hqkm
  go_enter Tryz.func5, Tryz.ntmps5
  go_upto_region 1 with fail
  obtain ⟨W1, hW1⟩ : ∃ W, w.alloc (.cells #[.int .i64 pn, .int .i64 pr, .slice pla plm plc, .slice pta ptm ptc, .slice pea pem pec, .slice pka pkm pkc] 33) = W := ⟨_, rfl⟩
  have hz1 : W1.heap.size = w.heap.size + 1 := by rw [← hW1]; simp
  have HP0 := hidE (sbox_new w (.int .i64 pn) (.int .i64 pr) (.slice pla plm plc) (.slice pta ptm ptc) (.slice pea pem pec) (.slice pka pkm pkc) 33)
  have HB1 := hidE (below_new w (.cells #[.int .i64 pn, .int .i64 pr, .slice pla plm plc, .slice pta ptm ptc, .slice pea pem pec, .slice pka pkm pkc] 33))
  rw [hW1] at HP0 HB1
  obtain ⟨W2, hW2⟩ : ∃ W, W1.alloc (.cells #[.int .i64 qn, .int .i64 qr, .slice qla qlm qlc, .slice qta qtm qtc, .slice qea qem qec, .slice qka qkm qkc] 33) = W := ⟨_, rfl⟩
  have HQ2 := hidE (sbox_new W1 (.int .i64 qn) (.int .i64 qr) (.slice qla qlm qlc) (.slice qta qtm qtc) (.slice qea qem qec) (.slice qka qkm qkc) 33)
  have HB12 := hidE (below_new W1 (.cells #[.int .i64 qn, .int .i64 qr, .slice qla qlm qlc, .slice qta qtm qtc, .slice qea qem qec, .slice qka qkm qkc] 33))
  rw [hW2] at HQ2 HB12
  rw [hz1] at HQ2
  have HP2 := hidE (HP0.out.keep HB12.out)
  have HB2 := hidE (Below.on HB1.out HB12.out)
  try rw [hW1]
  try rw [hW2]
  clear hW1 hW2 hz1 HP0 HB1 HB12
  have f0 := HP2.out.c0
  have f1 := HP2.out.c1
  have f2 := HP2.out.c2
  have f3 := HP2.out.c3
  have f4 := HP2.out.c4
  have f5 := HP2.out.c5
  go_wp2_with fail
  refine (HFp.out _ HB2.out).mono ?_
  rintro e W3 ⟨rfl, hb3⟩
  have HB3 := hidE (Below.on HB2.out hb3)
  have HC3 := hidE hb3
  clear hb3 f0 f1 f2 f3 f4 f5
  obtain ⟨fa, hfa⟩ : ∃ z, fewB a = z := ⟨_, rfl⟩
  have HFA := hidE hfa
  rw [hfa]
  clear hfa
  cases fa with
  | false =>
    go_wp2_with (go_at_call 10; refine (HWK.out _ HB3.out).mono ?_; rintro e W4 ⟨rfl, y1⟩; have HY := hidE (Below.on HB3.out y1); clear y1)
    go_ret
    exact ⟨rfl, HY.out⟩
  | true =>
    have g0 := (HQ2.out.keep HC3.out).c0
    have g1 := (HQ2.out.keep HC3.out).c1
    have g2 := (HQ2.out.keep HC3.out).c2
    have g3 := (HQ2.out.keep HC3.out).c3
    have g4 := (HQ2.out.keep HC3.out).c4
    have g5 := (HQ2.out.keep HC3.out).c5
    go_wp2_with fail
    refine (HFq.out _ HB3.out).mono ?_
    rintro e W4 ⟨rfl, hb4⟩
    have HB4 := hidE (Below.on HB3.out hb4)
    have HC4 := hidE (Below.on HC3.out hb4)
    clear hb4 g0 g1 g2 g3 g4 g5
    obtain ⟨fb, hfb⟩ : ∃ z, fewB b = z := ⟨_, rfl⟩
    have HFB := hidE hfb
    rw [hfb]
    clear hfb
    cases fb with
    | false =>
      go_wp2_with (go_at_call 10; refine (HWK.out _ HB4.out).mono ?_; rintro e W5 ⟨rfl, y1⟩; have HY := hidE (Below.on HB4.out y1); clear y1)
      go_ret
      exact ⟨rfl, HY.out⟩
    | true =>
      have hfa' := of_decide_eq_true HFA.out
      have hfb' := of_decide_eq_true HFB.out
      have HK : Hid ((plm ≤ 300 ∧ ptm ≤ 300 ∧ pem ≤ 300 ∧ pkm ≤ 300)) := by
        show _ ∧ _ ∧ _ ∧ _
        have := HLEN.out
        omega
      have HSA : Hid (StatL B W4 (.slice pla plm plc) (.slice pta ptm ptc) (.slice pea pem pec) (.slice pka pkm pkc) a) := by
        have hb := HB4.out.mono hB
        have := HOA.out
        exact StatO.lies ⟨this.hl.keep hb, this.ht.keep hb, this.he.keep hb, this.hk.keep hb, this.ol, this.ot, this.oe, this.ok, this.nl, this.nt, this.ne, this.nk⟩ HFA.out
      have HSB : Hid (StatL B W4 (.slice qla qlm qlc) (.slice qta qtm qtc) (.slice qea qem qec) (.slice qka qkm qkc) b) := by
        have hb := HB4.out.mono hB
        have := HOB.out
        exact StatO.lies ⟨this.hl.keep hb, this.ht.keep hb, this.he.keep hb, this.hk.keep hb, this.ol, this.ot, this.oe, this.ok, this.nl, this.nt, this.ne, this.nk⟩ HFB.out
      have HPX := hidE (HP2.out.keep HC4.out)
      have HQX := hidE (HQ2.out.keep HC4.out)
      clear HOA HOB HFA HFB hfa' hfb' HFp HFq HP2 HQ2 HC3 HC4 HB3 HB2
      have f2 := HPX.out.c2
      go_wp2_with fail
      clear f2
      go_loopw [6, 5] (fun i r wr => ∃ (j : Nat), j ≤ plm ∧ i = .int .i64 j ∧ r = .int .i64 ((0 + sz1 fL (a.labels.take j) : Nat) : Int) ∧ Below W4.heap.size W4 wr) (fun i _ _ => plm - (intOf i).toNat)
      case atStart => exact ⟨0, Nat.zero_le _, rfl, by rw [List.take_zero]; simp [sz1], Below.refl _ _⟩
      case round =>
        obtain ⟨j, hj, rfl, rfl, hbr⟩ := hrel
        have HBR := hidE hbr
        have HB5 := hidE (Below.on HB4.out hbr)
        have f2 := (HPX.out.keep hbr).c2
        clear hbr
        have HSUM : Hid (0 + sz1 fL (a.labels.take j) ≤ 1000000000000000000) := by
          show _ ≤ _
          have sl := sz1_take (f := fL) (K := 140737488355328) (xs := a.labels) j (fun x hx => by have := (HZ.out.l x hx).2; unfold fL; unfold reachBytes at this; omega)
          have h1 := HK.out
          have h2 := HLEN.out
          omega
        have HSTEP : Hid (∀ x, a.labels[j]? = some x → 0 + sz1 fL (a.labels.take (j + 1)) = 0 + sz1 fL (a.labels.take j) + fL x) := fun x hx => by rw [sz1_step hx]; omega
        obtain ⟨N, hN⟩ : ∃ N, 0 + sz1 fL (a.labels.take j) = N := ⟨_, rfl⟩
        have HN := hidE hN
        rw [hN] at HSUM HSTEP ⊢
        clear hN
        by_cases hlt : j < plm
        · have hlt' : (j : Int) < plm := by omega
          obtain ⟨⟨x, q⟩, hx⟩ : ∃ q, a.labels[j]? = some q := ⟨_, List.getElem?_eq_getElem (by have := HLEN.out; omega)⟩
          have hzx := HZ.out.l _ (List.mem_of_getElem? hx)
          have HST := hidE (HSTEP.out _ hx)
          obtain ⟨_, _, ea, _, _, hca⟩ := HSA.out.hl
          injection ea with ea1 ea2 ea3
          subst ea1 ea3
          obtain ⟨bl, off, rfl, hbl, hc⟩ := hca.resolve_left (by intro e; rw [e] at hx; simp at hx)
          have c0 := (HBR.out.cell (p := ⟨bl, off + j * 2 + 0, none⟩) (Nat.lt_of_lt_of_le hbl (Nat.le_trans hB HB4.out.size))).trans (hc j _ hx 0 _ rfl)
          rw [Nat.add_zero] at c0
          simp only at c0
          have hsx : x.size ≤ 140737488355328 := by have := hzx.2; unfold reachBytes at this; exact Nat.le_trans this (by decide)
          have hs1 := HSUM.out
          clear hx hc hca hzx
          go_wp2_with fail
          go_roundw
          case rel => exact ⟨j + 1, by omega, by go_num, by rw [HST.out]; simp only [fL]; go_num, HBR.out⟩
          case measure => simp [intOf]; omega
        · have hlt' : ¬ (j : Int) < plm := by omega
          have HNE : Hid (N = 0 + sz1 fL a.labels) := by
            show _ = _
            rw [← HN.out, List.take_of_length_le (by have := HLEN.out; omega)]
          have HBXl := hidE HBR.out
          have hs1 := HSUM.out
          rw [HNE.out]
          clear HN HSUM HSTEP HNE HB5 HBR hs1
          have f3 := (HPX.out.keep HBXl.out).c3
          go_wp2_with fail
          clear f3
          go_loopw [7, 5] (fun i r wr => ∃ (j : Nat), j ≤ ptm ∧ i = .int .i64 j ∧ r = .int .i64 (((sz1 fL a.labels) + sz1 fL (a.types.take j) : Nat) : Int) ∧ Below W4.heap.size W4 wr) (fun i _ _ => ptm - (intOf i).toNat)
          case atStart => exact ⟨0, Nat.zero_le _, rfl, by rw [List.take_zero]; simp [sz1], HBXl.out⟩
          case round =>
            obtain ⟨j, hj, rfl, rfl, hbr⟩ := hrel
            have HBR := hidE hbr
            have HB5 := hidE (Below.on HB4.out hbr)
            have f3 := (HPX.out.keep hbr).c3
            clear HBXl
            clear hbr
            have HSUM : Hid ((sz1 fL a.labels) + sz1 fL (a.types.take j) ≤ 1000000000000000000) := by
              show _ ≤ _
              have sl := sz1_le (f := fL) (K := 140737488355328) (xs := a.labels) (fun x hx => by have := (HZ.out.l x hx).2; unfold fL; unfold reachBytes at this; omega)
              have st := sz1_take (f := fL) (K := 140737488355328) (xs := a.types) j (fun x hx => by have := (HZ.out.t x hx).2; unfold fL; unfold reachBytes at this; omega)
              have h1 := HK.out
              have h2 := HLEN.out
              omega
            have HSTEP : Hid (∀ x, a.types[j]? = some x → (sz1 fL a.labels) + sz1 fL (a.types.take (j + 1)) = (sz1 fL a.labels) + sz1 fL (a.types.take j) + fL x) := fun x hx => by rw [sz1_step hx]; omega
            obtain ⟨N, hN⟩ : ∃ N, (sz1 fL a.labels) + sz1 fL (a.types.take j) = N := ⟨_, rfl⟩
            have HN := hidE hN
            rw [hN] at HSUM HSTEP ⊢
            clear hN
            by_cases hlt : j < ptm
            · have hlt' : (j : Int) < ptm := by omega
              obtain ⟨⟨x, q⟩, hx⟩ : ∃ q, a.types[j]? = some q := ⟨_, List.getElem?_eq_getElem (by have := HLEN.out; omega)⟩
              have hzx := HZ.out.t _ (List.mem_of_getElem? hx)
              have HST := hidE (HSTEP.out _ hx)
              obtain ⟨_, _, ea, _, _, hca⟩ := HSA.out.ht
              injection ea with ea1 ea2 ea3
              subst ea1 ea3
              obtain ⟨bl, off, rfl, hbl, hc⟩ := hca.resolve_left (by intro e; rw [e] at hx; simp at hx)
              have c0 := (HBR.out.cell (p := ⟨bl, off + j * 2 + 0, none⟩) (Nat.lt_of_lt_of_le hbl (Nat.le_trans hB HB4.out.size))).trans (hc j _ hx 0 _ rfl)
              rw [Nat.add_zero] at c0
              simp only at c0
              have hsx : x.size ≤ 140737488355328 := by have := hzx.2; unfold reachBytes at this; exact Nat.le_trans this (by decide)
              have hs1 := HSUM.out
              clear hx hc hca hzx
              go_wp2_with fail
              go_roundw
              case rel => exact ⟨j + 1, by omega, by go_num, by rw [HST.out]; simp only [fL]; go_num, HBR.out⟩
              case measure => simp [intOf]; omega
            · have hlt' : ¬ (j : Int) < ptm := by omega
              have HNE : Hid (N = (sz1 fL a.labels) + sz1 fL a.types) := by
                show _ = _
                rw [← HN.out, List.take_of_length_le (by have := HLEN.out; omega)]
              have HBXt := hidE HBR.out
              have hs1 := HSUM.out
              rw [HNE.out]
              clear HN HSUM HSTEP HNE HB5 HBR hs1
              have f4 := (HPX.out.keep HBXt.out).c4
              go_wp2_with fail
              clear f4
              go_loopw [8, 5] (fun i r wr => ∃ (j : Nat), j ≤ pem ∧ i = .int .i64 j ∧ r = .int .i64 (((sz1 fL a.labels + sz1 fL a.types) + sz1 fE (a.ends.take j) : Nat) : Int) ∧ Below W4.heap.size W4 wr) (fun i _ _ => pem - (intOf i).toNat)
              case atStart => exact ⟨0, Nat.zero_le _, rfl, by rw [List.take_zero]; simp [sz1], HBXt.out⟩
              case round =>
                obtain ⟨j, hj, rfl, rfl, hbr⟩ := hrel
                have HBR := hidE hbr
                have HB5 := hidE (Below.on HB4.out hbr)
                have f4 := (HPX.out.keep hbr).c4
                clear HBXt
                clear hbr
                have HSUM : Hid ((sz1 fL a.labels + sz1 fL a.types) + sz1 fE (a.ends.take j) ≤ 1000000000000000000) := by
                  show _ ≤ _
                  have sl := sz1_le (f := fL) (K := 140737488355328) (xs := a.labels) (fun x hx => by have := (HZ.out.l x hx).2; unfold fL; unfold reachBytes at this; omega)
                  have st := sz1_le (f := fL) (K := 140737488355328) (xs := a.types) (fun x hx => by have := (HZ.out.t x hx).2; unfold fL; unfold reachBytes at this; omega)
                  have se := sz1_take (f := fE) (K := 281474976710656) (xs := a.ends) j (fun x hx => by have h1 := (HZ.out.e x hx).2.1; have h2 := (HZ.out.e x hx).2.2; unfold fE; unfold reachBytes at h1 h2; omega)
                  have h1 := HK.out
                  have h2 := HLEN.out
                  omega
                have HSTEP : Hid (∀ x, a.ends[j]? = some x → (sz1 fL a.labels + sz1 fL a.types) + sz1 fE (a.ends.take (j + 1)) = (sz1 fL a.labels + sz1 fL a.types) + sz1 fE (a.ends.take j) + fE x) := fun x hx => by rw [sz1_step hx]; omega
                obtain ⟨N, hN⟩ : ∃ N, (sz1 fL a.labels + sz1 fL a.types) + sz1 fE (a.ends.take j) = N := ⟨_, rfl⟩
                have HN := hidE hN
                rw [hN] at HSUM HSTEP ⊢
                clear hN
                by_cases hlt : j < pem
                · have hlt' : (j : Int) < pem := by omega
                  obtain ⟨⟨x, y, o, q⟩, hx⟩ : ∃ q, a.ends[j]? = some q := ⟨_, List.getElem?_eq_getElem (by have := HLEN.out; omega)⟩
                  have hzx := HZ.out.e _ (List.mem_of_getElem? hx)
                  have HST := hidE (HSTEP.out _ hx)
                  obtain ⟨_, _, ea, _, _, hca⟩ := HSA.out.he
                  injection ea with ea1 ea2 ea3
                  subst ea1 ea3
                  obtain ⟨bl, off, rfl, hbl, hc⟩ := hca.resolve_left (by intro e; rw [e] at hx; simp at hx)
                  have c0 := (HBR.out.cell (p := ⟨bl, off + j * 4 + 0, none⟩) (Nat.lt_of_lt_of_le hbl (Nat.le_trans hB HB4.out.size))).trans (hc j _ hx 0 _ rfl)
                  have c1 := (HBR.out.cell (p := ⟨bl, off + j * 4 + 1, none⟩) (Nat.lt_of_lt_of_le hbl (Nat.le_trans hB HB4.out.size))).trans (hc j _ hx 1 _ rfl)
                  rw [Nat.add_zero] at c0
                  simp only at c0 c1
                  have hsx : x.size ≤ 140737488355328 := by have := hzx.2.1; unfold reachBytes at this; exact Nat.le_trans this (by decide)
                  have hsy : y.size ≤ 140737488355328 := by have := hzx.2.2; unfold reachBytes at this; exact Nat.le_trans this (by decide)
                  have hs1 := HSUM.out
                  have fx0 : ∀ u : Up wr, u.x.cell? ⟨bl, off + j * 4, none⟩ = some (.string x) := fun u => u.cell c0
                  have fx1 : ∀ u : Up wr, u.x.cell? ⟨bl, off + j * 4 + 1, none⟩ = some (.string y) := fun u => u.cell c1
                  have fa : ∀ u : Up wr, u.x.cell? ⟨w.heap.size, 4, none⟩ = some (.slice (some ⟨bl, off, none⟩) pem pec) := fun u => u.cell f4
                  have up_ne : Nonempty (Up wr) := ⟨⟨wr, Below.refl _ _⟩⟩
                  clear hx hc hca hzx c0 c1
                  go_upto_region 15 with fail
                  clear f4
                  refine wp_up (by kernel_rfl) (by kernel_rfl) ?_
                  repeat (go_big_quiet_step (fail))
                  refine wpQuiet_nil ?_
                  rintro w4 ⟨⟨W5, hb5⟩, rfl⟩
                  have HB6 := hidE (Below.on HBR.out hb5)
                  clear fx0 fx1 fa up_ne hb5
                  go_wp2_with fail
                  go_roundw
                  case rel => exact ⟨j + 1, by omega, by go_num, by rw [HST.out]; simp only [fE]; go_num, HB6.out⟩
                  case measure => simp [intOf]; omega
                · have hlt' : ¬ (j : Int) < pem := by omega
                  have HNE : Hid (N = (sz1 fL a.labels + sz1 fL a.types) + sz1 fE a.ends) := by
                    show _ = _
                    rw [← HN.out, List.take_of_length_le (by have := HLEN.out; omega)]
                  have HBXe := hidE HBR.out
                  have hs1 := HSUM.out
                  rw [HNE.out]
                  clear HN HSUM HSTEP HNE HB5 HBR hs1
                  have f5 := (HPX.out.keep HBXe.out).c5
                  go_wp2_with fail
                  clear f5
                  go_loopw [9, 5] (fun i r wr => ∃ (j : Nat), j ≤ pkm ∧ i = .int .i64 j ∧ r = .int .i64 (((sz1 fL a.labels + sz1 fL a.types + sz1 fE a.ends) + sz1 fK (a.keys.take j) : Nat) : Int) ∧ Below W4.heap.size W4 wr) (fun i _ _ => pkm - (intOf i).toNat)
                  case atStart => exact ⟨0, Nat.zero_le _, rfl, by rw [List.take_zero]; simp [sz1], HBXe.out⟩
                  case round =>
                    obtain ⟨j, hj, rfl, rfl, hbr⟩ := hrel
                    have HBR := hidE hbr
                    have HB5 := hidE (Below.on HB4.out hbr)
                    have f5 := (HPX.out.keep hbr).c5
                    clear HBXe
                    clear hbr
                    have HSUM : Hid ((sz1 fL a.labels + sz1 fL a.types + sz1 fE a.ends) + sz1 fK (a.keys.take j) ≤ 1000000000000000000) := by
                      show _ ≤ _
                      have sl := sz1_le (f := fL) (K := 140737488355328) (xs := a.labels) (fun x hx => by have := (HZ.out.l x hx).2; unfold fL; unfold reachBytes at this; omega)
                      have st := sz1_le (f := fL) (K := 140737488355328) (xs := a.types) (fun x hx => by have := (HZ.out.t x hx).2; unfold fL; unfold reachBytes at this; omega)
                      have se := sz1_le (f := fE) (K := 281474976710656) (xs := a.ends) (fun x hx => by have h1 := (HZ.out.e x hx).2.1; have h2 := (HZ.out.e x hx).2.2; unfold fE; unfold reachBytes at h1 h2; omega)
                      have sk := sz1_take (f := fK) (K := 281474976710656) (xs := a.keys) j (fun x hx => by have h1 := (HZ.out.k x hx).2.1; have h2 := (HZ.out.k x hx).2.2; unfold fK; unfold reachBytes at h1 h2; omega)
                      have h1 := HK.out
                      have h2 := HLEN.out
                      omega
                    have HSTEP : Hid (∀ x, a.keys[j]? = some x → (sz1 fL a.labels + sz1 fL a.types + sz1 fE a.ends) + sz1 fK (a.keys.take (j + 1)) = (sz1 fL a.labels + sz1 fL a.types + sz1 fE a.ends) + sz1 fK (a.keys.take j) + fK x) := fun x hx => by rw [sz1_step hx]; omega
                    obtain ⟨N, hN⟩ : ∃ N, (sz1 fL a.labels + sz1 fL a.types + sz1 fE a.ends) + sz1 fK (a.keys.take j) = N := ⟨_, rfl⟩
                    have HN := hidE hN
                    rw [hN] at HSUM HSTEP ⊢
                    clear hN
                    by_cases hlt : j < pkm
                    · have hlt' : (j : Int) < pkm := by omega
                      obtain ⟨⟨x, y, o, q⟩, hx⟩ : ∃ q, a.keys[j]? = some q := ⟨_, List.getElem?_eq_getElem (by have := HLEN.out; omega)⟩
                      have hzx := HZ.out.k _ (List.mem_of_getElem? hx)
                      have HST := hidE (HSTEP.out _ hx)
                      obtain ⟨_, _, ea, _, _, hca⟩ := HSA.out.hk
                      injection ea with ea1 ea2 ea3
                      subst ea1 ea3
                      obtain ⟨bl, off, rfl, hbl, hc⟩ := hca.resolve_left (by intro e; rw [e] at hx; simp at hx)
                      have c0 := (HBR.out.cell (p := ⟨bl, off + j * 4 + 0, none⟩) (Nat.lt_of_lt_of_le hbl (Nat.le_trans hB HB4.out.size))).trans (hc j _ hx 0 _ rfl)
                      have c1 := (HBR.out.cell (p := ⟨bl, off + j * 4 + 1, none⟩) (Nat.lt_of_lt_of_le hbl (Nat.le_trans hB HB4.out.size))).trans (hc j _ hx 1 _ rfl)
                      rw [Nat.add_zero] at c0
                      simp only at c0 c1
                      have hsx : x.size ≤ 140737488355328 := by have := hzx.2.1; unfold reachBytes at this; exact Nat.le_trans this (by decide)
                      have hsy : y.size ≤ 140737488355328 := by have := hzx.2.2; unfold reachBytes at this; exact Nat.le_trans this (by decide)
                      have hs1 := HSUM.out
                      have fx0 : ∀ u : Up wr, u.x.cell? ⟨bl, off + j * 4, none⟩ = some (.string x) := fun u => u.cell c0
                      have fx1 : ∀ u : Up wr, u.x.cell? ⟨bl, off + j * 4 + 1, none⟩ = some (.string y) := fun u => u.cell c1
                      have fa : ∀ u : Up wr, u.x.cell? ⟨w.heap.size, 5, none⟩ = some (.slice (some ⟨bl, off, none⟩) pkm pkc) := fun u => u.cell f5
                      have up_ne : Nonempty (Up wr) := ⟨⟨wr, Below.refl _ _⟩⟩
                      clear hx hc hca hzx c0 c1
                      go_upto_region 19 with fail
                      clear f5
                      refine wp_up (by kernel_rfl) (by kernel_rfl) ?_
                      repeat (go_big_quiet_step (fail))
                      refine wpQuiet_nil ?_
                      rintro w4 ⟨⟨W5, hb5⟩, rfl⟩
                      have HB6 := hidE (Below.on HBR.out hb5)
                      clear fx0 fx1 fa up_ne hb5
                      go_wp2_with fail
                      go_roundw
                      case rel => exact ⟨j + 1, by omega, by go_num, by rw [HST.out]; simp only [fK]; go_num, HB6.out⟩
                      case measure => simp [intOf]; omega
                    · have hlt' : ¬ (j : Int) < pkm := by omega
                      have HNE : Hid (N = (sz1 fL a.labels + sz1 fL a.types + sz1 fE a.ends) + sz1 fK a.keys) := by
                        show _ = _
                        rw [← HN.out, List.take_of_length_le (by have := HLEN.out; omega)]
                      have HBXk := hidE HBR.out
                      have hs1 := HSUM.out
                      by_cases hbig : 3000 < N
                      · have hbig' : (3000 : Int) < N := by omega
                        go_wp2_with (go_at_call 10; refine (HWK.out _ HB5.out).mono ?_; rintro e W6 ⟨rfl, y1⟩; have HY := hidE (Below.on HB5.out y1); clear y1)
                        go_ret
                        exact ⟨rfl, HY.out⟩
                      · have hbig' : ¬ (3000 : Int) < N := by omega
                        have HW : Hid (StatW a) := by
                          have h := HNE.out
                          refine ⟨HZ.out.n, HZ.out.r, fun x hx => ?_, fun x hx => ?_, fun x hx => ?_, fun x hx => ?_⟩
                          · have := sz1_mem (f := fL) hx
                            refine ⟨?_, (HZ.out.l x hx).1⟩
                            show fL x ≤ _
                            omega
                          · have := sz1_mem (f := fL) hx
                            refine ⟨?_, (HZ.out.t x hx).1⟩
                            show fL x ≤ _
                            omega
                          · have := sz1_mem (f := fE) hx
                            have e : fE x = x.1.size + x.2.1.size := rfl
                            rw [e] at this
                            exact ⟨by omega, by omega, (HZ.out.e x hx).1⟩
                          · have := sz1_mem (f := fK) hx
                            have e : fK x = x.1.size + x.2.1.size := rfl
                            rw [e] at this
                            exact ⟨by omega, by omega, (HZ.out.k x hx).1.1, (HZ.out.k x hx).1.2⟩
                        have HAW : Hid (StatL wr.heap.size wr (.slice pla plm plc) (.slice pta ptm ptc) (.slice pea pem pec) (.slice pka pkm pkc) a) := (HSA.out.keep (HBR.out.mono (Nat.le_trans hB HB4.out.size))).mono (Nat.le_trans hB HB5.out.size)
                        have HBW : Hid (StatL wr.heap.size wr (.slice qla qlm qlc) (.slice qta qtm qtc) (.slice qea qem qec) (.slice qka qkm qkc) b) := (HSB.out.keep (HBR.out.mono (Nat.le_trans hB HB4.out.size))).mono (Nat.le_trans hB HB5.out.size)
                        obtain ⟨T, hT⟩ : ∃ T : ByteArray, (⟨(textL a).toArray⟩ : ByteArray) = T := ⟨_, rfl⟩
                        obtain ⟨S, hS⟩ : ∃ S, sameB a b = S := ⟨_, rfl⟩
                        have hEW : Env2 wr := HE.out.below HB5.out
                        have H36 : Hid (∀ W, Below wr.heap.size wr W → Calls Tryz.prog 36 #[.agg #[.int .i64 pn, .int .i64 pr, .slice pla plm plc, .slice pta ptm ptc, .slice pea pem pec, .slice pka pkm pkc]] W fun e w' => e = .returned (.string T) ∧ Below W.heap.size W w') := fun W hb => by
                          have h := text_any a _ _ _ _ _ W hb.size (hEW.below hb) (HAW.out.keep hb) HW.out (by have := HK.out; have := HLEN.out; omega) (by have := HK.out; have := HLEN.out; omega) (by have := HK.out; have := HLEN.out; omega) (by have := HK.out; have := HLEN.out; omega)
                          rwa [HVp.out, hT] at h
                        have H37 : Hid (∀ W, Below wr.heap.size wr W → Calls Tryz.prog 37 #[.agg #[.int .i64 pn, .int .i64 pr, .slice pla plm plc, .slice pta ptm ptc, .slice pea pem pec, .slice pka pkm pkc]] W fun e w' => e = .returned (.string T) ∧ Below W.heap.size W w') := fun W hb => by
                          have h := rtext_any a _ _ _ _ _ W hb.size (hEW.below hb) (HAW.out.keep hb) HW.out (by have := HK.out; have := HLEN.out; omega) (by have := HK.out; have := HLEN.out; omega) (by have := HK.out; have := HLEN.out; omega) (by have := HK.out; have := HLEN.out; omega)
                          rwa [HVp.out, hT] at h
                        have H38ab : Hid (∀ W, Below wr.heap.size wr W → Calls Tryz.prog 38 #[.agg #[.int .i64 pn, .int .i64 pr, .slice pla plm plc, .slice pta ptm ptc, .slice pea pem pec, .slice pka pkm pkc], .agg #[.int .i64 qn, .int .i64 qr, .slice qla qlm qlc, .slice qta qtm qtc, .slice qea qem qec, .slice qka qkm qkc]] W fun e w' => e = .returned (.bool S) ∧ Below W.heap.size W w') := fun W hb => by
                          have h := same_any38 a b _ _ _ _ _ _ _ _ _ W hb.size (HAW.out.keep hb) (HBW.out.keep hb)
                          rwa [HVp.out, HVq.out, hS] at h
                        have H38ba : Hid (∀ W, Below wr.heap.size wr W → Calls Tryz.prog 38 #[.agg #[.int .i64 qn, .int .i64 qr, .slice qla qlm qlc, .slice qta qtm qtc, .slice qea qem qec, .slice qka qkm qkc], .agg #[.int .i64 pn, .int .i64 pr, .slice pla plm plc, .slice pta ptm ptc, .slice pea pem pec, .slice pka pkm pkc]] W fun e w' => e = .returned (.bool S) ∧ Below W.heap.size W w') := fun W hb => by
                          have h := same_any38 b a _ _ _ _ _ _ _ _ _ W hb.size (HBW.out.keep hb) (HAW.out.keep hb)
                          rwa [HVp.out, HVq.out, sameB_comm, hS] at h
                        have H38aa : Hid (∀ W, Below wr.heap.size wr W → Calls Tryz.prog 38 #[.agg #[.int .i64 pn, .int .i64 pr, .slice pla plm plc, .slice pta ptm ptc, .slice pea pem pec, .slice pka pkm pkc], .agg #[.int .i64 pn, .int .i64 pr, .slice pla plm plc, .slice pta ptm ptc, .slice pea pem pec, .slice pka pkm pkc]] W fun e w' => e = .returned (.bool true) ∧ Below W.heap.size W w') := fun W hb => by
                          have h := same_any38 a a _ _ _ _ _ _ _ _ _ W hb.size (HAW.out.keep hb) (HAW.out.keep hb)
                          rwa [HVp.out, sameB_self] at h
                        have H14 : Hid (∀ W, Below wr.heap.size wr W → Calls Tryz.prog 14 #[.agg #[.int .i64 pn, .int .i64 pr, .slice pla plm plc, .slice pta ptm ptc, .slice pea pem pec, .slice pka pkm pkc], .agg #[.int .i64 qn, .int .i64 qr, .slice qla qlm qlc, .slice qta qtm qtc, .slice qea qem qec, .slice qka qkm qkc]] W fun e w' => e = .returned (.bool S) ∧ Below W.heap.size W w') := fun W hb => by
                          have h := same_any14 a b _ _ _ _ _ _ _ _ _ W hb.size (HAW.out.keep hb) (HBW.out.keep hb)
                          rwa [HVp.out, HVq.out, hS] at h
                        have H10 : Hid (∀ W, Below wr.heap.size wr W → Calls Tryz.prog 10 #[] W fun e w' => e = .returned (.bool true) ∧ Below W.heap.size W w') := fun W hb => HWK.out W (Below.on HB5.out hb)
                        have e0 : ∀ u : Up wr, u.x.cell? ⟨w.heap.size, 0, none⟩ = some (.int .i64 pn) := fun u => u.cell (HPX.out.keep HBR.out).c0
                        have e1 : ∀ u : Up wr, u.x.cell? ⟨w.heap.size, 1, none⟩ = some (.int .i64 pr) := fun u => u.cell (HPX.out.keep HBR.out).c1
                        have e2 : ∀ u : Up wr, u.x.cell? ⟨w.heap.size, 2, none⟩ = some (.slice pla plm plc) := fun u => u.cell (HPX.out.keep HBR.out).c2
                        have e3 : ∀ u : Up wr, u.x.cell? ⟨w.heap.size, 3, none⟩ = some (.slice pta ptm ptc) := fun u => u.cell (HPX.out.keep HBR.out).c3
                        have e4 : ∀ u : Up wr, u.x.cell? ⟨w.heap.size, 4, none⟩ = some (.slice pea pem pec) := fun u => u.cell (HPX.out.keep HBR.out).c4
                        have e5 : ∀ u : Up wr, u.x.cell? ⟨w.heap.size, 5, none⟩ = some (.slice pka pkm pkc) := fun u => u.cell (HPX.out.keep HBR.out).c5
                        have h0 : ∀ u : Up wr, u.x.cell? ⟨w.heap.size + 1, 0, none⟩ = some (.int .i64 qn) := fun u => u.cell (HQX.out.keep HBR.out).c0
                        have h1 : ∀ u : Up wr, u.x.cell? ⟨w.heap.size + 1, 1, none⟩ = some (.int .i64 qr) := fun u => u.cell (HQX.out.keep HBR.out).c1
                        have h2 : ∀ u : Up wr, u.x.cell? ⟨w.heap.size + 1, 2, none⟩ = some (.slice qla qlm qlc) := fun u => u.cell (HQX.out.keep HBR.out).c2
                        have h3 : ∀ u : Up wr, u.x.cell? ⟨w.heap.size + 1, 3, none⟩ = some (.slice qta qtm qtc) := fun u => u.cell (HQX.out.keep HBR.out).c3
                        have h4 : ∀ u : Up wr, u.x.cell? ⟨w.heap.size + 1, 4, none⟩ = some (.slice qea qem qec) := fun u => u.cell (HQX.out.keep HBR.out).c4
                        have h5 : ∀ u : Up wr, u.x.cell? ⟨w.heap.size + 1, 5, none⟩ = some (.slice qka qkm qkc) := fun u => u.cell (HQX.out.keep HBR.out).c5
                        have up_ne : Nonempty (Up wr) := ⟨⟨wr, Below.refl _ _⟩⟩
                        clear hT hS hEW HSUM HSTEP HN HNE hs1
                        go_upto_region 22 with fail
                        clear f5
                        refine wp_up (by kernel_rfl) (by kernel_rfl) ?_
                        iterate 9 (go_big_quiet_step (first | (go_at_call 36; exact Up.call (H36.out _ (Up.b _))) | (go_at_call 37; exact Up.call (H37.out _ (Up.b _))) | (go_at_call 38; exact Up.call (H38ab.out _ (Up.b _)))))
                        iterate 9 (go_big_quiet_step (first | (go_at_call 14; exact Up.call (H14.out _ (Up.b _))) | (go_at_call 38; exact Up.call (H38ba.out _ (Up.b _)))))
                        iterate 9 (go_big_quiet_step (first | (go_at_call 14; exact Up.call (H14.out _ (Up.b _))) | (go_at_call 38; exact Up.call (H38aa.out _ (Up.b _)))))
                        repeat (go_big_quiet_step ((go_at_call 10; exact Up.call (H10.out _ (Up.b _)))))
                        refine wpQuiet_nil ?_
                        rintro w7 ⟨⟨W7, hb7⟩, rfl⟩
                        have HBZ := hidE (Below.on HB5.out hb7)
                        clear e0 e1 e2 e3 e4 e5 h0 h1 h2 h3 h4 h5 up_ne hb7
                        go_wp2_with fail
                        go_ret
                        exact ⟨rfl, HBZ.out⟩
end Go.Proofs.YthfilnflgahcjaaGreatDoor
