/- ValueRows, walked. -/
import Derived.Test.YtbpmhgcjefpigaaGreatDoorModest
import Derived.Test.YtbpmhgcjefpigaaGreatDoorJoin8
import Derived.Test.YtbpmhgcjefpigaaGreatDoorJoin9
import Derived.Test.YtbpmhgcjefpigaaGreatDoorJoin10
import Derived.Test.YtbpmhgcjefpigaaGreatDoorJoin4
import Derived.Test.YtbpmhgcjefpigaaGreatDoorWalked
namespace Go.Proofs.YtbpmhgcjefpigaaGreatDoor
open Go.RowKit Go.Shelf Go.Lib
set_option linter.unusedVariables false
set_option linter.unusedSimpArgs false

/-- 'append(row, list...)' in the walk. -/
theorem append_list {ops : Array Oper} {rest : List Oper} {o : Oper} {a : Act} {Q : Exit → Act → World → Prop} (w : World) (hw : Region.wanted o (yielded ops a.tmps) = true) (sl x : Operand)
    (ho : o.op = .call { callee := .builtin .append, args := #[sl, x], argTypes := #[24, 24] }) (B base n : Nat) (v : Value) (xs : List Value) (hs : a.eval sl = v) (hown : w.ownsRow base 26 6 v n xs) (la : Option Addr) (ts : List Tree) (lc : Nat) (hx : a.eval x = .slice la ts.length lc)
    (hl : ListLies B w la ts) (hn : n + ts.length ≤ 1000000) (hB : base ≤ w.heap.size)
    (h : ∀ v' w' ys, RowL B w ys ts → w'.ownsRow base 26 6 v' (n + ts.length) (xs ++ ys) → w.grownBy w' v.ownBlock → (v'.ownBlock = v.ownBlock ∨ v'.ownBlock = some w.heap.size) → wpList Tryz.prog ops Q rest (a.put o.dst v') w') : wpList Tryz.prog ops Q (o :: rest) a w := by
  refine BigFrame.wpList_want hw fun K hK => ?_
  obtain ⟨v', w', ys, hr, h1, h2, h3, h4⟩ := append_values (ty := o.type) (lc := lc) hown hl hn hB
  unfold Oper.wp execOp
  simp only [ho, resolve, invoke, builtin, Sem.run_bind, Sem.run_pure, Result.andThen_ok, List.map_toArray, List.map_cons, List.map_nil, hs, hx, hr]
  exact hK _ _ (h v' w' ys h1 h2 h3 h4)

theorem any_fine (ts : List Tree) : (ts.any fun t => checkN t != 0) = !fineB ts := by
  unfold fineB
  induction ts with
  | nil => rfl
  | cons t r ih => simp only [List.any_cons, List.all_cons, ih]; cases h : (checkN t == 0) <;> simp [bne, h]
theorem fine_known : ∀ {ts : List Tree}, fineB ts = true → KnownL ts
  | [], _ => by simp only [KnownL]
  | t :: r, h => by
    simp only [fineB, List.all_cons, Bool.and_eq_true, beq_iff_eq] at h
    simp only [KnownL]
    exact ⟨known_check h.1, fine_known h.2⟩
theorem rowsN_fine {a b : List Tree} (ha : fineB a = true) (hb : fineB b = true) : rowsN a b = ordL a b := by
  unfold rowsN; rw [any_fine, any_fine, ha, hb]; rfl
theorem rowsN_not {a b : List Tree} (h : ¬ (fineB a = true ∧ fineB b = true)) : rowsN a b = 0 := by
  unfold rowsN
  rw [any_fine, any_fine]
  cases ha : fineB a <;> cases hb : fineB b <;> simp_all

/-- A row of the call's own that was laid in two: what lies in it. -/
theorem rows_laid {B base : Nat} {w0 w1 w2 : World} {v0 v1 v2 : Value} {ys zs : List Value} {a b : List Tree} (h0 : w0.ownsRow base 26 6 v0 0 []) (hbase : base ≤ w0.heap.size) (hB : B ≤ base) (h1 : RowL B w0 ys a) (h2 : w1.ownsRow base 26 6 v1 (0 + a.length) ([] ++ ys)) (h3 : w0.grownBy w1 v0.ownBlock)
    (k1 : RowL B w1 zs b) (k2 : w2.ownsRow base 26 6 v2 (0 + a.length + b.length) ([] ++ ys ++ zs)) (k3 : w1.grownBy w2 v1.ownBlock) :
    Below base w0 w2 ∧ ∃ ad cap, v2 = .slice ad (a ++ b).length cap ∧ (a ++ b).length ≤ cap ∧ cap ≤ maxLen ∧ ListLies w2.heap.size w2 ad (a ++ b) := by
  have b1 : Below base w0 w1 := (Below.refl base w0).grown h3 hbase fun q h => (h0.lt q h).1
  have b2 : Below base w1 w2 := (Below.refl base w1).grown k3 (Nat.le_trans hbase b1.size) fun q h => (h2.lt q h).1
  have b02 := b1.trans b2
  refine ⟨b02, ?_⟩
  have hlen : (a ++ b).length = 0 + a.length + b.length := by simp
  rw [hlen]
  have hr : RowL B w2 (ys ++ zs) (a ++ b) := (h1.stay (b02.mono hB)).append (k1.stay (b2.mono hB))
  have hk2 := k2
  rcases k2.2 with ⟨rfl, h⟩ | ⟨g, cap, cur, rfl, hbg, hg, hnc, hcm, hcs, htake⟩
  · have : a ++ b = [] := List.eq_nil_of_length_eq_zero (by rw [hlen]; omega)
    exact ⟨none, 0, by rw [h], by omega, by unfold maxLen; omega, .inl this⟩
  · refine ⟨some ⟨g, 0, none⟩, cap, rfl, hnc, hcm, .inr ⟨g, 0, rfl, (Array.getElem?_eq_some_iff.1 hg).1, ?_⟩⟩
    have hr2 := hr.mono (Nat.le_trans hB (Nat.le_trans hbase b02.size))
    refine hr2.kids (fun j u hu => ?_) hr2
    have := hk2.cells (g := g) rfl j u (by simpa using hu)
    rwa [add_plain] at this

set_option maxRecDepth 100000 in
set_option maxHeartbeats 8000000 in
theorem rows_law (a b : List Tree) (D : Nat) (la : Option Addr) (ca : Nat) (lb : Option Addr) (cb : Nat) (w : World) (hD : D ≤ w.heap.size) (hA : ListLies D w la a) (hB : ListLies D w lb b) (h1 : a.length ≤ ca) (h2 : ca ≤ maxLen) (h3 : b.length ≤ cb) (h4 : cb ≤ maxLen) (sA : SaneL a) (sB : SaneL b) (hT : Tabs w)
    (hP : TabBelow Tryz.prog w.heap.size w "internal/strconv.uint64pow10" .u64 pow10Tab) : Calls Tryz.prog 5 #[.slice la a.length ca, .slice lb b.length cb] w fun e w' => e = .returned (.bool true) ∧ Below w.heap.size w w' := by
  have HWK : Hid (∀ w', Below w.heap.size w w' → Calls Tryz.prog 16 #[] w' fun e w2 => e = .returned (.bool true) ∧ Below w'.heap.size w' w2) := fun w' hb => works_any w' (hT.below hb) (fun w2 h => hP w2 (hb.trans (h.mono hb.size)))
  have HLA : Hid (∀ w', Below w.heap.size w w' → ListLies D w' la a ∧ ListLies D w' lb b ∧ D ≤ w'.heap.size ∧ Tabs w') := fun w' hb => ⟨hA.below (hb.mono hD), hB.below (hb.mono hD), Nat.le_trans hD hb.size, hT.below hb⟩
  have HM := hidE (And.intro h2 h4)
  have HS := hidE (And.intro sA sB)
  unfold maxLen at h2 h4
  clear hT hP hA hB sA sB
  go_enter Tryz.func5, Tryz.ntmps5
  by_cases hla : 2000 < a.length
  · have hla' : (2000 : Int) < a.length := by omega
    go_wp2_with fail
    refine (HWK.out w (Below.refl _ _)).mono ?_
    rintro e w1 ⟨rfl, hb1⟩
    have HB1 := hidE hb1
    clear hb1
    go_wp2_with fail
    go_ret
    exact ⟨rfl, HB1.out⟩
  · have hla' : ¬ (2000 : Int) < a.length := by omega
    by_cases hlb : 2000 < b.length
    · have hlb' : (2000 : Int) < b.length := by omega
      go_wp2_with fail
      refine (HWK.out w (Below.refl _ _)).mono ?_
      rintro e w1 ⟨rfl, hb1⟩
      have HB1 := hidE hb1
      clear hb1
      go_wp2_with fail
      go_ret
      exact ⟨rfl, HB1.out⟩
    · have hlb' : ¬ (2000 : Int) < b.length := by omega
      obtain ⟨W1, hW1⟩ : ∃ W1, w.alloc (.cells #[] 26) = W1 := ⟨_, rfl⟩
      have hbW1 : Below w.heap.size w W1 := hW1 ▸ (Below.refl _ _).alloc (Nat.le_refl _) _
      have HO0 : Hid (W1.ownsRow w.heap.size 26 6 (.slice (some ⟨w.heap.size, 0, none⟩) 0 0) 0 []) := hW1 ▸ World.ownsRow_lit w #[] 0 (Nat.le_refl _) (by unfold maxLen; omega) rfl
      have HL1 : Hid (ListLies D W1 la a ∧ w.heap.size ≤ W1.heap.size) := ⟨(HLA.out W1 hbW1).1, hbW1.size⟩
      have HL2 : Hid (∀ w', W1.grownBy w' (Value.slice (some ⟨w.heap.size, 0, none⟩) 0 0).ownBlock → ListLies D w' lb b ∧ w.heap.size ≤ w'.heap.size) := fun w' hg => by
        have hb : Below w.heap.size W1 w' := (Below.refl _ W1).grown hg hbW1.size fun q h => (HO0.out.lt q h).1
        have hbw := hbW1.trans hb
        exact ⟨(HLA.out w' hbw).2.1, hbw.size⟩
      have HBW := hidE hbW1
      have HW1 := hidE hW1
      have HA1 : Hid (0 + a.length ≤ 1000000) := by show _ ≤ _; omega
      have HA2 : Hid (0 + a.length + b.length ≤ 1000000) := by show _ ≤ _; omega
      clear hbW1 hW1
      go_wp2_with (first
        | (at_builtin; rw [HW1.out]; refine append_list W1 (by rfl) _ _ rfl D w.heap.size 0 _ [] rfl HO0.out la a ca rfl HL1.out.1 HA1.out HL1.out.2 ?_; intro v1 w1 ys g1 g2 g3 g4)
        | (at_builtin; refine append_list _ (by rfl) _ _ rfl D w.heap.size (0 + a.length) _ _ rfl (by assumption) lb b cb rfl (HL2.out _ (by assumption)).1 HA2.out (HL2.out _ (by assumption)).2 ?_; intro v2 w2 zs k1 k2 k3 k4))
      obtain ⟨hbs, ad, cap, rfl, hc1, hc2, hlist⟩ := rows_laid HO0.out HBW.out.size hD g1 g2 g3 k1 k2 k3
      have HB2 : Hid (Below w.heap.size w w2) := HBW.out.trans hbs
      have HSM := hidE (smalls_any (a ++ b) w2.heap.size ad cap w2 (Nat.le_refl _) hlist hc1 hc2 (fun t ht => (List.mem_append.1 ht).elim (fun h => HS.out.1.mem h) (fun h => HS.out.2.mem h)))
      clear g1 g2 g3 g4 k1 k2 k3 k4 hbs hlist hc1 hc2 HO0 HL1 HL2 HW1 HBW HA1 HA2
      refine HSM.out.mono ?_
      rintro e w3 ⟨rfl, hb3⟩
      have HB3 : Hid (Below w.heap.size w w3) := below_on HB2.out hb3
      clear hb3 HSM
      by_cases hsm : smalls (a ++ b) ≤ 2000
      · have HTOT := hidE (small_total hsm)
        have hd : decide (smalls (a ++ b) ≤ 2000) = true := by simp [hsm]
        rw [hd]
        clear hsm hd
        have HMA : Hid (∀ t ∈ a, Modest t ∧ Sane t ∧ t.total ≤ 1000000) := fun t ht => ⟨modest_total (HTOT.out t (List.mem_append_left _ ht)), HS.out.1.mem ht, by have := HTOT.out t (List.mem_append_left _ ht); omega⟩
        have HMB : Hid (∀ t ∈ b, Modest t ∧ Sane t ∧ t.total ≤ 1000000) := fun t ht => ⟨modest_total (HTOT.out t (List.mem_append_right _ ht)), HS.out.2.mem ht, by have := HTOT.out t (List.mem_append_right _ ht); omega⟩
        have HFA : Hid (∀ W, Below w.heap.size w W → Calls Tryz.prog 21 #[.slice la a.length ca] W fun e w' => e = .returned (.bool (fineB a)) ∧ Below W.heap.size W w') := fun W hb => fine_any a D la ca W (HLA.out W hb).2.2.1 (HLA.out W hb).1 h1 HM.out.1 (fun t ht => (HMA.out t ht).2)
        have HFB : Hid (∀ W, Below w.heap.size w W → Calls Tryz.prog 21 #[.slice lb b.length cb] W fun e w' => e = .returned (.bool (fineB b)) ∧ Below W.heap.size W w') := fun W hb => fine_any b D lb cb W (HLA.out W hb).2.2.1 (HLA.out W hb).2.1 h3 HM.out.2 (fun t ht => (HMB.out t ht).2)
        have HCR : Hid (∀ W, Below w.heap.size w W → Calls Tryz.prog 34 #[.slice la a.length ca, .slice lb b.length cb] W (fun e w' => e = .returned (.int .i64 (rowsN a b)) ∧ Below W.heap.size W w') ∧ Calls Tryz.prog 34 #[.slice lb b.length cb, .slice la a.length ca] W (fun e w' => e = .returned (.int .i64 (rowsN b a)) ∧ Below W.heap.size W w')) := fun W hb =>
          ⟨CompareRows_any a b D la lb ca cb W (HLA.out W hb).2.2.1 (HLA.out W hb).1 (HLA.out W hb).2.1 h1 HM.out.1 h3 HM.out.2 (HLA.out W hb).2.2.2 (fun t ht => (HMA.out t ht).1) (fun t ht => (HMB.out t ht).1),
            CompareRows_any b a D lb la cb ca W (HLA.out W hb).2.2.1 (HLA.out W hb).2.1 (HLA.out W hb).1 h3 HM.out.2 h1 HM.out.1 (HLA.out W hb).2.2.2 (fun t ht => (HMB.out t ht).1) (fun t ht => (HMA.out t ht).1)⟩
        have HRR : Hid (∀ W, Below w.heap.size w W → KnownL a → KnownL b → Calls Tryz.prog 33 #[.slice la a.length ca, .slice lb b.length cb] W (fun e w' => e = .returned (.int .i64 (ordL a b)) ∧ Below W.heap.size W w')) := fun W hb ka kb =>
          refrows_all a D la lb ca cb b W (HLA.out W hb).2.2.1 (HLA.out W hb).1 (HLA.out W hb).2.1 h1 HM.out.1 h3 HM.out.2 ka kb
        clear HTOT HMA HMB
        go_wp2_with fail
        refine (HFA.out w3 HB3.out).mono ?_
        rintro e w4 ⟨rfl, hb4⟩
        have HB4 : Hid (Below w.heap.size w w4) := below_on HB3.out hb4
        clear hb4
        cases hfa : fineB a with
        | false =>
          have HN : Hid (rowsN a b = 0 ∧ rowsN b a = 0) := ⟨rowsN_not (by simp [hfa]), rowsN_not (by simp [hfa])⟩
          clear hfa
          go_wp2_with fail
          refine (HCR.out w4 HB4.out).1.mono ?_
          rintro e w5 ⟨rfl, hb5⟩
          have HB5 : Hid (Below w.heap.size w w5) := below_on HB4.out hb5
          clear hb5
          rw [HN.out.1]
          go_wp2_with fail
          refine (HCR.out w5 HB5.out).2.mono ?_
          rintro e w6 ⟨rfl, hb6⟩
          have HB6 : Hid (Below w.heap.size w w6) := below_on HB5.out hb6
          clear hb6
          rw [HN.out.2]
          go_wp2_with fail
          refine (HWK.out w6 HB6.out).mono ?_
          rintro e w7 ⟨rfl, hb7⟩
          have HB7 : Hid (Below w.heap.size w w7) := below_on HB6.out hb7
          clear hb7
          go_wp2_with fail
          go_ret
          exact ⟨rfl, HB7.out⟩
        | true =>
          have HFA1 := hidE hfa
          clear hfa
          go_wp2_with fail
          refine (HFB.out w4 HB4.out).mono ?_
          rintro e w5 ⟨rfl, hb5⟩
          have HB5 : Hid (Below w.heap.size w w5) := below_on HB4.out hb5
          clear hb5
          cases hfb : fineB b with
          | false =>
            have HN : Hid (rowsN a b = 0 ∧ rowsN b a = 0) := ⟨rowsN_not (by simp [hfb]), rowsN_not (by simp [hfb])⟩
            clear hfb
            go_wp2_with fail
            refine (HCR.out w5 HB5.out).1.mono ?_
            rintro e w6 ⟨rfl, hb6⟩
            have HB6 : Hid (Below w.heap.size w w6) := below_on HB5.out hb6
            clear hb6
            rw [HN.out.1]
            go_wp2_with fail
            refine (HCR.out w6 HB6.out).2.mono ?_
            rintro e w7 ⟨rfl, hb7⟩
            have HB7 : Hid (Below w.heap.size w w7) := below_on HB6.out hb7
            clear hb7
            rw [HN.out.2]
            go_wp2_with fail
            refine (HWK.out w7 HB7.out).mono ?_
            rintro e w8 ⟨rfl, hb8⟩
            have HB8 : Hid (Below w.heap.size w w8) := below_on HB7.out hb8
            clear hb8
            go_wp2_with fail
            go_ret
            exact ⟨rfl, HB8.out⟩
          | true =>
            have HKK : Hid (KnownL a ∧ KnownL b) := ⟨fine_known HFA1.out, fine_known hfb⟩
            obtain ⟨wv, hwv⟩ : ∃ x, ordL a b = x := ⟨_, rfl⟩
            have HN : Hid (rowsN a b = wv ∧ rowsN b a = -wv) := ⟨by rw [rowsN_fine HFA1.out hfb, hwv], by rw [rowsN_fine hfb HFA1.out, ordL_turn a b HKK.out.1 HKK.out.2, hwv]⟩
            have h3v := ordL_three a b
            rw [hwv] at h3v
            have hrange : -1 ≤ wv ∧ wv ≤ 1 := by unfold Three at h3v; omega
            have HWV := hidE hwv
            clear hfb hwv h3v
            go_wp2_with fail
            refine (HRR.out w5 HB5.out HKK.out.1 HKK.out.2).mono ?_
            rintro e w6 ⟨rfl, hb6⟩
            have HB6 : Hid (Below w.heap.size w w6) := below_on HB5.out hb6
            clear hb6
            rw [HWV.out]
            obtain ⟨hr1, hr2⟩ := hrange
            go_wp2_with fail
            refine (HCR.out w6 HB6.out).1.mono ?_
            rintro e w7 ⟨rfl, hb7⟩
            have HB7 : Hid (Below w.heap.size w w7) := below_on HB6.out hb7
            clear hb7
            rw [HN.out.1]
            go_wp2_with fail
            refine (HCR.out w7 HB7.out).2.mono ?_
            rintro e w8 ⟨rfl, hb8⟩
            have HB8 : Hid (Below w.heap.size w w8) := below_on HB7.out hb8
            clear hb8
            rw [HN.out.2]
            go_wp2_with fail
            refine (HWK.out w8 HB8.out).mono ?_
            rintro e w9 ⟨rfl, hb9⟩
            have HB9 : Hid (Below w.heap.size w w9) := below_on HB8.out hb9
            clear hb9
            go_wp2_with fail
            go_ret
            exact ⟨rfl, HB9.out⟩
      · have hd : decide (smalls (a ++ b) ≤ 2000) = false := by simp [hsm]
        rw [hd]
        clear hsm hd
        go_wp2_with fail
        refine (HWK.out w3 HB3.out).mono ?_
        rintro e w4 ⟨rfl, hb4⟩
        have HB4 : Hid (Below w.heap.size w w4) := below_on HB3.out hb4
        clear hb4
        go_wp2_with fail
        go_ret
        exact ⟨rfl, HB4.out⟩
end Go.Proofs.YtbpmhgcjefpigaaGreatDoor
