/- The walk of the law LogicParts: every list of numbers, every cut. -/
import Derived.Test.YtfpjggoonekooaaWorks
import Derived.WideShapes
namespace Go.Proofs.Ytfpjggoonekooaa
open Go.RowKit Go.WideShapes
set_option linter.unusedVariables false

def Fits (zs : List Int) : Prop := ∀ j, j < zs.length → -9223372036854775808 ≤ zs.getD j 0 ∧ zs.getD j 0 ≤ 9223372036854775807

/-- Sum of a list of no numbers, wherever it points. -/
theorem sum_zero (ad : Option Addr) (cap : Nat) (w : World) :
    Calls Try.prog 30 #[.slice ad 0 cap] w fun e w' => e = .returned (.tuple #[.int .i64 0, .int .i64 0]) ∧ Below w.heap.size w w' := by
  go_enter Try.func30, Try.ntmps30
  go_wp2
  refine wp_loop_rounds 1 ?_
  rw [rounds_succ]
  go_wp2
  go_ret2
  exact ⟨rfl, (Below.refl _ _).alloc (Nat.le_refl _) _⟩

theorem fit_zero : fitN 0 = 0 ∧ fitE 0 = 0 := fit_in (by omega) (by omega)

/-- Sum of a list that a call has made. -/
theorem sum_owned {base : Nat} {v : Value} {acc : List Int} {w : World} (hown : w.ownsRow base 2 1 v acc.length (acc.map (Value.int .i64))) (hm : acc.length ≤ 65536) (hr : Fits acc) :
    Calls Try.prog 30 #[v] w fun e w' => e = .returned (.tuple #[.int .i64 (fitN (sumL acc)), .int .i64 (fitE (sumL acc))]) ∧ Below w.heap.size w w' := by
  have ho := hown
  obtain ⟨_, ⟨rfl, h0⟩ | ⟨g, cap, cur, rfl, hg⟩⟩ := ho
  · have : acc = [] := List.length_eq_zero_iff.1 h0
    subst this
    have e : sumL [] = 0 := rfl
    rw [e, fit_zero.1, fit_zero.2]
    exact sum_zero _ _ _
  · refine sum_any g 0 acc.length cap acc w rfl hm (hown.lt g rfl).2 ?_ hr
    intro j hj
    have := hown.cells (g := g) rfl j (.int .i64 acc[j]) (by simp [hj])
    rw [add_plain] at this
    simpa [List.getD, hj] using this

set_option maxHeartbeats 2000000 in
theorem parts_long (ad : Option Addr) (len cap : Nat) (cut : Int) (w : World) (h : 300 < len) (hm : len ≤ maxLen) :
    Calls Try.prog 7 #[.slice ad len cap, .int .i64 cut] w fun e w' => e = .returned (.bool true) ∧ Below w.heap.size w w' := by
  unfold maxLen at hm
  go_enter Try.func7, Try.ntmps7
  go_wp2_with fail
  refine (works_any _).mono ?_; rintro e w' ⟨rfl, hb⟩
  go_wp2
  go_ret
  exact ⟨rfl, hb⟩

theorem cut_one (cut : Int) : cut.tmod 1 = 0 := by simp

set_option maxHeartbeats 2000000 in
theorem parts_none (ad : Option Addr) (cap : Nat) (cut : Int) (w : World) :
    Calls Try.prog 7 #[.slice ad 0 cap, .int .i64 cut] w fun e w' => e = .returned (.bool true) ∧ Below w.heap.size w w' := by
  have hcut := cut_one cut
  go_enter Try.func7, Try.ntmps7
  go_wp2
  refine wp_loop_rounds 1 ?_
  rw [rounds_succ]
  go_wp2_with fail
  refine (sum_zero _ _ _).mono ?_; rintro e w1 ⟨rfl, hb1⟩
  go_wp2_with fail
  refine (sum_zero _ _ _).mono ?_; rintro e w2 ⟨rfl, hb2⟩
  go_wp2_with fail
  refine (sum_zero _ _ _).mono ?_; rintro e w3 ⟨rfl, hb3⟩
  go_wp2_with fail
  refine (sum_zero _ _ _).mono ?_; rintro e w4 ⟨rfl, hb4⟩
  have hb := below_on (below_on hb1 hb2) (below_on hb3 hb4)
  clear hb1 hb2 hb3 hb4
  go_wp2_with (go_at_call 16; refine (num_any _ _).mono ?_; rintro e w' ⟨rfl, rfl⟩)
  refine (add_fits _ _ _ (by omega) (by omega)).mono ?_; rintro e w' ⟨rfl, rfl⟩
  go_wp2_with (go_at_call 16; refine (num_any _ _).mono ?_; rintro e w' ⟨rfl, rfl⟩)
  refine (works_any _).mono ?_; rintro e w' ⟨rfl, hb'⟩
  go_wp2
  go_ret
  exact ⟨rfl, below_on hb hb'⟩

theorem fits_app {acc : List Int} {z : Int} (h : Fits acc) (h1 : -9223372036854775808 ≤ z) (h2 : z ≤ 9223372036854775807) : Fits (acc ++ [z, 0]) := by
  intro j hj
  by_cases hl : j < acc.length
  · have := h j hl
    simpa [List.getD, List.getElem?_append_left hl] using this
  · have e : (acc ++ [z, 0])[j]? = [z, 0][j - acc.length]? := List.getElem?_append_right (by omega)
    have hj2 : j - acc.length < 2 := by simp at hj; omega
    rw [List.getD_eq_getElem?_getD, e]
    match j - acc.length, hj2 with
    | 0, _ => exact ⟨h1, h2⟩
    | 1, _ => simp
theorem sum_drop {zs : List Int} {m : Nat} (h : m < zs.length) : sumL (zs.drop m) = zs.getD m 0 + sumL (zs.drop (m + 1)) := by
  unfold sumL
  have e : zs.getD m 0 = zs[m] := by simp [List.getD, h]
  rw [e, ← List.sum_cons, ← List.drop_eq_getElem_cons h]
theorem sum_cut (zs : List Int) (k : Nat) : sumL (zs.take k) + sumL (zs.drop k) = sumL zs := by
  unfold sumL
  rw [← List.sum_append, List.take_append_drop]
theorem fits_take {zs : List Int} (h : Fits zs) (k : Nat) : Fits (zs.take k) := by
  intro j hj
  simp at hj
  have := h j (by omega)
  rw [List.getD_eq_getElem?_getD] at *
  rwa [List.getElem?_take_of_lt (by omega)]
theorem fits_drop {zs : List Int} (h : Fits zs) (k : Nat) : Fits (zs.drop k) := by
  intro j hj
  simp at hj
  have := h (k + j) (by omega)
  rw [List.getD_eq_getElem?_getD] at *
  rwa [List.getElem?_drop]

theorem rel_app2 {w wr w1 : World} {v v' : Value} {acc : List Int} {z : Int} {o : Obj} (hown : wr.ownsRow w.heap.size 2 1 v acc.length (acc.map (Value.int .i64))) (hbel : Below w.heap.size w wr)
    (hown' : w1.ownsRow w.heap.size 2 1 v' (acc.length + 2) (acc.map (Value.int .i64) ++ [.int .i64 z, .int .i64 0])) (hgrow : (wr.alloc o).grownBy w1 v.ownBlock) :
    w1.ownsRow w.heap.size 2 1 v' (acc ++ [z, 0]).length ((acc ++ [z, 0]).map (Value.int .i64)) ∧ Below w.heap.size w w1 := by
  refine ⟨by simpa using hown', ?_⟩
  exact (hbel.alloc hbel.size o).grown hgrow (by have := hbel.size; simp; omega) (fun j hj => by have := (hown.lt j hj).1; omega)

theorem ownsRow_below {base e size n : Nat} {w w' : World} {v : Value} {xs : List Value} (h : w.ownsRow base e size v n xs) (hb : Below w.heap.size w w') : w'.ownsRow base e size v n xs := by
  have hl := h.lt
  obtain ⟨h1, h2 | ⟨g, cap, cur, rfl, h3, h4, h5⟩⟩ := h
  · exact ⟨h1, Or.inl h2⟩
  · exact ⟨h1, Or.inr ⟨g, cap, cur, rfl, h3, (hb.block g (hl g rfl).2).trans h4, h5⟩⟩

/-- Where the numbers of a list lie stays so in later worlds. -/
theorem cells_later {b off : Nat} {zs : List Int} {w wr : World} (hb : b < w.heap.size) (HC : Hid (∀ j, j < zs.length → w.cell? ⟨b, off + j, none⟩ = some (.int .i64 (zs.getD j 0)))) (hbel : Below w.heap.size w wr) :
    Hid (∀ j, j < zs.length → wr.cell? ⟨b, off + j, none⟩ = some (.int .i64 (zs.getD j 0))) := fun j hj => (hbel.cell (p := ⟨b, off + j, none⟩) hb).trans (HC.out j hj)
theorem cells_take {b off : Nat} {zs : List Int} {w : World} (HC : Hid (∀ j, j < zs.length → w.cell? ⟨b, off + j, none⟩ = some (.int .i64 (zs.getD j 0)))) (k : Nat) :
    ∀ j, j < (zs.take k).length → w.cell? ⟨b, off + j, none⟩ = some (.int .i64 ((zs.take k).getD j 0)) := by
  intro j hj
  simp at hj
  rw [List.getD_eq_getElem?_getD, List.getElem?_take_of_lt (by omega), ← List.getD_eq_getElem?_getD]
  exact HC.out j (by omega)
theorem cells_drop {b off : Nat} {zs : List Int} {w : World} (HC : Hid (∀ j, j < zs.length → w.cell? ⟨b, off + j, none⟩ = some (.int .i64 (zs.getD j 0)))) (k : Nat) :
    ∀ j, j < (zs.drop k).length → w.cell? ⟨b, off + k + j, none⟩ = some (.int .i64 ((zs.drop k).getD j 0)) := by
  intro j hj
  simp at hj
  rw [List.getD_eq_getElem?_getD, List.getElem?_drop, ← List.getD_eq_getElem?_getD, Nat.add_assoc]
  exact HC.out (k + j) (by omega)

/-- The parts' sums, and the whole one's. -/
theorem fit_parts {s t u : Int} (h : s + t = u) (h1 : fitE s = 0) (h2 : fitE t = 0) : fitN s = s ∧ fitN t = t ∧ (-9223372036854775808 ≤ s ∧ s ≤ 9223372036854775807) ∧ (-9223372036854775808 ≤ t ∧ t ≤ 9223372036854775807) := by
  have hs : -9223372036854775808 ≤ s ∧ s ≤ 9223372036854775807 := by
    by_cases h : -9223372036854775808 ≤ s ∧ s ≤ 9223372036854775807
    · exact h
    · simp [fitE, h] at h1
  have ht : -9223372036854775808 ≤ t ∧ t ≤ 9223372036854775807 := by
    by_cases h : -9223372036854775808 ≤ t ∧ t ≤ 9223372036854775807
    · exact h
    · simp [fitE, h] at h2
  exact ⟨(fit_in hs.1 hs.2).1, (fit_in ht.1 ht.2).1, hs, ht⟩

theorem fitE_two (s : Int) : fitE s = 0 ∨ fitE s = 120 := by unfold fitE; split <;> omega

set_option maxHeartbeats 4000000 in
theorem parts_some (b off cap : Nat) (zs : List Int) (cut : Int) (w : World) (h0 : 0 < zs.length) (h1 : zs.length ≤ 300) (hcap : zs.length ≤ cap) (hcap2 : cap ≤ 9223372036854775807) (hb : b < w.heap.size) (hcu : -9223372036854775808 ≤ cut) (hcu2 : cut ≤ 9223372036854775807)
    (hc : ∀ j, j < zs.length → w.cell? ⟨b, off + j, none⟩ = some (.int .i64 (zs.getD j 0))) (hr : Fits zs) :
    Calls Try.prog 7 #[.slice (some ⟨b, off, none⟩) zs.length cap, .int .i64 cut] w fun e w' => e = .returned (.bool true) ∧ Below w.heap.size w w' := by
  obtain ⟨i0, hi, hz0, hz1, hz2⟩ := info_parts Try.info2
  have HC : Hid (∀ j, j < zs.length → w.cell? ⟨b, off + j, none⟩ = some (.int .i64 (zs.getD j 0))) := hc
  have HR : Hid (Fits zs) := hr
  clear hc hr
  obtain ⟨c, hcc⟩ : ∃ c, cut.tmod ((zs.length : Int) + 1) = c := ⟨_, rfl⟩
  have c1 : -((zs.length : Int) + 1) < c := by rw [← hcc]; exact Int.lt_tmod_of_pos _ (by omega)
  have c2 : c < (zs.length : Int) + 1 := by rw [← hcc]; exact Int.tmod_lt_of_pos _ (by omega)
  obtain ⟨kk, hkk⟩ : ∃ kk : Nat, (c + (zs.length : Int) + 1) % ((zs.length : Int) + 1) = kk := ⟨_, (Int.toNat_of_nonneg (Int.emod_nonneg _ (by omega))).symm⟩
  have k1 : kk ≤ zs.length := by have := Int.emod_lt_of_pos (c + (zs.length : Int) + 1) (b := (zs.length : Int) + 1) (by omega); omega
  have hd : decide (300 < (zs.length : Int)) = false := decide_eq_false (by omega)
  go_enter Try.func7, Try.ntmps7
  go_wp2
  rw [hkk]
  clear hkk hcc
  go_loopw [6, 7] (fun v i wr => ∃ k : Nat, ∃ acc : List Int, k ≤ zs.length ∧ i = .int .i64 ((k : Int) - 1) ∧ acc.length = 2 * (zs.length - k) ∧ Fits acc ∧ sumL acc = sumL (zs.drop k) ∧
      wr.ownsRow w.heap.size 2 1 v acc.length (acc.map (Value.int .i64)) ∧ Below w.heap.size w wr)
    (fun _ i _ => (intOf i + 1).toNat)
  case atStart => exact ⟨zs.length, [], Nat.le_refl _, rfl, by simp, by intro j hj; simp at hj, by simp [sumL], World.ownsRow_nil _ _ _ _, Below.refl _ _⟩
  case round =>
    obtain ⟨k, acc, hk, rfl, hal, hfa, hsa, hown, hbel⟩ := hrel
    have HA : Hid (acc.length = 2 * (zs.length - k)) := hal
    have hal2 : acc.length ≤ 600 := by omega
    have HF : Hid (Fits acc) := hfa
    have HS : Hid (sumL acc = sumL (zs.drop k)) := hsa
    clear hal hfa hsa
    obtain ⟨ad, acap, rfl⟩ := ownsRow_slice hown
    cases k with
    | zero =>
      have e0 : ((0 : Nat) : Int) - 1 = -1 := by omega
      rw [e0]
      clear e0
      have hsw := Nat.lt_of_lt_of_le hb hbel.size
      go_wp2_with fail
      refine (sum_any b off zs.length cap zs _ rfl (by omega) hsw (cells_later hb HC hbel).out HR.out).mono ?_; rintro e w1 ⟨rfl, hb1⟩
      have hown1 := ownsRow_below hown hb1
      have hbel1 := below_on hbel hb1
      clear hown hb1
      have hsw1 := Nat.lt_of_lt_of_le hb hbel1.size
      go_wp2_with fail
      refine (sum_owned hown1 (by omega) HF.out).mono ?_; rintro e w2 ⟨rfl, hb2⟩
      have hbel2 := below_on hbel1 hb2
      clear hown1 hb2 hbel1
      have hsw2 := Nat.lt_of_lt_of_le hb hbel2.size
      go_wp2_with fail
      have hct : ∀ j, j < kk → w2.cell? ⟨b, off + j, none⟩ = some (.int .i64 ((zs.take kk).getD j 0)) := fun j hj => cells_take (cells_later hb HC hbel2) kk j (by simp; omega)
      have HT : Hid (∀ j, j < kk → w2.cell? ⟨b, off + j, none⟩ = some (.int .i64 ((zs.take kk).getD j 0))) := hct
      clear hct
      refine (sum_any b off kk cap (zs.take kk) _ (by simp; omega) (by omega) hsw2 HT.out (fits_take HR.out kk)).mono ?_; rintro e w3 ⟨rfl, hb3⟩
      have hbel3 := below_on hbel2 hb3
      clear hb3 hbel2
      have hsw3 := Nat.lt_of_lt_of_le hb hbel3.size
      have ST : Hid (∀ x c, (x = off + kk ∨ zs.length = kk) → Calls Try.prog 30 #[.slice (some ⟨b, x, none⟩) (zs.length - kk) c] w3 fun e w' => e = .returned (.tuple #[.int .i64 (fitN (sumL (zs.drop kk))), .int .i64 (fitE (sumL (zs.drop kk)))]) ∧ Below w3.heap.size w3 w') := by
        intro x c hx
        have hc3 := cells_later hb HC hbel3
        rcases hx with rfl | hx
        · refine sum_any b (off + kk) (zs.length - kk) c (zs.drop kk) _ (by simp) (by omega) hsw3 ?_ (fits_drop HR.out kk)
          intro j hj
          exact cells_drop hc3 kk j (by simp; omega)
        · have e1 : zs.length - kk = 0 := by omega
          have e2 : zs.drop kk = [] := by rw [← hx]; exact List.drop_length
          rw [e1, e2, show sumL [] = 0 from rfl, fit_zero.1, fit_zero.2]
          exact sum_zero _ _ _
      go_wp2_with fail
      all_goals
        refine (ST.out _ _ (by omega)).mono ?_; rintro e w4 ⟨rfl, hb4⟩
        have hbel4 := below_on hbel3 hb4
        clear hb4 hbel3
        have HX : Hid (sumL acc = sumL zs) := by have := HS.out; rwa [List.drop_zero] at this
        have y1 : (fitN (sumL zs) != fitN (sumL acc)) = false := by rw [HX.out]; simp
        have y2 : (fitE (sumL zs) != fitE (sumL acc)) = false := by rw [HX.out]; simp
        have hcut := sum_cut zs kk
        generalize sumL (zs.take kk) = s1 at *
        generalize sumL (zs.drop kk) = s2 at *
        have t1 := fitE_two s1
        have t2 := fitE_two s2
        by_cases hg : fitE s1 + fitE s2 = 0
        · have hg2 : (fitE s1 + fitE s2 == 0) = true := beq_iff_eq.2 hg
          obtain ⟨g1, g2, g3, g4⟩ := fit_parts hcut (by omega) (by omega)
          have y3 : (fitN (fitN s1 + fitN s2) == fitN (sumL zs)) = true := by rw [g1, g2, hcut]; simp
          have y4 : (fitE (fitN s1 + fitN s2) == fitE (sumL zs)) = true := by rw [g1, g2, hcut]; simp
          have b1 : -9223372036854775808 ≤ fitN s1 := by rw [g1]; exact g3.1
          have b2 : fitN s1 ≤ 9223372036854775807 := by rw [g1]; exact g3.2
          have b3 : -9223372036854775808 ≤ fitN s2 := by rw [g2]; exact g4.1
          have b4 : fitN s2 ≤ 9223372036854775807 := by rw [g2]; exact g4.2
          have u1 : fitE s1 ≤ 120 := by omega
          have u2 : fitE s2 ≤ 120 := by omega
          have u3 : 0 ≤ fitE s1 := by omega
          have u4 : 0 ≤ fitE s2 := by omega
          clear g1 g2 g3 g4 hcut t1 t2 hg
          go_wp2_with (go_at_call 16; refine (num_any _ _).mono ?_; rintro e w' ⟨rfl, rfl⟩)
          refine (add_any _ _ _ b1 b2 b3 b4).mono ?_; rintro e w' ⟨rfl, rfl⟩
          go_wp2_with (go_at_call 16; refine (num_any _ _).mono ?_; rintro e w' ⟨rfl, rfl⟩)
          refine (works_any _).mono ?_; rintro e w' ⟨rfl, hb'⟩
          go_wp2
          go_ret
          exact ⟨rfl, below_on hbel4 hb'⟩
        · have hg2 : (fitE s1 + fitE s2 == 0) = false := beq_eq_false_iff_ne.2 hg
          have u1 : fitE s1 ≤ 120 := by omega
          have u2 : fitE s2 ≤ 120 := by omega
          have u3 : 0 ≤ fitE s1 := by omega
          have u4 : 0 ≤ fitE s2 := by omega
          clear hcut t1 t2 hg
          go_wp2_with (go_at_call 16; refine (num_any _ _).mono ?_; rintro e w' ⟨rfl, rfl⟩)
          refine (works_any _).mono ?_; rintro e w' ⟨rfl, hb'⟩
          go_wp2
          go_ret
          exact ⟨rfl, below_on hbel4 hb'⟩
    | succ m =>
      have e0 : ((m + 1 : Nat) : Int) - 1 = (m : Int) := by omega
      rw [e0]
      clear e0
      have hcx : wr.cell? ⟨b, off + m, none⟩ = some (.int .i64 (zs.getD m 0)) := (hbel.cell (by exact hb)).trans (HC.out m (by omega))
      have hrx := HR.out m (by omega)
      have HD : Hid (sumL (zs.drop m) = zs.getD m 0 + sumL (zs.drop (m + 1))) := sum_drop (by omega)
      generalize zs.getD m 0 = z at hcx hrx HD
      obtain ⟨r1, r2⟩ := hrx
      go_wp2_with (first
        | (at_builtin; refine wpList_append_own _ rfl _ _ 37 rfl w.heap.size 2 i0 (.int .i64 0) 1 8 Try.underlying37 hi hz0 hz1 hz2 rfl (by decide) _ _ _ rfl (hown.alloc _) ⟨wr.heap.size, 0, none⟩ 2 2 [.int .i64 z, .int .i64 0] rfl rfl ?c1 ?c2 ?c3 ?c4 ?c5 ?_)
        | fail)
      case c1 =>
        intro j u hj
        match j, hj with
        | 0, hj => simp at hj; subst hj; simp [Addr.add]
        | 1, hj => simp at hj; subst hj; simp [Addr.add]
      case c2 => intro u hu; simp at hu; rcases hu with rfl | rfl <;> rfl
      case c3 => unfold maxLen; omega
      case c4 => omega
      case c5 => have := hbel.size; simp; omega
      intro v' w1 hown' hgrow _
      obtain ⟨R1, R2⟩ := rel_app2 hown hbel hown' hgrow
      clear hown' hgrow hown hbel hcx
      go_wp2
      go_roundw
      case rel =>
        exact ⟨m, acc ++ [z, 0], by omega, by go_num, by have := HA.out; simp; omega, fits_app HF.out r1 r2, by rw [HD.out, ← HS.out]; simp [sumL]; omega, R1, R2⟩
      case measure => simp [intOf]
end Go.Proofs.Ytfpjggoonekooaa
