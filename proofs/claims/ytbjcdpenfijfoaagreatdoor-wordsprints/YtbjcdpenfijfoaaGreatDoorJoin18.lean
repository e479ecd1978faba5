/- The document's own: whether words are the same. small: not many words, and their texts not long. -/
import Derived.Test.YtbjcdpenfijfoaaGreatDoorJoin17
import Derived.Test.YtbjcdpenfijfoaaGreatDoorJoin15
namespace Go.Proofs.YtbjcdpenfijfoaaGreatDoor
open Go.RowKit Go.Shelf Go.Lexed
set_option linter.unusedVariables false
set_option linter.unusedSimpArgs false
attribute [local go_sem] Oper.semAt_some
theorem zip_step {L : List (W4 × W4)} {p : W4 × W4 → Bool} {q : Nat} {z : W4 × W4} (h : L[q]? = some z) : (L.drop q).all p = (p z && (L.drop (q + 1)).all p) := by
  have hq := (List.getElem?_eq_some_iff.1 h).1
  have hK := (List.getElem?_eq_some_iff.1 h).2
  rw [List.drop_eq_getElem_cons hq, List.all_cons, hK]
set_option maxRecDepth 100000 in
set_option maxHeartbeats 8000000 in
theorem rsame_any (xs ys : List W4) (v u : Value) (w : World) (hx : Lie4 w.heap.size w v xs) (hy : Lie4 w.heap.size w u ys) :
    Calls Tryz.prog 22 #[v, u] w fun e w' => e = .returned (.bool (sameB xs ys)) ∧ Below w.heap.size w w' := by
  have HV : Hid (sameB xs ys = (decide (xs.length = ys.length) && (xs.zip ys).all fun p => eqW p.1 p.2)) := rfl
  generalize sameB xs ys = V at HV ⊢
  have HX := hidE hx
  have HY := hidE hy
  obtain ⟨ad, cap, rfl, hc, hm, _⟩ := hx
  obtain ⟨ad', cap', rfl, hc', hm', _⟩ := hy
  obtain ⟨m, hl⟩ : ∃ m, xs.length = m := ⟨_, rfl⟩
  obtain ⟨m', hl'⟩ : ∃ m', ys.length = m' := ⟨_, rfl⟩
  have HL := hidE hl
  have HL' := hidE hl'
  rw [hl] at HX hc ⊢
  rw [hl'] at HY hc' ⊢
  clear hl hl'
  by_cases hlen : m = m'
  · subst hlen
    have HV2 : Hid (V = ((xs.zip ys).drop 0).all fun p => eqW p.1 p.2) := by
      show _ = _
      rw [HV.out, decide_eq_true (by rw [HL.out, HL'.out]), Bool.true_and]; rfl
    go_enter Tryz.func22, Tryz.ntmps22
    go_wp2_with fail
    go_loopw [5] (fun x wr => ∃ q : Nat, q ≤ m ∧ x = .int .i64 q ∧ Below w.heap.size w wr ∧ V = ((xs.zip ys).drop q).all fun p => eqW p.1 p.2) (fun x _ => m - (intOf x).toNat)
    case atStart => exact ⟨0, Nat.zero_le _, rfl, Below.refl _ _, HV2.out⟩
    case round =>
      obtain ⟨q, hq, rfl, hb, hv⟩ := hrel
      have HB := hidE hb
      have HQ := hidE hv
      clear hb hv
      by_cases hlt : q < m
      · have hlt' : (q : Int) < m := by omega
        obtain ⟨x, hx⟩ : ∃ x, xs[q]? = some x := ⟨_, List.getElem?_eq_getElem (by rw [HL.out]; exact hlt)⟩
        obtain ⟨y, hy⟩ : ∃ y, ys[q]? = some y := ⟨_, List.getElem?_eq_getElem (by rw [HL'.out]; exact hlt)⟩
        obtain ⟨bl, off, k1, e1, _, _, a0, a1, a2, a3⟩ := (HX.out.below HB.out (Nat.le_refl _)).at hx
        obtain ⟨bl', off', k1', e1', _, _, d0, d1, d2, d3⟩ := (HY.out.below HB.out (Nat.le_refl _)).at hy
        have f1 : ad = some ⟨bl, off, none⟩ := by injection e1
        have f2 : ad' = some ⟨bl', off', none⟩ := by injection e1'
        have HZ : Hid (V = (eqW x y && ((xs.zip ys).drop (q + 1)).all fun p => eqW p.1 p.2)) := by
          show _ = _
          rw [HQ.out, zip_step (zip_at hx hy)]
        obtain ⟨xk, xi, xt, xn⟩ := x
        obtain ⟨yk, yi, yt, yn⟩ := y
        have HW : Hid (eqW ⟨xk, xi, xt, xn⟩ ⟨yk, yi, yt, yn⟩ = (decide (xk = yk) && decide (xt = yt) && decide (xn = yn))) := rfl
        simp only at a0 a1 a2 a3 d0 d1 d2 d3
        subst f1 f2
        clear e1 e1' hx hy a1 d1
        by_cases hk : xk = yk
        · by_cases ht : xt = yt
          · by_cases hn : xn = yn
            · have HF : Hid (V = ((xs.zip ys).drop (q + 1)).all fun p => eqW p.1 p.2) := by
                show _ = _
                rw [HZ.out, HW.out, decide_eq_true hk, decide_eq_true ht, decide_eq_true hn]; rfl
              subst hk ht hn
              clear HW HZ
              go_wp2_with fail
              go_quiet (fail)
              go_wp2_with fail
              go_roundw
              case rel => exact ⟨q + 1, by omega, by go_num, below_drewN' HB.out _, HF.out⟩
              case measure => simp [intOf]; omega
            · have HF : Hid (V = false) := by
                show _ = _
                rw [HZ.out, HW.out, decide_eq_false hn, Bool.and_false, Bool.false_and]
              have hn' : (xn != yn) = true := by rw [bne_iff_ne]; exact hn
              subst hk ht
              clear HW HZ hn
              go_wp2_with fail
              go_quiet (fail)
              go_wp2_with fail
              go_ret
              exact ⟨by rw [HF.out]; rfl, below_drewN' HB.out _⟩
          · have HF : Hid (V = false) := by
              show _ = _
              rw [HZ.out, HW.out, decide_eq_false ht, Bool.and_false, Bool.false_and, Bool.false_and]
            have ht' := bytes_ne' ht
            subst hk
            clear HW HZ ht
            go_wp2_with fail
            go_quiet (fail)
            go_wp2_with fail
            go_ret
            exact ⟨by rw [HF.out]; rfl, below_drewN' HB.out _⟩
        · have HF : Hid (V = false) := by
            show _ = _
            rw [HZ.out, HW.out, decide_eq_false hk, Bool.false_and, Bool.false_and, Bool.false_and]
          have hk' : (xk != yk) = true := by rw [bne_iff_ne]; exact hk
          clear HW HZ hk
          go_wp2_with fail
          go_quiet (fail)
          go_wp2_with fail
          go_ret
          exact ⟨by rw [HF.out]; rfl, below_drewN' HB.out _⟩
      · have hlt' : ¬ (q : Int) < m := by omega
        have HF : Hid (V = true) := by
          show _ = _
          rw [HQ.out, List.drop_of_length_le (by rw [List.length_zip, HL.out, HL'.out]; omega)]; rfl
        go_wp2_with fail
        go_ret
        exact ⟨by rw [HF.out]; rfl, HB.out⟩
  · have hlen' : ((m : Int) != m') = true := by rw [bne_iff_ne]; omega
    have HF : Hid (V = false) := by
      show _ = _
      rw [HV.out, decide_eq_false (by rw [HL.out, HL'.out]; exact hlen), Bool.false_and]
    go_enter Tryz.func22, Tryz.ntmps22
    go_wp2_with fail
    go_ret
    exact ⟨by rw [HF.out]; rfl, Below.refl _ _⟩
end Go.Proofs.YtbjcdpenfijfoaaGreatDoor

namespace Go.Proofs.YtbjcdpenfijfoaaGreatDoor
open Go.RowKit Go.Shelf Go.Lexed
set_option linter.unusedVariables false
set_option linter.unusedSimpArgs false
attribute [local go_sem] Oper.semAt_some
/-- What small answers. -/
def SmallTo (xs : List W4) (w : World) (e : Ending) (w' : World) : Prop := ∃ b : Bool, e = .returned (.bool b) ∧ w' = w ∧ (b = true → xs.length ≤ 200 ∧ ∀ x ∈ xs, x.t.size ≤ 4000)
set_option maxRecDepth 100000 in
set_option maxHeartbeats 4000000 in
theorem small_any (xs : List W4) (v : Value) (w : World) (hx : Lie4 w.heap.size w v xs) :
    Calls Tryz.prog 18 #[v] w fun e w' => SmallTo xs w e w' := by
  have HX := hidE hx
  obtain ⟨ad1, cp1, rfl, l1, m1, -⟩ := hx
  go_enter Tryz.func18, Tryz.ntmps18
  go_wp2_with fail
  go_loopw [3, 4] (fun s i wr => ∃ j n : Nat, j ≤ xs.length ∧ j ≤ 201 ∧ i = .int .i64 j ∧ s = .int .i64 n ∧ n ≤ 4001 * j ∧ wr = w ∧ ∀ x ∈ xs.take j, min x.t.size 4001 ≤ n) (fun _ i _ => xs.length - (intOf i).toNat)
  case atStart => exact ⟨0, 0, Nat.zero_le _, by omega, rfl, rfl, by omega, rfl, by simp⟩
  case round =>
    obtain ⟨j, n, hj, hj2, rfl, rfl, hn, rfl, hall⟩ := hrel
    have HA := hidE hall
    clear hall
    by_cases hlt : j < xs.length
    · have hlt' : (j : Int) < xs.length := by omega
      by_cases h200 : j ≤ 200
      · have h200' : (j : Int) ≤ 200 := by omega
        obtain ⟨x, hxj⟩ : ∃ x, xs[j]? = some x := ⟨_, List.getElem?_eq_getElem hlt⟩
        obtain ⟨bl1, off1, cap1, hv1, hbl1, _, c0, c1, c2, c3⟩ := HX.out.at hxj
        cases hv1
        have HXJ := hidE hxj
        clear hxj
        go_wp2_with fail
        go_roundw
        case rel =>
          refine ⟨j + 1, n + min x.t.size 4001, by omega, by omega, by go_num, by congr 1; omega, by omega, trivial, fun y hy => ?_⟩
          rw [List.take_add_one, HXJ.out] at hy
          rcases List.mem_append.1 hy with hy | hy
          · have := HA.out y hy; omega
          · simp only [Option.toList_some, List.mem_singleton] at hy
            subst hy; omega
        case measure => simp [intOf]; omega
      · have h200' : ¬ (j : Int) ≤ 200 := by omega
        have hl200 : ¬ (xs.length : Int) ≤ 200 := by omega
        go_wp2_with fail
        go_ret
        exact ⟨false, rfl, rfl, fun h => by cases h⟩
    · have hlt' : ¬ (j : Int) < xs.length := by omega
      by_cases hl : xs.length ≤ 200
      · have hl' : (xs.length : Int) ≤ 200 := by omega
        by_cases h4 : n ≤ 4000
        · have h4' : (n : Int) ≤ 4000 := by omega
          have HF : Hid (∀ x ∈ xs, x.t.size ≤ 4000) := fun x hx => by
            have := HA.out x (by rw [List.take_of_length_le (by omega)]; exact hx)
            omega
          go_wp2_with fail
          go_ret
          exact ⟨true, rfl, rfl, fun _ => ⟨hl, HF.out⟩⟩
        · have h4' : ¬ (n : Int) ≤ 4000 := by omega
          go_wp2_with fail
          go_ret
          exact ⟨false, rfl, rfl, fun h => by cases h⟩
      · have hl' : ¬ (xs.length : Int) ≤ 200 := by omega
        go_wp2_with fail
        go_ret
        exact ⟨false, rfl, rfl, fun h => by cases h⟩
end Go.Proofs.YtbjcdpenfijfoaaGreatDoor

