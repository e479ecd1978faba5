/- WordsPrints, walked. -/
import Derived.Test.YtbjcdpenfijfoaaGreatDoorRprt
import Derived.Test.YtbjcdpenfijfoaaGreatDoorJoin18
import Derived.Test.YtbjcdpenfijfoaaGreatDoorJoin16
namespace Go.Proofs.YtbjcdpenfijfoaaGreatDoor
open Go.RowKit Go.Shelf Go.Lexed
set_option linter.unusedVariables false
set_option linter.unusedSimpArgs false
attribute [local go_sem] Oper.semAt_some
theorem eqW_comm (x y : W4) : eqW x y = eqW y x := by
  unfold eqW
  rw [decide_eq_decide.2 (eq_comm (a := x.k) (b := y.k)), decide_eq_decide.2 (eq_comm (a := x.t) (b := y.t)), decide_eq_decide.2 (eq_comm (a := x.n) (b := y.n))]
theorem zip_comm : ∀ (xs ys : List W4), ((xs.zip ys).all fun p => eqW p.1 p.2) = (ys.zip xs).all fun p => eqW p.1 p.2
  | [], ys => by simp
  | x :: xs, [] => by simp
  | x :: xs, y :: ys => by
    rw [List.zip_cons_cons, List.zip_cons_cons, List.all_cons, List.all_cons, zip_comm xs ys]
    simp only
    rw [eqW_comm]
theorem sameB_comm (xs ys : List W4) : sameB xs ys = sameB ys xs := by
  unfold sameB
  rw [zip_comm, decide_eq_decide.2 (eq_comm (a := xs.length) (b := ys.length))]
theorem printV_two (xs : List W4) : ∃ (S : ByteArray) (c : Int), printV xs = .tuple #[.string S, .int .i64 c] := by
  unfold printV
  split
  · split
    · exact ⟨_, _, rfl⟩
    · exact ⟨_, _, rfl⟩
  · exact ⟨_, _, rfl⟩
theorem cells_one (xs : List W4) : ∀ u ∈ cells4 xs, u.oneCell' = true := by
  intro u hu
  simp only [cells4, List.mem_flatMap] at hu
  obtain ⟨x, _, hx⟩ := hu
  simp only [W4.cells, List.mem_cons, List.not_mem_nil, or_false] at hx
  rcases hx with rfl | rfl | rfl | rfl <;> rfl
/-- 'append(row, words...)'. -/
theorem run_append_words {ty : TypeId} {base n B : Nat} {v u : Value} {xs : List Value} {ys : List W4} {w : World} (hown : w.ownsRow base 33 4 v n xs) (hl : Lie4 B w u ys) (hn : n + ys.length ≤ 100000000) (hB : base ≤ w.heap.size) :
    ∃ v' w', (Builtin.append_ #[23, 23] ty #[v, u]).run Tryz.prog w = .ok v' w' ∧ w'.ownsRow base 33 4 v' (n + ys.length) (xs ++ cells4 ys) ∧ w.grownBy w' v.ownBlock := by
  obtain ⟨i0, hi, hz0, hz1, hz2⟩ := info_parts Tryz.info33
  obtain ⟨ad, cap, rfl, h1, h2, h3⟩ := hl
  cases ad with
  | none =>
    have hys : ys = [] := by
      rcases h3 with h | ⟨_, _, h, _⟩
      · exact h
      · cases h
    subst hys
    refine ⟨v, w, ?_, by simpa [cells4] using hown, ⟨rfl, rfl, rfl, Nat.le_refl _, fun _ _ _ => rfl⟩⟩
    rcases hown.2 with ⟨rfl, rfl⟩ | ⟨g, cap2, cur, rfl, _, _, hnc, _⟩
    · simp [Builtin.append_, run_underlying Tryz.underlying23, sizeOf, typeInfo, hi, Builtin.lenOf, Builtin.firstCells]
    · simp [Builtin.append_, run_underlying Tryz.underlying23, sizeOf, typeInfo, hi, Builtin.lenOf, Builtin.firstCells, hnc, storeCells]
  | some ad =>
    obtain ⟨v', w', hr, g2, g3, _, g5⟩ := run_append_own_at (P := Tryz.prog) w base 23 ty 33 i0 (.agg #[.int .i64 0, .int .i64 0, .string ⟨#[]⟩, .int .u64 0]) 4 40 Tryz.underlying23 hi hz0 hz1 hz2 rfl (by decide) v n xs hown ad ys.length cap (cells4 ys) (cells4_len ys) (fun j u hu => by
        rcases h3 with h | ⟨b, off, h, _, hc⟩
        · subst h; simp [cells4] at hu
        · obtain rfl : ad = ⟨b, off, none⟩ := Option.some.inj h
          rw [Lib.add_plain]; exact hc j u hu) (cells_one ys) (by unfold maxLen; omega) (by omega) hB
    exact ⟨v', w', hr, g2, g3⟩
/-- .. in the walk. -/
theorem append_words {ops : Array Oper} {rest : List Oper} {o : Oper} {a : Act} {Q : Exit → Act → World → Prop} (w : World) (hgd : o.guard = none) (sl x : Operand)
    (ho : o.op = .call { callee := .builtin .append, args := #[sl, x], argTypes := #[23, 23] }) (base n B k : Nat) (v u : Value) (xs zs : List Value) (ys : List W4) (hs : a.eval sl = v) (hx : a.eval x = u) (hown : w.ownsRow base 33 4 v n xs) (hl : Lie4 B w u ys)
    (hk : n + ys.length = k) (hz : xs ++ cells4 ys = zs) (hn : k ≤ 100000000) (hB : base ≤ w.heap.size)
    (h : ∀ v' w', w'.ownsRow base 33 4 v' k zs → Below base w w' → wpList Tryz.prog ops Q rest (a.put o.dst v') w') : wpList Tryz.prog ops Q (o :: rest) a w := by
  subst hk hz
  refine wpList_plain hgd fun K hK => ?_
  obtain ⟨v', w', hr, h2, h3⟩ := run_append_words (ty := o.type) hown hl hn hB
  unfold Oper.wp execOp
  simp only [ho, resolve, invoke, builtin, Sem.run_bind, Sem.run_pure, Result.andThen_ok, List.map_toArray, List.map_cons, List.map_nil, hs, hx, hr]
  exact hK _ _ (h v' w' h2 (row_grown hown hB h3))
theorem own_none (w : World) : (w.alloc (.cells #[] 33)).ownsRow w.heap.size 33 4 (.slice (some ⟨w.heap.size, 0, none⟩) 0 0) 0 [] :=
  ⟨rfl, .inr ⟨_, 0, _, rfl, Nat.le_refl _, World.alloc_heap_new _ _, Nat.le_refl _, by decide, rfl, rfl⟩⟩
theorem row_full {w : World} {base k : Nat} {v : Value} {zs : List Value} (h : w.ownsRow base 33 4 v k zs) (hk : 0 < k) : ∃ g cap, v = .slice (some ⟨g, 0, none⟩) k cap ∧ k ≤ cap ∧ cap ≤ 9223372036854775807 ∧ base ≤ g ∧ g < w.heap.size ∧ ∀ j u, zs[j]? = some u → w.cell? ⟨g, j, none⟩ = some u := by
  have h0 := h
  obtain ⟨_, ⟨h1, h2⟩ | ⟨g, cap, cur, h1, h3, h4, h5, h6, _⟩⟩ := h
  · omega
  · refine ⟨g, cap, h1, h5, by unfold maxLen at h6; omega, h3, (Array.getElem?_eq_some_iff.1 h4).1, fun j u hj => ?_⟩
    subst h1
    have := h0.cells (g := g) rfl j u hj
    have hadd : (⟨g, 0, none⟩ : Addr).add j = ⟨g, j, none⟩ := by unfold Addr.add; split <;> simp_all
    rwa [hadd] at this
def z77 : W4 := ⟨0, 77, ⟨#[]⟩, 0⟩
theorem lie_one (w : World) : Lie4 (w.heap.size + 1) (w.alloc (.cells #[.int .i64 0, .int .i64 77, .string ⟨#[]⟩, .int .u64 0] 33)) (.slice (some ⟨w.heap.size, 0, none⟩) 1 1) [z77] :=
  ⟨_, _, rfl, Nat.le_refl _, by decide, .inr ⟨_, 0, rfl, by omega, fun j u hj => by
    rw [Nat.zero_add]
    refine cell_new _ _ _ _ _ ?_
    simpa [cells4, W4.cells, z77] using hj⟩⟩
/-- A copy with one word more: its first words, and the last. -/
theorem copy_lie {w : World} {g cap k : Nat} {xs : List W4} (hc : ∀ j u, (cells4 xs ++ cells4 [z77])[j]? = some u → w.cell? ⟨g, j, none⟩ = some u) (hg : g < w.heap.size) (hk : xs.length = k) (hcap : k ≤ cap) (hm : cap ≤ 9223372036854775807) :
    Lie4 w.heap.size w (.slice (some ⟨g, 0, none⟩) k cap) xs ∧ w.cell? ⟨g, k * 4 + 1, none⟩ = some (.int .i64 77) := by
  subst hk
  refine ⟨⟨_, _, rfl, hcap, hm, .inr ⟨g, 0, rfl, hg, fun j u hj => ?_⟩⟩, ?_⟩
  · rw [Nat.zero_add]
    refine hc j u ?_
    rw [List.getElem?_append_left (List.getElem?_eq_some_iff.1 hj).1]; exact hj
  · refine hc _ _ ?_
    rw [List.getElem?_append_right (by rw [cells4_len]; omega), cells4_len, show xs.length * 4 + 1 - xs.length * 4 = 1 by omega]
    rfl
set_option maxRecDepth 100000 in
set_option maxHeartbeats 4000000 in
theorem prints_walk (v : Value) (xs : List W4) (u : Value) (ys : List W4) (w : World) (hE : Env w) (hx : Lie4 w.heap.size w v xs) (hn : ∀ x ∈ xs, 0 ≤ x.n ∧ x.n < 18446744073709551616) (hy : Lie4 w.heap.size w u ys) (_ : ∀ x ∈ ys, 0 ≤ x.n ∧ x.n < 18446744073709551616) :
    Calls Tryz.prog 4 #[v, u] w fun e w' => e = .returned (.bool true) ∧ Below w.heap.size w w' := by
  have HE := hidE hE
  have h8 := hE.room
  have HX := hidE hx
  have HY := hidE hy
  have HN := hidE hn
  obtain ⟨ay, cy, rfl, hcy, hmy, _⟩ := hy
  clear hE hn
  have HW := hidE (fun w1 (h : Below w.heap.size w w1) => works_any w1 (HE.out.below h h8))
  have HSm := hidE (small_any xs v w HX.out)
  obtain ⟨ax, cx, rfl, hcx, hmx, _⟩ := hx
  obtain ⟨m', hm'⟩ : ∃ m', ys.length = m' := ⟨_, rfl⟩
  obtain ⟨m, hm⟩ : ∃ m, xs.length = m := ⟨_, rfl⟩
  have HM := hidE hm
  rw [hm'] at HY hcy ⊢
  rw [hm] at HX hcx HSm ⊢
  clear hm' hm
  go_enter Tryz.func4, Tryz.ntmps4
  go_wp2_with fail
  refine HSm.out.mono ?_
  rintro e W ⟨b, rfl, rfl, hb⟩
  cases b with
  | false =>
    clear hb
    go_wp2_with fail
    refine (HW.out _ (Below.refl _ _)).mono ?_
    rintro e w1 ⟨rfl, hb1⟩
    go_wp2_with fail
    go_ret
    exact ⟨rfl, hb1⟩
  | true =>
    obtain ⟨hx200, hxt⟩ := hb rfl
    have hm200 : m ≤ 200 := by rw [← HM.out]; exact hx200
    have HXT := hidE hxt
    clear hb hxt HSm hx200
    by_cases h200 : 200 < m'
    · have h200' : (200 : Int) < m' := by omega
      go_wp2_with fail
      refine (HW.out _ (Below.refl _ _)).mono ?_
      rintro e w1 ⟨rfl, hb1⟩
      go_wp2_with fail
      go_ret
      exact ⟨rfl, hb1⟩
    have h200' : ¬ (200 : Int) < m' := by omega
    have HB0 : Hid (Below W.heap.size W (W.alloc (.cells #[] 33))) := (Below.refl _ _).alloc (Nat.le_refl _) _
    have HX0 := hidE (HX.out.below HB0.out (Nat.le_refl _))
    go_upto_region 4 with (first
      | (at_builtin; refine append_words (W.alloc (.cells #[] 33)) rfl _ _ rfl W.heap.size 0 W.heap.size m _ _ [] (cells4 xs) xs rfl rfl (own_none W) HX0.out (by have := HM.out; omega) rfl (by omega) (by simp) ?_; intro v1 w1 hown1 hb1)
      | (at_builtin; refine append_words (w1.alloc (.cells #[.int .i64 0, .int .i64 77, .string ⟨#[]⟩, .int .u64 0] 33)) rfl _ _ rfl W.heap.size m (w1.heap.size + 1) (m + 1) _ _ (cells4 xs) (cells4 xs ++ cells4 [z77]) [z77] rfl rfl (row_keep hown1 fun g _ hg => Below.heap_alloc _ _ _ hg) (lie_one w1) rfl rfl (by omega) (by have := hb1.size; simp at this ⊢; omega) ?_; intro v2 w2 hown2 hb2; obtain ⟨g, cap, rfl, hgc, hgm, hgb, hgl, hgz⟩ := row_full hown2 (by omega)))
    have HB2 : Hid (Below W.heap.size W w2) := (HB0.out.trans hb1).trans (((Below.refl W.heap.size w1).alloc (by have := hb1.size; simp at this; omega) _).trans hb2)
    have hcp := copy_lie hgz hgl HM.out (by omega) hgm
    have HC2 := hidE hcp.1
    have H77 := hidE hcp.2
    have HX2 := hidE ((HX.out.below HB2.out (Nat.le_refl _)).mono HB2.out.size)
    have HY2 := hidE ((HY.out.below HB2.out (Nat.le_refl _)).mono HB2.out.size)
    clear hcp hgz hown1 hown2 hb1 hb2 HB0 HX0 HX HY
    obtain ⟨S, c, hS⟩ := printV_two xs
    have HPr := hidE (fun W' (h : Below w2.heap.size w2 W') => print_any _ xs (fun x hx => ⟨(HN.out x hx).1, (HN.out x hx).2, by have := HXT.out x hx; omega⟩) W' (HE.out.below (below_on HB2.out h) h8) ((HC2.out.below h (Nat.le_refl _)).mono h.size))
    have HRp := hidE (fun W' (h : Below w2.heap.size w2 W') => rprint_any _ xs (by rw [HM.out]; exact hm200) (fun x hx => ⟨(HN.out x hx).1, (HN.out x hx).2, HXT.out x hx⟩) W' (HE.out.below (below_on HB2.out h) h8) ((HX2.out.below h (Nat.le_refl _)).mono h.size))
    rw [hS] at HPr HRp
    clear hS
    go_wp2_with fail
    refine (HPr.out _ (Below.refl _ _)).mono ?_
    rintro e w3 ⟨rfl, hb3⟩
    have HB3 := hidE hb3
    clear hb3
    go_wp2_with fail
    refine (HRp.out _ HB3.out).mono ?_
    rintro e w4 ⟨rfl, hb4⟩
    have HB4 := hidE (below_on HB3.out hb4)
    clear hb4 HPr HRp HB3
    go_wp2_with fail
    go_loopw [10] (fun x wr => ∃ q : Nat, q ≤ m ∧ x = .int .i64 q ∧ Below w2.heap.size w2 wr) (fun x _ => m - (intOf x).toNat)
    case atStart => exact ⟨0, Nat.zero_le _, rfl, HB4.out⟩
    case round =>
      obtain ⟨q, hq, rfl, hb⟩ := hrel
      have HB := hidE hb
      clear hb
      by_cases hlt : q < m
      · have hlt' : (q : Int) < m := by omega
        obtain ⟨x, hx⟩ : ∃ x, xs[q]? = some x := ⟨_, List.getElem?_eq_getElem (by rw [HM.out]; exact hlt)⟩
        obtain ⟨b1, o1, k1, e1, _, _, a0, a1, a2, a3⟩ := (HC2.out.below HB.out (Nat.le_refl _)).at hx
        obtain ⟨b2, o2, k2, e2, _, _, d0, d1, d2, d3⟩ := (HX2.out.below HB.out (Nat.le_refl _)).at hx
        have f1 : (⟨g, 0, none⟩ : Addr) = ⟨b1, o1, none⟩ := by injection e1 with e; exact Option.some.inj e
        have f2 : ax = some ⟨b2, o2, none⟩ := by injection e2
        have f3 : g = b1 := congrArg Addr.block f1
        have f4 : 0 = o1 := congrArg Addr.off f1
        obtain ⟨xk, xi, xt, xn⟩ := x
        subst f3 f4
        simp only [Nat.zero_add] at a0 a1 a2 a3 d0 d1 d2 d3
        subst f2
        clear e1 e2 hx f1
        go_wp2_with fail
        go_quiet (fail)
        go_wp2_with fail
        go_roundw
        case rel => exact ⟨q + 1, by omega, by go_num, below_drewN' HB.out _⟩
        case measure => simp [intOf]; omega
      · have hlt' : ¬ (q : Int) < m := by omega
        have HB5 := hidE (below_on HB2.out HB.out)
        have c77 := cell_below HB.out (Nat.le_refl _) H77.out
        have hmc : ((m : Int) + 1) ≤ cap := by omega
        have HSa := hidE (fun W' (h : Below wr.heap.size wr W') => same_any xs ys _ _ W' (((HX2.out.below HB.out (Nat.le_refl _)).mono HB.out.size |>.below h (Nat.le_refl _)).mono h.size) (((HY2.out.below HB.out (Nat.le_refl _)).mono HB.out.size |>.below h (Nat.le_refl _)).mono h.size))
        have HSb := hidE (fun W' (h : Below wr.heap.size wr W') => same_any ys xs _ _ W' (((HY2.out.below HB.out (Nat.le_refl _)).mono HB.out.size |>.below h (Nat.le_refl _)).mono h.size) (((HX2.out.below HB.out (Nat.le_refl _)).mono HB.out.size |>.below h (Nat.le_refl _)).mono h.size))
        have HRa := hidE (fun W' (h : Below wr.heap.size wr W') => rsame_any xs ys _ _ W' (((HX2.out.below HB.out (Nat.le_refl _)).mono HB.out.size |>.below h (Nat.le_refl _)).mono h.size) (((HY2.out.below HB.out (Nat.le_refl _)).mono HB.out.size |>.below h (Nat.le_refl _)).mono h.size))
        rw [← sameB_comm xs ys] at HSb
        generalize sameB xs ys = sm at HSa HSb HRa
        go_wp2_with fail
        refine (num_any _ _).mono ?_
        rintro e w6 ⟨rfl, rfl⟩
        clear c77
        go_wp2_with fail
        refine (HSa.out _ (Below.refl _ _)).mono ?_
        rintro e w7 ⟨rfl, hb7⟩
        have HB7 := hidE hb7
        clear hb7
        go_wp2_with fail
        refine (HRa.out _ HB7.out).mono ?_
        rintro e w8 ⟨rfl, hb8⟩
        have HB8 := hidE (below_on HB7.out hb8)
        clear hb8
        go_wp2_with fail
        refine (HSb.out _ HB8.out).mono ?_
        rintro e w9 ⟨rfl, hb9⟩
        have HB9 := hidE (below_on HB8.out hb9)
        clear hb9
        go_wp2_with fail
        refine (HRa.out _ HB9.out).mono ?_
        rintro e w10 ⟨rfl, hb10⟩
        have HB10 := hidE (below_on HB5.out (below_on HB9.out hb10))
        clear hb10
        go_wp2_with fail
        refine (HW.out _ HB10.out).mono ?_
        rintro e w11 ⟨rfl, hb11⟩
        have HB11 := hidE (below_on HB10.out hb11)
        clear hb11
        go_wp2_with fail
        go_ret
        exact ⟨rfl, HB11.out⟩
end Go.Proofs.YtbjcdpenfijfoaaGreatDoor
