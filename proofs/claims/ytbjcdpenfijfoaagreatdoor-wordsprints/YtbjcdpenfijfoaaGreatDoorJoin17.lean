/- The words of two texts with a line end between. Same: whether words are the same but for their places. -/
import Derived.Test.YtbjcdpenfijfoaaGreatDoorJoin16
namespace Go.Proofs.YtbjcdpenfijfoaaGreatDoor
open Go.RowKit Go.Shelf Go.Lexed
set_option linter.unusedVariables false
set_option linter.unusedSimpArgs false
theorem lex_left (U : List UInt8 → Bool) : ∀ (n : Nat) (l : List UInt8), l.length ≤ n → ∀ x ∈ (lexB U l).1, x.2 ≤ l.length := by
  intro n
  induction n with
  | zero =>
    intro l hl
    have e : l = [] := List.eq_nil_of_length_eq_zero (by omega)
    subst e
    rw [lex_end U (by rw [skipB.eq_def])]; simp
  | succ n ih =>
    intro l hl x hx
    rcases lex_cases U l with ⟨r, h⟩ | h | ⟨r, h, hr, hw⟩ | ⟨r, p, h, hr, hw, hp⟩
    · rw [lex_bad U h] at hx; simp at hx
    · rw [lex_end U h] at hx; simp at hx
    · rw [lex_none U h hr hw] at hx; simp at hx
    · rw [lex_of U h hr hw] at hx
      rcases List.mem_cons.1 hx with rfl | hx
      · have := skipB_le _ l (Nat.le_refl _)
        rw [h] at this
        exact this
      · have := ih p.2 (by omega) x hx
        omega
/-- A text's words. -/
def lw (s : ByteArray) : List W4 := (lexP s).map toW4
def shiftW (n : Nat) (x : W4) : W4 := ⟨x.k, x.i + (n : Int) + 1, x.t, x.n⟩
theorem lw_len (s : ByteArray) : (lw s).length ≤ s.size := by unfold lw; rw [List.length_map]; exact lexP_len s
/-- Where words lie, and how great they are. -/
theorem lw_small (s : ByteArray) : ∀ x ∈ lw s, 0 ≤ x.i ∧ x.i ≤ s.size := by
  intro x hx
  unfold lw lexP lexQ at hx
  simp only [List.map_map, List.mem_map] at hx
  obtain ⟨y, hy, rfl⟩ := hx
  simp only [Function.comp, toW4]
  omega
def joined (s t : ByteArray) : ByteArray := bsOf (s.data.toList ++ 10 :: t.data.toList)
theorem joined_size (s t : ByteArray) : (joined s t).size = s.size + 1 + t.size := by
  unfold joined
  rw [bsOf_size, List.length_append, List.length_cons]
  show s.size + (t.size + 1) = _
  omega
theorem lw_join (s t : ByteArray) (h : lexO s = none) : lw (joined s t) = lw s ++ (lw t).map (shiftW s.size) ∧ lexO (joined s t) = lexO t := by
  have e0 : suf (joined s t) 0 = s.data.toList ++ 10 :: t.data.toList := bsOf_list _
  have h0 : (lexB Lib.validD s.data.toList).2 = none := h
  have hj := lex_join Lib.validD _ s.data.toList t.data.toList (Nat.le_refl _) h0
  refine ⟨?_, ?_⟩
  · unfold lw lexP lexQ
    rw [e0, hj, joined_size]
    simp only [List.map_append, List.map_map]
    have es : suf s 0 = s.data.toList := rfl
    have et : suf t 0 = t.data.toList := rfl
    rw [es, et]
    congr 1
    · refine List.map_congr_left fun x hx => ?_
      simp only [Function.comp, toW4, W4.mk.injEq, true_and, and_true]
      have : t.data.toList.length = t.size := rfl
      omega
    · refine List.map_congr_left fun x hx => ?_
      have hl := lex_left Lib.validD _ t.data.toList (Nat.le_refl _) x hx
      have : t.data.toList.length = t.size := rfl
      simp only [Function.comp, toW4, shiftW, W4.mk.injEq, true_and, and_true]
      omega
  · unfold lexO
    rw [e0, hj]
    rfl
theorem join_text (s t : ByteArray) : s ++ ⟨#[10]⟩ ++ t = joined s t := by
  unfold joined
  rw [← of_bs (s ++ ⟨#[10]⟩ ++ t)]
  congr 1
  simp [ByteArray.data_append]
end Go.Proofs.YtbjcdpenfijfoaaGreatDoor

namespace Go.Proofs.YtbjcdpenfijfoaaGreatDoor
open Go.RowKit Go.Shelf Go.Lexed
set_option linter.unusedVariables false
set_option linter.unusedSimpArgs false
attribute [local go_sem] Oper.semAt_some
def eqW (x y : W4) : Bool := decide (x.k = y.k) && decide (x.t = y.t) && decide (x.n = y.n)
theorem bytes_ne' {a b : ByteArray} (h : a ≠ b) : (a.toList == b.toList) = false := by
  rw [beq_eq_false_iff_ne]
  intro e
  rw [ByteArray.toList_eq, ByteArray.toList_eq] at e
  apply h
  rw [← of_bs a, ← of_bs b, e]
set_option maxRecDepth 100000 in
set_option maxHeartbeats 4000000 in
theorem same1_any (x y : W4) (w : World) : Calls Tryz.prog 41 #[x.val, y.val] w fun e w' => e = .returned (.bool (eqW x y)) ∧ Below w.heap.size w w' := by
  obtain ⟨k, i, t, n⟩ := x
  obtain ⟨k', i', t', n'⟩ := y
  unfold W4.val
  have HV : Hid (eqW ⟨k, i, t, n⟩ ⟨k', i', t', n'⟩ = (decide (k = k') && decide (t = t') && decide (n = n'))) := rfl
  generalize eqW ⟨k, i, t, n⟩ ⟨k', i', t', n'⟩ = V at HV ⊢
  simp only
  go_enter Tryz.func41, Tryz.ntmps41
  go_upto_region 1 with fail
  generalize hW1 : World.alloc _ _ = W1
  have HA1 : Hid (Wo W1 w.heap.size k i n t) := by
    rw [← hW1]
    refine Wo.keep (w := w.alloc (.cells #[.int .i64 k, .int .i64 i, .string t, .int .u64 n] 33)) (World.alloc_heap_new _ _) (Below.heap_alloc _ _ _ ?_)
    simp
  have HB1 : Hid (Wo W1 (w.heap.size + 1) k' i' n' t') := by
    rw [← hW1]
    have := World.alloc_heap_new (w.alloc (.cells #[.int .i64 k, .int .i64 i, .string t, .int .u64 n] 33)) (.cells #[.int .i64 k', .int .i64 i', .string t', .int .u64 n'] 33)
    rwa [show (w.alloc (.cells #[.int .i64 k, .int .i64 i, .string t, .int .u64 n] 33)).heap.size = w.heap.size + 1 by simp] at this
  have HW1 : Hid (Below w.heap.size w W1) := by
    rw [← hW1]
    exact ((Below.refl _ _).alloc (Nat.le_refl _) _).alloc (by simp) _
  clear hW1
  have z1 := HA1.out.z 1
  have z2 := HB1.out.z 1
  have a1 := HA1.out.c1
  have b1 := HB1.out.c1
  obtain ⟨p, hp⟩ : ∃ p, w.heap.size = p := ⟨_, rfl⟩
  have HP := hidE hp
  rw [hp] at HA1 HB1 HW1 z1 z2 a1 b1 ⊢
  have HNE : Hid (p ≠ p + 1) := by show p ≠ p + 1; omega
  go_upto_region 2 with fail
  generalize hW2 : World.setCell _ _ _ = W2
  have HA2 : Hid (Wo W2 p k 0 n t) := by rw [← hW2]; exact (HA1.out.set1 0).other (by omega)
  have HB2 : Hid (Wo W2 (p + 1) k' 0 n' t') := by rw [← hW2]; exact (HB1.out.other (by omega)).set1 0
  have HW2 : Hid (Below p w W2) := by rw [← hW2]; exact (HW1.out.setCell (Nat.le_refl _) _).setCell (Nat.le_succ _) _
  clear hW2 HA1 HB1 HW1 z1 z2 a1 b1
  have a0 := HA2.out.c0
  have a1 := HA2.out.c1
  have a2 := HA2.out.c2
  have a3 := HA2.out.c3
  have b0 := HB2.out.c0
  have b1 := HB2.out.c1
  have b2 := HB2.out.c2
  have b3 := HB2.out.c3
  by_cases hk : k = k'
  · by_cases ht : t = t'
    · by_cases hn : n = n'
      · have HV2 : Hid (V = true) := by show _ = _; rw [HV.out, decide_eq_true hk, decide_eq_true ht, decide_eq_true hn]; rfl
        subst hk ht hn
        go_wp2_with fail
        go_ret
        exact ⟨by rw [HV2.out]; simp, HW2.out⟩
      · have HV2 : Hid (V = false) := by show _ = _; rw [HV.out, decide_eq_false hn, Bool.and_false]
        have hn' : (n == n') = false := ne_bool hn
        subst hk ht
        go_wp2_with fail
        go_ret
        exact ⟨by rw [HV2.out]; first | rfl | simp [hn'], HW2.out⟩
    · have HV2 : Hid (V = false) := by show _ = _; rw [HV.out, decide_eq_false ht, Bool.and_false, Bool.false_and]
      have ht' := bytes_ne' ht
      subst hk
      go_wp2_with fail
      go_ret
      exact ⟨by rw [HV2.out]; first | rfl | simp [ht'], HW2.out⟩
  · have HV2 : Hid (V = false) := by show _ = _; rw [HV.out, decide_eq_false hk, Bool.false_and, Bool.false_and]
    have hk' : (k == k') = false := ne_bool hk
    go_wp2_with fail
    go_ret
    exact ⟨by rw [HV2.out]; first | rfl | simp [hk'], by first | exact HW2.out | (rw [HP.out]; exact HW2.out)⟩
/-- What Same answers. -/
def sameB (xs ys : List W4) : Bool := decide (xs.length = ys.length) && (xs.zip ys).all fun p => eqW p.1 p.2
theorem zip_at {xs ys : List W4} {j : Nat} {x y : W4} (hx : xs[j]? = some x) (hy : ys[j]? = some y) : (xs.zip ys)[j]? = some (x, y) := by
  rw [List.getElem?_zip_eq_some]; exact ⟨hx, hy⟩
set_option maxRecDepth 100000 in
set_option maxHeartbeats 4000000 in
theorem eqf_any (xs ys : List W4) (v u : Value) (w : World) (hx : Lie4 w.heap.size w v xs) (hy : Lie4 w.heap.size w u ys) :
    Calls Tryz.prog 40 #[v, u, .func (.func 41) #[] #[]] w fun e w' => e = .returned (.bool (sameB xs ys)) ∧ Below w.heap.size w w' := by
  have HX := hidE hx
  have HY := hidE hy
  obtain ⟨ad1, cp1, rfl, l1, m1, -⟩ := hx
  obtain ⟨ad2, cp2, rfl, l2, m2, -⟩ := hy
  by_cases hl : xs.length = ys.length
  · have HV : Hid (sameB xs ys = (xs.zip ys).all fun p => eqW p.1 p.2) := by show _ = _; unfold sameB; rw [decide_eq_true hl, Bool.true_and]
    have hz : (xs.zip ys).length = xs.length := by rw [List.length_zip, hl, Nat.min_self]
    have hl' : ((xs.length : Int) != ys.length) = false := by rw [hl]; simp
    generalize sameB xs ys = V at HV ⊢
    have HLn := hidE hl
    have HZl := hidE hz
    clear hl hz
    go_enter Tryz.func40, Tryz.ntmps40
    go_wp2_with fail
    go_loopw [17] (fun i wr => ∃ j : Nat, j ≤ xs.length ∧ i = .int .i64 j ∧ Below w.heap.size w wr ∧ ((xs.zip ys).take j).all (fun p => eqW p.1 p.2) = true) (fun i _ => xs.length - (intOf i).toNat)
    case atStart => exact ⟨0, Nat.zero_le _, rfl, Below.refl _ _, rfl⟩
    case round =>
      obtain ⟨j, hj, rfl, hbr, hall⟩ := hrel
      have HB := hidE hbr
      have HA := hidE hall
      clear hbr hall
      by_cases hlt : j < xs.length
      · obtain ⟨x, hxj⟩ : ∃ x, xs[j]? = some x := ⟨_, List.getElem?_eq_getElem hlt⟩
        obtain ⟨y, hyj⟩ : ∃ y, ys[j]? = some y := ⟨_, List.getElem?_eq_getElem (by have := HLn.out; omega)⟩
        have HZ := hidE (zip_at hxj hyj)
        obtain ⟨bl1, off1, cap1, hv1, hbl1, _, c0, c1, c2, c3⟩ := (HX.out.below HB.out (Nat.le_refl _)).at hxj
        obtain ⟨bl2, off2, cap2, hv2, hbl2, _, d0, d1, d2, d3⟩ := (HY.out.below HB.out (Nat.le_refl _)).at hyj
        cases hv1
        cases hv2
        have hjy : j < ys.length := by have := HLn.out; omega
        have HCO := hidE (fun W => same1_any x y W)
        obtain ⟨b, hb⟩ : ∃ b, eqW x y = b := ⟨_, rfl⟩
        have HBq := hidE hb
        rw [hb] at HCO
        clear hb hxj hyj
        obtain ⟨k, i, t, n⟩ := x
        obtain ⟨k', i', t', n'⟩ := y
        unfold W4.val at HCO
        simp only at c0 c1 c2 c3 d0 d1 d2 d3 HCO
        go_upto_region 6 with fail
        generalize hW1 : World.alloc _ _ = W1
        have HN1 : Hid (Wo W1 wr.heap.size k i n t) := by rw [← hW1]; exact World.alloc_heap_new _ _
        have hba : Below wr.heap.size wr W1 := by rw [← hW1]; exact (Below.refl _ _).alloc (Nat.le_refl _) _
        have HB1 := hidE (below_on HB.out hba)
        have hp2 : bl2 < wr.heap.size := by have := HB.out.size; omega
        replace d0 := (hba.cell hp2).trans d0
        replace d1 := (hba.cell hp2).trans d1
        replace d2 := (hba.cell hp2).trans d2
        replace d3 := (hba.cell hp2).trans d3
        obtain ⟨p, hp⟩ : ∃ p, wr.heap.size = p := ⟨_, rfl⟩
        rw [hp] at HN1 ⊢
        clear hW1 hba hp2 hp c0 c1 c2 c3
        go_upto_region 7 with fail
        generalize hW2 : World.alloc _ _ = W2
        have HM2 : Hid (Wo W2 W1.heap.size k' i' n' t') := by rw [← hW2]; exact World.alloc_heap_new _ _
        have hbb : Below W1.heap.size W1 W2 := by rw [← hW2]; exact (Below.refl _ _).alloc (Nat.le_refl _) _
        have HN2 : Hid (Wo W2 p k i n t) := HN1.out.below hbb HN1.out.lt
        have HB2 := hidE (below_on HB1.out hbb)
        clear hW2 hbb d0 d1 d2 d3 HN1 HB1
        have c0 := HN2.out.c0
        have c1 := HN2.out.c1
        have c2 := HN2.out.c2
        have c3 := HN2.out.c3
        have d0 := HM2.out.c0
        have d1 := HM2.out.c1
        have d2 := HM2.out.c2
        have d3 := HM2.out.c3
        go_wp2_with fail
        refine (HCO.out _).mono ?_
        rintro e w3 ⟨rfl, hb3⟩
        have HB3 := hidE (below_on HB2.out hb3)
        clear hb3 c0 c1 c2 c3 d0 d1 d2 d3 HCO
        cases b with
        | true =>
          go_wp2_with fail
          go_roundw
          case rel =>
            refine ⟨j + 1, by omega, by go_num, HB3.out, ?_⟩
            rw [List.take_add_one, HZ.out, List.all_append, HA.out]
            simp [HBq.out]
          case measure => simp [intOf]; omega
        | false =>
          have HV2 : Hid (V = false) := by
            show _ = _
            rw [HV.out, List.all_eq_false]
            exact ⟨_, List.mem_of_getElem? HZ.out, by rw [HBq.out]; decide⟩
          go_wp2_with fail
          go_ret
          exact ⟨by rw [HV2.out]; rfl, HB3.out⟩
      · have HV2 : Hid (V = true) := by
          show _ = _
          have := HA.out
          rw [List.take_of_length_le (by rw [HZl.out]; omega)] at this
          rw [HV.out]; exact this
        go_wp2_with fail
        go_ret
        exact ⟨by rw [HV2.out]; rfl, HB.out⟩
  · have HV : Hid (sameB xs ys = false) := by show _ = _; unfold sameB; rw [decide_eq_false hl, Bool.false_and]
    generalize sameB xs ys = V at HV ⊢
    have hl' : ((xs.length : Int) != ys.length) = true := by simp; omega
    go_enter Tryz.func40, Tryz.ntmps40
    go_wp2_with fail
    go_ret
    exact ⟨by rw [HV.out]; rfl, Below.refl _ _⟩
set_option maxRecDepth 100000 in
theorem same_any (xs ys : List W4) (v u : Value) (w : World) (hx : Lie4 w.heap.size w v xs) (hy : Lie4 w.heap.size w u ys) :
    Calls Tryz.prog 21 #[v, u] w fun e w' => e = .returned (.bool (sameB xs ys)) ∧ Below w.heap.size w w' := by
  have HC := hidE (eqf_any xs ys v u w hx hy)
  clear hx hy
  go_enter Tryz.func21, Tryz.ntmps21
  go_wp2_with fail
  refine HC.out.mono ?_
  rintro e w1 ⟨rfl, hb⟩
  go_wp2_with fail
  go_ret
  exact ⟨rfl, hb⟩
end Go.Proofs.YtbjcdpenfijfoaaGreatDoor

