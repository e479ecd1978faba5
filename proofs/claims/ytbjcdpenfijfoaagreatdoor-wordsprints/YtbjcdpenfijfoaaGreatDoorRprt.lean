/- The document's own: words, told. -/
import Derived.Test.YtbjcdpenfijfoaaGreatDoorRmay
import Derived.Test.YtbjcdpenfijfoaaGreatDoorRquote
import Derived.Test.YtbjcdpenfijfoaaGreatDoorJoin15
namespace Go.Proofs.YtbjcdpenfijfoaaGreatDoor
open Go.RowKit Go.Shelf Go.Lexed
set_option linter.unusedVariables false
set_option linter.unusedSimpArgs false
attribute [local go_sem] Oper.semAt_some
set_option maxRecDepth 100000 in
set_option maxHeartbeats 4000000 in
theorem rtold_any (x : W4) (hn0 : 0 ≤ x.n) (hn1 : x.n < 18446744073709551616) (ht : x.t.size ≤ 100000000) (w : World) (hE : Env w) :
    Calls Tryz.prog 39 #[x.val] w fun e w' => e = .returned (.string (bsOf (tellW x.wd))) ∧ Below w.heap.size w w' := by
  obtain ⟨k, i, t, n⟩ := x
  simp only at hn0 hn1 ht
  have HV : Hid (bsOf (tellW (W4.mk k i t n).wd) = if k = 2 then bsOf (encB t.data.toList) else if k = 3 then ⟨(quoteB t).toArray⟩ else if k = 4 then ⟨(Lib.decDigits n.toNat).toArray⟩ else t) := by
    show _ = _
    unfold tellW W4.wd
    simp only
    by_cases h2 : k = 2
    · subst h2; rfl
    · rw [if_neg (by omega : ¬ k.toNat = 2), if_neg h2]
      by_cases h3 : k = 3
      · subst h3; rw [quote_same]; rfl
      · rw [if_neg (by omega : ¬ k.toNat = 3), if_neg h3]
        by_cases h4 : k = 4
        · subst h4; rfl
        · rw [if_neg (by omega : ¬ k.toNat = 4), if_neg h4, of_bs]
  generalize bsOf (tellW (W4.mk k i t n).wd) = V at HV ⊢
  have HE := hidE hE
  have h8 := hE.room
  clear hE
  unfold W4.val
  simp only
  by_cases h2 : k = 2
  · subst h2
    have HE2 : Hid (V = bsOf (encB t.data.toList)) := HV.out
    refine (rtold2_any i n t (by omega) w).mono ?_
    rintro e w' ⟨rfl, hb⟩
    exact ⟨by rw [HE2.out], hb⟩
  have h2' : (k == 2) = false := ne_bool h2
  go_enter Tryz.func39, Tryz.ntmps39
  go_upto_region 1 with fail
  generalize hW1 : World.alloc _ _ = W1
  have HB1 : Hid (Below w.heap.size w W1) := by rw [← hW1]; exact (Below.refl _ _).alloc (Nat.le_refl _) _
  have HW1 : Hid (Wo W1 w.heap.size k i n t) := by rw [← hW1]; exact World.alloc_heap_new _ _
  clear hW1
  have HE1 : Hid (Env W1) := HE.out.below HB1.out h8
  have c0 := HW1.out.c0
  have c2 := HW1.out.c2
  have c3 := HW1.out.c3
  by_cases h3 : k = 3
  · subst h3
    have HE2 : Hid (V = ⟨(quoteB t).toArray⟩) := HV.out
    have HC := hidE (refQuote_any t (by omega) W1)
    generalize (⟨(quoteB t).toArray⟩ : ByteArray) = b at HE2 HC
    go_wp2_with fail
    refine HC.out.mono ?_
    rintro e w2 ⟨rfl, hb2⟩
    have HB3 := hidE (below_on HB1.out hb2)
    clear hb2
    go_wp2_with fail
    go_ret
    exact ⟨by rw [HE2.out]; rfl, HB3.out⟩
  have h3' : (k == 3) = false := ne_bool h3
  by_cases h4 : k = 4
  · subst h4
    have HE2 : Hid (V = ⟨(Lib.decDigits n.toNat).toArray⟩) := HV.out
    have HC := hidE (fmt_any n.toNat (by omega) W1 HE1.out)
    rw [show ((n.toNat : Nat) : Int) = n by omega] at HC
    generalize (⟨(Lib.decDigits n.toNat).toArray⟩ : ByteArray) = b at HE2 HC
    go_wp2_with fail
    refine HC.out.mono ?_
    rintro e w2 ⟨rfl, hb2⟩
    have HB3 := hidE (below_on HB1.out hb2)
    clear hb2
    go_wp2_with fail
    go_ret
    exact ⟨by rw [HE2.out]; rfl, HB3.out⟩
  have h4' : (k == 4) = false := ne_bool h4
  have HE2 : Hid (V = t) := by show _ = _; rw [HV.out, if_neg h2, if_neg h3, if_neg h4]
  go_wp2_with fail
  go_ret
  exact ⟨by rw [HE2.out]; rfl, HB1.out⟩
theorem tail_few : ∀ {xs : List W4}, (∀ x ∈ xs, x.t.size ≤ 4000) → (∀ x ∈ xs, mayW Lib.validD x.wd = true) → (tailW (xs.map W4.wd)).length ≤ xs.length * 24021
  | [], _, _ => by simp [tailW]
  | x :: xs, hx, hm => by
    have h1 := tail_few (xs := xs) (fun y hy => hx y (by simp [hy])) (fun y hy => hm y (by simp [hy]))
    have h2 := tell_len Lib.validD x.wd (hm x (by simp))
    have h3 : x.wd.text.length = x.t.size := rfl
    have h4 := hx x (by simp)
    have e : tailW ((x :: xs).map W4.wd) = (32 :: tellW x.wd) ++ tailW (xs.map W4.wd) := rfl
    rw [e, List.length_append, List.length_cons, List.length_cons]
    omega
theorem print_few {xs : List W4} (hx : ∀ x ∈ xs, x.t.size ≤ 4000) (hm : ∀ x ∈ xs, mayW Lib.validD x.wd = true) : (printW (xs.map W4.wd)).length ≤ xs.length * 24021 := by
  cases xs with
  | nil => simp [printW]
  | cons x xs =>
    have h1 := tail_few (xs := xs) (fun y hy => hx y (by simp [hy])) (fun y hy => hm y (by simp [hy]))
    have h2 := tell_len Lib.validD x.wd (hm x (by simp))
    have h3 : x.wd.text.length = x.t.size := rfl
    have h4 := hx x (by simp)
    have e : printW ((x :: xs).map W4.wd) = tellW x.wd ++ tailW (xs.map W4.wd) := rfl
    rw [e, List.length_append, List.length_cons]
    omega
set_option maxRecDepth 100000 in
set_option maxHeartbeats 4000000 in
theorem rprint_any (v : Value) (xs : List W4) (hl : xs.length ≤ 200) (hn : ∀ x ∈ xs, 0 ≤ x.n ∧ x.n < 18446744073709551616 ∧ x.t.size ≤ 4000) (w : World) (hE : Env w) (hL : Lie4 w.heap.size w v xs) :
    Calls Tryz.prog 20 #[v] w fun e w' => e = .returned (printV xs) ∧ Below w.heap.size w w' := by
  obtain ⟨R, hR⟩ : ∃ R, printV xs = R := ⟨_, rfl⟩
  rw [hR]
  have HR := hidE hR
  have HE := hidE hE
  have h8 := hE.room
  have HL := hidE hL
  have HX := hidE hn
  obtain ⟨ad, cap, rfl, hcap, hmax, _⟩ := hL
  obtain ⟨m, hm⟩ : ∃ m, xs.length = m := ⟨_, rfl⟩
  rw [hm] at HL hcap hl ⊢
  have HM := hidE hm
  clear hR hE hn hm
  go_enter Tryz.func20, Tryz.ntmps20
  go_wp2_with fail
  go_loopw [4, 5] (fun s x wr => ∃ q : Nat, q ≤ m ∧ x = .int .i64 q ∧ s = .string (bsOf (printW ((xs.take q).map W4.wd))) ∧ (∀ y ∈ xs.take q, mayW Lib.validD y.wd = true) ∧ Below w.heap.size w wr) (fun _ x _ => m - (intOf x).toNat)
  case atStart => exact ⟨0, Nat.zero_le _, rfl, rfl, (fun y hy => by simp at hy), Below.refl _ _⟩
  case round =>
    obtain ⟨q, hq, rfl, rfl, hmq, hb⟩ := hrel
    have HB := hidE hb
    have hpl : (bsOf (printW ((xs.take q).map W4.wd))).size ≤ 200 * 24021 := by
      rw [bsOf_size]
      have h1 := print_few (xs := xs.take q) (fun y hy => (HX.out y (List.mem_of_mem_take hy)).2.2) hmq
      have h2 : (xs.take q).length ≤ q := by simp; omega
      have h3 : (xs.take q).length * 24021 ≤ 200 * 24021 := Nat.mul_le_mul_right _ (by omega)
      omega
    have HMQ := hidE hmq
    clear hb hmq
    by_cases hlt : q < m
    · have hlt' : (q : Int) < m := by omega
      obtain ⟨x, hx⟩ : ∃ x, xs[q]? = some x := ⟨_, List.getElem?_eq_getElem (by rw [HM.out]; exact hlt)⟩
      have hxm : x ∈ xs := List.mem_of_getElem? hx
      have hbd := HX.out x hxm
      obtain ⟨bl, off, k1, e1, hbl, _, a0, a1, a2, a3⟩ := (HL.out.below HB.out (Nat.le_refl _)).at hx
      have f1 : ad = some ⟨bl, off, none⟩ := by injection e1
      have HTK : Hid (xs.take (q + 1) = xs.take q ++ [x]) := by
        show _ = _
        rw [List.take_add_one, hx]; rfl
      have HXM := hidE hxm
      have HCL : Hid (∀ W, Below wr.heap.size wr W → W.cell? ⟨bl, off + q * 4, none⟩ = some (.int .i64 x.k) ∧ W.cell? ⟨bl, off + q * 4 + 1, none⟩ = some (.int .i64 x.i) ∧ W.cell? ⟨bl, off + q * 4 + 2, none⟩ = some (.string x.t) ∧ W.cell? ⟨bl, off + q * 4 + 3, none⟩ = some (.int .u64 x.n)) := fun W h =>
        ⟨cell_below h (Nat.le_refl _) a0, cell_below h (Nat.le_refl _) a1, cell_below h (Nat.le_refl _) a2, cell_below h (Nat.le_refl _) a3⟩
      have HMA := hidE (fun W => rmay_any x hbd.1 (by omega) W)
      have HTA := hidE (fun W (h : Env W) => rtold_any x hbd.1 hbd.2.1 (by omega) W h)
      have HTL := hidE (tell_len Lib.validD x.wd)
      have hts : x.wd.text.length ≤ 4000 := hbd.2.2
      subst f1
      clear e1 hx hxm
      cases hmy : mayW Lib.validD x.wd with
      | false =>
        have HRV : Hid (R = .tuple #[.string ⟨#[]⟩, .int .i64 2]) := by show _ = _; rw [← HR.out]; exact printV_may HXM.out hmy
        rw [hmy] at HMA
        obtain ⟨xk, xi, xt, xn⟩ := x
        unfold W4.val at HMA
        simp only at a0 a1 a2 a3 HMA
        clear hmy HTA HTL HCL
        go_wp2_with fail
        refine (HMA.out _).mono ?_
        rintro e w2 ⟨rfl, hb2⟩
        have HB2 := hidE (below_on HB.out hb2)
        clear hb2
        go_wp2_with fail
        go_ret2
        exact ⟨by rw [HRV.out]; rfl, HB2.out⟩
      | true =>
        have HPN : Hid (printW ((xs.take (q + 1)).map W4.wd) = (printW ((xs.take q).map W4.wd) ++ (if q = 0 then [] else [32])) ++ tellW x.wd ∧ ∀ y ∈ xs.take (q + 1), mayW Lib.validD y.wd = true) := by
          refine ⟨?_, ?_⟩
          · rw [HTK.out, List.map_append, List.map_cons, List.map_nil, print_snoc]
            congr 2
            by_cases h0 : q = 0
            · subst h0; simp
            · rw [if_neg h0, if_neg]
              intro e
              have h1 := congrArg List.length e
              rw [List.length_map, List.length_take, List.length_nil] at h1
              have := HM.out
              omega
          · intro y hy
            rw [HTK.out, List.mem_append, List.mem_singleton] at hy
            rcases hy with hy | rfl
            · exact HMQ.out y hy
            · exact hmy
        have htl := HTL.out hmy
        rw [hmy] at HMA
        generalize printW ((xs.take q).map W4.wd) = A at HPN hpl ⊢
        obtain ⟨T, hT⟩ : ∃ T, tellW x.wd = T := ⟨_, rfl⟩
        rw [hT] at HPN htl HTA
        have hTs : (bsOf T).size ≤ 24020 := by rw [bsOf_size]; omega
        obtain ⟨xk, xi, xt, xn⟩ := x
        unfold W4.val at HMA HTA
        simp only at a0 a1 a2 a3 HMA HTA HCL
        clear hmy HTL hT htl hts hbd
        go_wp2_with fail
        refine (HMA.out _).mono ?_
        rintro e w2 ⟨rfl, hb2⟩
        have HB2 := hidE (below_on HB.out hb2)
        obtain ⟨b0, b1, b2, b3⟩ := HCL.out w2 hb2
        clear hb2 a0 a1 a2 a3 HCL
        by_cases h0 : q = 0
        · have h0' : ¬ (0 : Int) < q := by omega
          have HAP : Hid (bsOf A ++ bsOf T = bsOf (printW ((xs.take (q + 1)).map W4.wd))) := by
            show _ = _
            rw [HPN.out.1, if_pos h0, bs_app]; simp
          clear h0
          go_wp2_with fail
          refine (HTA.out _ (HE.out.below HB2.out h8)).mono ?_
          rintro e w3 ⟨rfl, hb3⟩
          have HB3 := hidE (below_on HB2.out hb3)
          clear hb3 b0 b1 b2 b3
          go_wp2_with fail
          go_roundw
          case rel => exact ⟨q + 1, by omega, by go_num, by rw [HAP.out], HPN.out.2, HB3.out⟩
          case measure => simp [intOf]; omega
        · have h0' : (0 : Int) < q := by omega
          have HAP : Hid (bsOf A ++ ⟨#[32]⟩ ++ bsOf T = bsOf (printW ((xs.take (q + 1)).map W4.wd))) := by
            show _ = _
            rw [HPN.out.1, if_neg h0, show (⟨#[32]⟩ : ByteArray) = bsOf [32] from rfl, bs_app, bs_app]
          have hss : (bsOf A ++ ⟨#[32]⟩).size ≤ 200 * 24021 + 1 := by rw [ByteArray.size_append]; show _ + 1 ≤ _; omega
          clear h0
          go_wp2_with fail
          refine (HTA.out _ (HE.out.below HB2.out h8)).mono ?_
          rintro e w3 ⟨rfl, hb3⟩
          have HB3 := hidE (below_on HB2.out hb3)
          clear hb3 b0 b1 b2 b3
          go_wp2_with fail
          go_roundw
          case rel => exact ⟨q + 1, by omega, by go_num, by rw [HAP.out], HPN.out.2, HB3.out⟩
          case measure => simp [intOf]; omega
    · have hlt' : ¬ (q : Int) < m := by omega
      have HF : Hid (xs.take q = xs) := by
        show _ = _
        rw [List.take_of_length_le (by have := HM.out; omega)]
      have HAL : Hid ((xs.all fun x => mayW Lib.validD x.wd) = true) := by
        show _ = _
        rw [List.all_eq_true]
        intro y hy
        exact HMQ.out y (by rw [HF.out]; exact hy)
      have HFS : Hid ((bsOf (printW ((xs.take q).map W4.wd))).size = (printW (xs.map W4.wd)).length) := by show _ = _; rw [bsOf_size, HF.out]
      have HFB : Hid (bsOf (printW ((xs.take q).map W4.wd)) = bsOf (printW (xs.map W4.wd))) := by show _ = _; rw [HF.out]
      generalize bsOf (printW ((xs.take q).map W4.wd)) = S at HFS HFB hpl ⊢
      by_cases hgt : 1048576 < S.size
      · have hgt' : (1048576 : Int) < S.size := by omega
        have HRV : Hid (R = .tuple #[.string ⟨#[]⟩, .int .i64 3]) := by
          show _ = _
          rw [← HR.out]
          unfold printV
          rw [if_pos HAL.out, if_pos (by rw [← HFS.out]; exact hgt)]
        go_wp2_with fail
        go_ret2
        exact ⟨by rw [HRV.out]; rfl, HB.out⟩
      · have hgt' : ¬ (1048576 : Int) < S.size := by omega
        have HRV : Hid (R = .tuple #[.string S, .int .i64 0]) := by
          show _ = _
          rw [← HR.out, HFB.out]
          exact printV_ok HAL.out (by rw [← HFS.out]; omega)
        go_wp2_with fail
        go_ret2
        exact ⟨by rw [HRV.out]; rfl, HB.out⟩
end Go.Proofs.YtbjcdpenfijfoaaGreatDoor
