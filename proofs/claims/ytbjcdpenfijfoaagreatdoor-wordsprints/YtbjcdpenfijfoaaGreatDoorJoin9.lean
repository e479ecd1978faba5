/- What stands behind the sign 92, by its bytes. The document's quoted names. -/
import Derived.Test.YtbjcdpenfijfoaaGreatDoorPhex
import Derived.Test.YtbjcdpenfijfoaaGreatDoorJoin5
namespace Go.Proofs.YtbjcdpenfijfoaaGreatDoor
open Go.RowKit Go.Shelf Go.Lexed
set_option linter.unusedVariables false
set_option linter.unusedSimpArgs false
/-- The bytes that an escape stands for, and what lies behind it. -/
def escP (l : List UInt8) : Option (List UInt8 × List UInt8) :=
  match l with
  | [] => none
  | e :: r =>
    match bitB e with
    | some x => some ([x], r)
    | none =>
      if e = 117 then
        match r with
        | a :: b :: c :: d :: r' => (rune4 a b c d).map fun x => (x, r')
        | _ => none
      else none
theorem text_esc (q : UInt8) (hq : q ≠ 92) (l : List UInt8) : textB q (92 :: l) = (escP l).bind fun p => putF p.1 (textB q p.2) := by
  rw [textB.eq_def]
  have h : ¬ (92 : UInt8) = q := fun e => hq e.symm
  simp only [h, if_false, if_true]
  cases l with
  | nil => rfl
  | cons e r =>
    simp only [escP]
    cases hb : bitB e with
    | some x => rfl
    | none =>
      simp only
      by_cases he : e = 117
      · simp only [he, if_true]
        match r with
        | a :: b :: c :: d :: r' =>
          simp only
          cases rune4 a b c d <;> rfl
        | [] => rfl
        | [_] => rfl
        | [_, _] => rfl
        | [_, _, _] => rfl
      · simp [he]
theorem four_of {l : List UInt8} (h : 4 ≤ l.length) : ∃ a b c d r, l = a :: b :: c :: d :: r := by
  match l, h with
  | a :: b :: c :: d :: r, _ => exact ⟨a, b, c, d, r, rfl⟩
theorem hexT_four (a b c d : UInt8) (r : List UInt8) : hexT (a :: b :: c :: d :: r) 4 0 = ((hexN a).bind fun a => (hexN b).bind fun b => (hexN c).bind fun c => (hexN d).bind fun d => some (4096 * a + 256 * b + 16 * c + d)) := by
  rw [hexT_cons]
  refine congrArg _ ?_
  funext a
  rw [hexT_cons]
  refine congrArg _ ?_
  funext b
  rw [hexT_cons]
  refine congrArg _ ?_
  funext c
  rw [hexT_cons]
  refine congrArg _ ?_
  funext d
  rw [hexT_done]
  congr 1
  omega
theorem enc_one {n : Nat} (h : n < 128) : Lib.encodeRune (n : Int) = [UInt8.ofNat n] := by
  unfold Lib.encodeRune
  rw [Lib.encodeRuneZ_one (by omega) (by omega)]
  rfl
theorem enc_two {n : Nat} (h0 : 128 ≤ n) (h : n < 2048) : Lib.encodeRune (n : Int) = [UInt8.ofNat (0xc0 + n / 64), UInt8.ofNat (0x80 + n % 64)] := by
  unfold Lib.encodeRune
  rw [Lib.encodeRuneZ_two (by omega) (by omega)]
  rfl
theorem enc_three {n : Nat} (h0 : 2048 ≤ n) (h : n < 65536) (h1 : ¬ (0xd800 ≤ n ∧ n ≤ 0xdfff)) : Lib.encodeRune (n : Int) = [UInt8.ofNat (0xe0 + n / 4096), UInt8.ofNat (0x80 + n / 64 % 64), UInt8.ofNat (0x80 + n % 64)] := by
  unfold Lib.encodeRune
  rw [Lib.encodeRuneZ_three (by omega)]
  rfl
theorem valid_is {n : Nat} (h : n < 65536) : Lib.validRune (n : Int) = !decide (0xd800 ≤ n ∧ n ≤ 0xdfff) := by
  unfold Lib.validRune
  rw [Bool.eq_iff_iff]
  simp only [Bool.not_eq_true', decide_eq_true_eq, decide_eq_false_iff_not]
  omega
theorem rune_of {a b c d : UInt8} {r : List UInt8} {n : Nat} (h : hexT (a :: b :: c :: d :: r) 4 0 = some n) (hn : n < 65536) : rune4 a b c d = if Lib.validRune (n : Int) then some (Lib.encodeRune (n : Int)) else none := by
  rw [hexT_four] at h
  unfold rune4
  cases ha : hexN a with
  | none => rw [ha] at h; cases h
  | some a =>
  cases hb : hexN b with
  | none => rw [ha, hb] at h; cases h
  | some b =>
  cases hc : hexN c with
  | none => rw [ha, hb, hc] at h; cases h
  | some c =>
  cases hd : hexN d with
  | none => rw [ha, hb, hc, hd] at h; cases h
  | some d =>
  rw [ha, hb, hc, hd] at h
  simp only [Option.bind_some, Option.some.injEq] at h
  simp only [bind, Option.bind_some, h]
  rw [valid_is hn]
  by_cases h1 : 0xd800 ≤ n ∧ n ≤ 0xdfff
  · rw [if_pos h1, decide_eq_true h1]; rfl
  · rw [if_neg h1, decide_eq_false h1]
    simp only [Bool.not_false, if_true]
    by_cases h2 : n < 0x80
    · rw [if_pos h2, enc_one h2]
    · rw [if_neg h2]
      by_cases h3 : n < 0x800
      · rw [if_pos h3, enc_two (by omega) h3]
      · rw [if_neg h3, enc_three (by omega) hn h1]
theorem rune_no {a b c d : UInt8} {r : List UInt8} (h : hexT (a :: b :: c :: d :: r) 4 0 = none) : rune4 a b c d = none := by
  rw [hexT_four] at h
  unfold rune4
  cases ha : hexN a with
  | none => rfl
  | some a =>
  cases hb : hexN b with
  | none => rfl
  | some b =>
  cases hc : hexN c with
  | none => rfl
  | some c =>
  cases hd : hexN d with
  | none => rfl
  | some d => rw [ha, hb, hc, hd] at h; cases h
/-- An escape by four digits. -/
theorem esc_u (r : List UInt8) : (∀ n : Nat, n < 65536 → hexT r 4 0 = some n → Lib.validRune (n : Int) = true → escP (117 :: r) = some (Lib.encodeRune (n : Int), r.drop 4)) ∧ ((∀ n : Nat, n < 65536 → hexT r 4 0 = some n → Lib.validRune (n : Int) = false) → (∀ n, hexT r 4 0 = some n → n < 65536) → escP (117 :: r) = none) := by
  have h0 : bitB 117 = none := rfl
  by_cases hl : 4 ≤ r.length
  · obtain ⟨a, b, c, d, r', rfl⟩ := four_of hl
    refine ⟨fun n hn h hv => ?_, fun h hlt => ?_⟩
    · simp only [escP, h0, if_true, rune_of h hn, hv]
      rfl
    · simp only [escP, h0, if_true]
      cases hx : hexT (a :: b :: c :: d :: r') 4 0 with
      | none => rw [rune_no hx]; rfl
      | some n =>
        rw [rune_of hx (hlt n hx), h n (hlt n hx) hx]; rfl
  · refine ⟨fun n hn h hv => ?_, fun h hlt => ?_⟩
    · unfold hexT at h; rw [if_neg hl] at h; cases h
    · simp only [escP, h0, if_true]
      match r, hl with
      | [], _ => rfl
      | [_], _ => rfl
      | [_, _], _ => rfl
      | [_, _, _], _ => rfl
      | _ :: _ :: _ :: _ :: _, hl => exact absurd (by simp) hl
theorem hexF_lt : ∀ (l : List UInt8) (n m P : Nat), n < P → hexF l n = some m → m < P * 16 ^ l.length
  | [], n, m, P, hn, h => by simp [hexF] at h; subst h; simpa using hn
  | c :: l, n, m, P, hn, h => by
    rw [hexF] at h
    cases hc : hexN c with
    | none => rw [hc] at h; cases h
    | some d =>
      rw [hc] at h
      have hd := hex_lt c d hc
      have := hexF_lt l (16 * n + d) m (16 * P) (by omega) h
      rw [List.length_cons, Nat.pow_succ]
      calc m < 16 * P * 16 ^ l.length := this
        _ = P * (16 ^ l.length * 16) := by rw [Nat.mul_comm 16 P, Nat.mul_assoc, Nat.mul_comm 16]
theorem hexT_lt {l : List UInt8} {n : Nat} (h : hexT l 4 0 = some n) : n < 65536 := by
  unfold hexT at h
  split at h
  · rename_i hl
    have := hexF_lt (l.take 4) 0 n 1 (by omega) h
    rw [List.length_take, Nat.min_eq_left hl] at this
    simpa using this
  · cases h
/-- The escapes of one byte. -/
def escX (i : Nat) : Nat := [92, 39, 34, 110, 116, 114].getD i 0
def escY (i : Nat) : Nat := [92, 39, 34, 10, 9, 13].getD i 0
theorem esc_hit {c : UInt8} {q : Nat} (hq : q < 6) (h : c.toNat = escX q) (r : List UInt8) : escP (c :: r) = some ([UInt8.ofNat (escY q)], r) := by
  have e : c = UInt8.ofNat (escX q) := by rw [← h]; simp
  subst e
  match q, hq with
  | 0, _ => rfl
  | 1, _ => rfl
  | 2, _ => rfl
  | 3, _ => rfl
  | 4, _ => rfl
  | 5, _ => rfl
theorem esc_miss {c : UInt8} (h : ∀ i, i < 6 → c.toNat ≠ escX i) : bitB c = none := by
  have h0 : ∀ (n : Nat), (hn : n < 256) → c.toNat ≠ n → ¬ c = UInt8.ofNat n := fun n hn hc e => hc (by rw [e, UInt8.toNat_ofNat']; omega)
  have a0 := h0 92 (by decide) (h 0 (by decide))
  have a1 := h0 39 (by decide) (h 1 (by decide))
  have a2 := h0 34 (by decide) (h 2 (by decide))
  have a3 := h0 110 (by decide) (h 3 (by decide))
  have a4 := h0 116 (by decide) (h 4 (by decide))
  have a5 := h0 114 (by decide) (h 5 (by decide))
  unfold bitB
  rw [if_neg (by rintro (e | e | e); exact a0 e; exact a1 e; exact a2 e), if_neg (show ¬ c = 110 from a3), if_neg (show ¬ c = 116 from a4), if_neg (show ¬ c = 114 from a5)]
theorem esc_other {c : UInt8} (h : ∀ i, i < 6 → c.toNat ≠ escX i) (h' : c.toNat ≠ 117) (r : List UInt8) : escP (c :: r) = none := by
  have e : ¬ c = 117 := fun e => h' (by rw [e]; rfl)
  simp only [escP, esc_miss h, e, if_false]
end Go.Proofs.YtbjcdpenfijfoaaGreatDoor

namespace Go.Proofs.YtbjcdpenfijfoaaGreatDoor
open Go.RowKit Go.Shelf Go.Lexed
open Go.Lib (byteCells byteCells_length)
set_option linter.unusedVariables false
set_option linter.unusedSimpArgs false
attribute [local go_sem] Oper.semAt_some
/-- What reading a quoted name answers. -/
def QuoTo (s : ByteArray) (i : Nat) (e : Ending) : Prop :=
  (∃ (t : List UInt8) (j : Nat), t.length ≤ s.size ∧ i < j ∧ j ≤ s.size ∧ quotB (suf s (i + 1)) = some (t, suf s j) ∧ e = .returned (.tuple #[.string (bsOf t), .int .i64 (j : Int), .bool (nameOk Lib.validD t)])) ∨
  (quotB (suf s (i + 1)) = none ∧ e = .returned (.tuple #[.string ⟨#[]⟩, .int .i64 (i : Int), .bool false]))
theorem one_cellB (w : World) (c : UInt8) : ∀ j u, (byteCells [c])[j]? = some u → (w.alloc (.cells #[.int .u8 (c.toNat : Int)] 5)).cell? ((⟨w.heap.size, 0, none⟩ : Addr).add j) = some u := by
  intro j u hj
  have hadd : (⟨w.heap.size, 0, none⟩ : Addr).add j = ⟨w.heap.size, j, none⟩ := by unfold Addr.add; split <;> simp_all
  rw [hadd]
  exact one_cell w c j u hj
/-- What a row is behind an append. -/
theorem told_row {base : Nat} {acc bs : List UInt8} {v v' : Value} {w W w' : World} {o : Obj} (hb : Below base w W) (ho : W.ownsRow base 5 1 v acc.length (byteCells acc)) (hB : base ≤ W.heap.size)
    (ht : Told base acc.length (byteCells acc) v (W.alloc o) bs v' w') : Below base w w' ∧ w'.ownsRow base 5 1 v' (acc ++ bs).length (byteCells (acc ++ bs)) := by
  have hb1 : Below base (W.alloc o) w' := ht.below (own_alloc ho o) (by simp; omega)
  have hb0 : Below base W (W.alloc o) := (Below.refl base W).alloc hB o
  refine ⟨hb.trans (hb0.trans hb1), ?_⟩
  have := ht.own
  rwa [← List.length_append, show byteCells acc ++ byteCells bs = byteCells (acc ++ bs) by simp [byteCells]] at this
set_option maxRecDepth 100000 in
set_option maxHeartbeats 4000000 in
theorem rquoted_any (s : ByteArray) (i : Nat) (hi : i < s.size) (hs : s.size ≤ 1000000000) (w : World) : Calls Tryz.prog 55 #[.string s, .int .i64 (i : Int)] w fun e w' => QuoTo s i e ∧ Below w.heap.size w w' := by
  have HST := hidE (fun k (hk : k ≤ s.size) w => starts_any s k ⟨#[96, 96]⟩ hk (by omega) (by decide) w)
  have HNM := hidE (fun (t : List UInt8) (ht : t.length ≤ s.size) w => rname_any (bsOf t) w (by rw [bsOf_size]; omega))
  go_enter Tryz.func55, Tryz.ntmps55
  go_wp2_with fail
  go_loopw [7, 8] (fun r v wr => ∃ (q : Nat) (acc : List UInt8), i + 1 ≤ q ∧ q ≤ s.size ∧ v = .int .i64 q ∧ Below w.heap.size w wr ∧ wr.ownsRow w.heap.size 5 1 r acc.length (byteCells acc) ∧ acc.length ≤ q ∧ quotB (suf s (i + 1)) = putF acc (quotB (suf s q))) (fun _ v _ => s.size - (intOf v).toNat)
  case atStart =>
    refine ⟨i + 1, [], Nat.le_refl _, by omega, by go_num, Below.refl _ _, World.ownsRow_nil _ _ _ _, Nat.zero_le _, ?_⟩
    cases quotB (suf s (i + 1)) <;> rfl
  case round =>
    obtain ⟨q, acc, hiq, hq, rfl, hb, ho, hl, hR⟩ := hrel
    have HB := hidE hb
    have HO := hidE ho
    have HR := hidE hR
    have hBs := hb.size
    clear hb ho hR
    by_cases hlt : q < s.size
    · have hlt' : (q : Int) < s.size := by omega
      obtain ⟨c, hc⟩ : ∃ c, s[q] = c := ⟨_, rfl⟩
      have hcn : (s[q].toNat : Int) = c.toNat := by rw [hc]
      have HC := hidE hc
      clear hc
      by_cases h96 : c.toNat = 96
      · have hc96 : c = 96 := by
          have : c = UInt8.ofNat 96 := by rw [← h96]; simp
          exact this
        have HSQ : Hid (s[q] = 96) := by show _ = _; rw [HC.out, hc96]
        have h96' : ((c.toNat : Int) == 96) = true := eq_bool (by omega)
        clear hc96 h96
        go_wp2_with fail
        refine (HST.out q hq _).mono ?_
        rintro e w1 ⟨rfl, rfl⟩
        clear h96' hcn HC
        cases hst : startsB s q (⟨#[96, 96]⟩ : ByteArray).data.toList with
        | true =>
          have hs2 := starts_two hst
          have HN2 : Hid (quotB (suf s (i + 1)) = putF (acc ++ [96]) (quotB (suf s (q + 2)))) := by
            show _ = _
            rw [HR.out, hs2.1, quotB.eq_def]
            simp only [if_true]
            exact putF_snoc _ _ _
          have hq2 := hs2.2
          clear hst hs2
          go_wp2_with (at_builtin; refine append_row (w1.alloc (.cells #[.int .u8 96] 5)) rfl _ _ rfl w.heap.size acc.length u7 (byteCells acc) rfl (own_alloc HO.out _) ⟨w1.heap.size, 0, none⟩ 1 1 [96] rfl rfl (one_cellB w1 96) (by omega) (by simp; omega) ?_; intro v' w' ht)
          obtain ⟨hb3, ho3⟩ := told_row HB.out HO.out hBs ht
          have HB3 := hidE hb3
          have HO3 := hidE ho3
          clear hb3 ho3 ht HB HO
          go_wp2_with fail
          go_roundw
          case rel => exact ⟨q + 2, acc ++ [96], by omega, by omega, by go_num, HB3.out, HO3.out, by simp; omega, HN2.out⟩
          case measure => simp [intOf]; omega
        | false =>
          have HN2 : Hid (quotB (suf s (i + 1)) = some (acc, suf s (q + 1))) := by
            show _ = _
            rw [HR.out, suf_cons hlt, HSQ.out, quotB.eq_def]
            simp only [if_true]
            have h1 : List.isPrefixOf [96, 96] (suf s q) = false := hst
            rw [suf_cons hlt, HSQ.out] at h1
            cases hr : suf s (q + 1) with
            | nil => simp [putF]
            | cons d r =>
              rw [hr] at h1
              have hne : ¬ d = 96 := by rintro rfl; simp [List.isPrefixOf] at h1
              simp [putF, hne]
          clear hst
          have hcv := own_conv (own_drew HO.out)
          have HNA := hidE (HNM.out acc (by omega))
          obtain ⟨p, hp⟩ : ∃ p, q + 1 = p := ⟨_, rfl⟩
          have hp' : (q : Int) + 1 = (p : Int) := by omega
          have hwp : IntKind.i64.wrap (p : Int) = (p : Int) := by rw [IntKind.wrap_i64]; omega
          rw [hp] at HN2
          go_wp2_with fail
          go_region_with (refine (HNA.out _).mono ?_; rintro e w2 ⟨rfl, rfl⟩)
          all_goals
            go_wp2_with fail
            go_ret3
            refine ⟨.inl ⟨acc, p, by omega, by omega, by omega, HN2.out, ?_⟩, HB.out.drew⟩
            rfl
      · have h96' : ((c.toNat : Int) == 96) = false := ne_bool (by omega)
        have HN2 : Hid (quotB (suf s (i + 1)) = putF (acc ++ [c]) (quotB (suf s (q + 1)))) := by
          show _ = _
          rw [HR.out, suf_cons hlt, quotB.eq_def]
          have : ¬ s[q] = 96 := by rw [HC.out]; intro e; rw [e] at h96; exact h96 rfl
          simp only [this, if_false]
          rw [HC.out]
          exact putF_snoc _ _ _
        clear h96
        go_wp2_with (at_builtin; refine append_row (wr.alloc (.cells #[.int .u8 (c.toNat : Int)] 5)) rfl _ _ rfl w.heap.size acc.length u7 (byteCells acc) rfl (own_alloc HO.out _) ⟨wr.heap.size, 0, none⟩ 1 1 [c] rfl rfl (one_cellB wr c) (by omega) (by simp; omega) ?_; intro v' w' ht)
        obtain ⟨hb3, ho3⟩ := told_row HB.out HO.out hBs ht
        have HB3 := hidE hb3
        have HO3 := hidE ho3
        clear hb3 ho3 ht HB HO
        go_wp2_with fail
        go_roundw
        case rel => exact ⟨q + 1, acc ++ [c], by omega, by omega, by go_num, HB3.out, HO3.out, by simp; omega, HN2.out⟩
        case measure => simp [intOf]; omega
    · have hlt' : ¬ (q : Int) < s.size := by omega
      have HN2 : Hid (quotB (suf s (i + 1)) = none) := by
        show _ = _
        rw [HR.out, suf_end (by omega)]; rfl
      go_wp2_with fail
      go_ret3
      exact ⟨.inr ⟨HN2.out, rfl⟩, HB.out⟩
end Go.Proofs.YtbjcdpenfijfoaaGreatDoor

