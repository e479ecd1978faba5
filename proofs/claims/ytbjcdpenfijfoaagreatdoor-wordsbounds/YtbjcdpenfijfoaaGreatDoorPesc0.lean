/- What stands behind the sign 92, by its bytes. -/
import Derived.Test.YtbjcdpenfijfoaaGreatDoorPhex
namespace Go.Proofs.YtbjcdpenfijfoaaGreatDoor
open Go.RowKit Go.Shelf Go.Lexed
set_option linter.unusedVariables false
set_option linter.unusedSimpArgs false
/-- The bytes that an escape stands for, and what lies behind it. -/
def escP (l : List UInt8) : Option (List UInt8 × List UInt8) :=
  match l with
  | [] => none
  | e :: r =>
    match bitB e with
    | some x => some ([x], r)
    | none =>
      if e = 117 then
        match r with
        | a :: b :: c :: d :: r' => (rune4 a b c d).map fun x => (x, r')
        | _ => none
      else none
theorem text_esc (q : UInt8) (hq : q ≠ 92) (l : List UInt8) : textB q (92 :: l) = (escP l).bind fun p => putF p.1 (textB q p.2) := by
  rw [textB.eq_def]
  have h : ¬ (92 : UInt8) = q := fun e => hq e.symm
  simp only [h, if_false, if_true]
  cases l with
  | nil => rfl
  | cons e r =>
    simp only [escP]
    cases hb : bitB e with
    | some x => rfl
    | none =>
      simp only
      by_cases he : e = 117
      · simp only [he, if_true]
        match r with
        | a :: b :: c :: d :: r' =>
          simp only
          cases rune4 a b c d <;> rfl
        | [] => rfl
        | [_] => rfl
        | [_, _] => rfl
        | [_, _, _] => rfl
      · simp [he]
theorem four_of {l : List UInt8} (h : 4 ≤ l.length) : ∃ a b c d r, l = a :: b :: c :: d :: r := by
  match l, h with
  | a :: b :: c :: d :: r, _ => exact ⟨a, b, c, d, r, rfl⟩
theorem hexT_four (a b c d : UInt8) (r : List UInt8) : hexT (a :: b :: c :: d :: r) 4 0 = ((hexN a).bind fun a => (hexN b).bind fun b => (hexN c).bind fun c => (hexN d).bind fun d => some (4096 * a + 256 * b + 16 * c + d)) := by
  rw [hexT_cons]
  refine congrArg _ ?_
  funext a
  rw [hexT_cons]
  refine congrArg _ ?_
  funext b
  rw [hexT_cons]
  refine congrArg _ ?_
  funext c
  rw [hexT_cons]
  refine congrArg _ ?_
  funext d
  rw [hexT_done]
  congr 1
  omega
theorem enc_one {n : Nat} (h : n < 128) : Lib.encodeRune (n : Int) = [UInt8.ofNat n] := by
  unfold Lib.encodeRune
  rw [Lib.encodeRuneZ_one (by omega) (by omega)]
  rfl
theorem enc_two {n : Nat} (h0 : 128 ≤ n) (h : n < 2048) : Lib.encodeRune (n : Int) = [UInt8.ofNat (0xc0 + n / 64), UInt8.ofNat (0x80 + n % 64)] := by
  unfold Lib.encodeRune
  rw [Lib.encodeRuneZ_two (by omega) (by omega)]
  rfl
theorem enc_three {n : Nat} (h0 : 2048 ≤ n) (h : n < 65536) (h1 : ¬ (0xd800 ≤ n ∧ n ≤ 0xdfff)) : Lib.encodeRune (n : Int) = [UInt8.ofNat (0xe0 + n / 4096), UInt8.ofNat (0x80 + n / 64 % 64), UInt8.ofNat (0x80 + n % 64)] := by
  unfold Lib.encodeRune
  rw [Lib.encodeRuneZ_three (by omega)]
  rfl
theorem valid_is {n : Nat} (h : n < 65536) : Lib.validRune (n : Int) = !decide (0xd800 ≤ n ∧ n ≤ 0xdfff) := by
  unfold Lib.validRune
  rw [Bool.eq_iff_iff]
  simp only [Bool.not_eq_true', decide_eq_true_eq, decide_eq_false_iff_not]
  omega
theorem rune_of {a b c d : UInt8} {r : List UInt8} {n : Nat} (h : hexT (a :: b :: c :: d :: r) 4 0 = some n) (hn : n < 65536) : rune4 a b c d = if Lib.validRune (n : Int) then some (Lib.encodeRune (n : Int)) else none := by
  rw [hexT_four] at h
  unfold rune4
  cases ha : hexN a with
  | none => rw [ha] at h; cases h
  | some a =>
  cases hb : hexN b with
  | none => rw [ha, hb] at h; cases h
  | some b =>
  cases hc : hexN c with
  | none => rw [ha, hb, hc] at h; cases h
  | some c =>
  cases hd : hexN d with
  | none => rw [ha, hb, hc, hd] at h; cases h
  | some d =>
  rw [ha, hb, hc, hd] at h
  simp only [Option.bind_some, Option.some.injEq] at h
  simp only [bind, Option.bind_some, h]
  rw [valid_is hn]
  by_cases h1 : 0xd800 ≤ n ∧ n ≤ 0xdfff
  · rw [if_pos h1, decide_eq_true h1]; rfl
  · rw [if_neg h1, decide_eq_false h1]
    simp only [Bool.not_false, if_true]
    by_cases h2 : n < 0x80
    · rw [if_pos h2, enc_one h2]
    · rw [if_neg h2]
      by_cases h3 : n < 0x800
      · rw [if_pos h3, enc_two (by omega) h3]
      · rw [if_neg h3, enc_three (by omega) hn h1]
theorem rune_no {a b c d : UInt8} {r : List UInt8} (h : hexT (a :: b :: c :: d :: r) 4 0 = none) : rune4 a b c d = none := by
  rw [hexT_four] at h
  unfold rune4
  cases ha : hexN a with
  | none => rfl
  | some a =>
  cases hb : hexN b with
  | none => rfl
  | some b =>
  cases hc : hexN c with
  | none => rfl
  | some c =>
  cases hd : hexN d with
  | none => rfl
  | some d => rw [ha, hb, hc, hd] at h; cases h
/-- An escape by four digits. -/
theorem esc_u (r : List UInt8) : (∀ n : Nat, n < 65536 → hexT r 4 0 = some n → Lib.validRune (n : Int) = true → escP (117 :: r) = some (Lib.encodeRune (n : Int), r.drop 4)) ∧ ((∀ n : Nat, n < 65536 → hexT r 4 0 = some n → Lib.validRune (n : Int) = false) → (∀ n, hexT r 4 0 = some n → n < 65536) → escP (117 :: r) = none) := by
  have h0 : bitB 117 = none := rfl
  by_cases hl : 4 ≤ r.length
  · obtain ⟨a, b, c, d, r', rfl⟩ := four_of hl
    refine ⟨fun n hn h hv => ?_, fun h hlt => ?_⟩
    · simp only [escP, h0, if_true, rune_of h hn, hv]
      rfl
    · simp only [escP, h0, if_true]
      cases hx : hexT (a :: b :: c :: d :: r') 4 0 with
      | none => rw [rune_no hx]; rfl
      | some n =>
        rw [rune_of hx (hlt n hx), h n (hlt n hx) hx]; rfl
  · refine ⟨fun n hn h hv => ?_, fun h hlt => ?_⟩
    · unfold hexT at h; rw [if_neg hl] at h; cases h
    · simp only [escP, h0, if_true]
      match r, hl with
      | [], _ => rfl
      | [_], _ => rfl
      | [_, _], _ => rfl
      | [_, _, _], _ => rfl
      | _ :: _ :: _ :: _ :: _, hl => exact absurd (by simp) hl
theorem hexF_lt : ∀ (l : List UInt8) (n m P : Nat), n < P → hexF l n = some m → m < P * 16 ^ l.length
  | [], n, m, P, hn, h => by simp [hexF] at h; subst h; simpa using hn
  | c :: l, n, m, P, hn, h => by
    rw [hexF] at h
    cases hc : hexN c with
    | none => rw [hc] at h; cases h
    | some d =>
      rw [hc] at h
      have hd := hex_lt c d hc
      have := hexF_lt l (16 * n + d) m (16 * P) (by omega) h
      rw [List.length_cons, Nat.pow_succ]
      calc m < 16 * P * 16 ^ l.length := this
        _ = P * (16 ^ l.length * 16) := by rw [Nat.mul_comm 16 P, Nat.mul_assoc, Nat.mul_comm 16]
theorem hexT_lt {l : List UInt8} {n : Nat} (h : hexT l 4 0 = some n) : n < 65536 := by
  unfold hexT at h
  split at h
  · rename_i hl
    have := hexF_lt (l.take 4) 0 n 1 (by omega) h
    rw [List.length_take, Nat.min_eq_left hl] at this
    simpa using this
  · cases h
/-- The escapes of one byte. -/
def escX (i : Nat) : Nat := [92, 39, 34, 110, 116, 114].getD i 0
def escY (i : Nat) : Nat := [92, 39, 34, 10, 9, 13].getD i 0
theorem esc_hit {c : UInt8} {q : Nat} (hq : q < 6) (h : c.toNat = escX q) (r : List UInt8) : escP (c :: r) = some ([UInt8.ofNat (escY q)], r) := by
  have e : c = UInt8.ofNat (escX q) := by rw [← h]; simp
  subst e
  match q, hq with
  | 0, _ => rfl
  | 1, _ => rfl
  | 2, _ => rfl
  | 3, _ => rfl
  | 4, _ => rfl
  | 5, _ => rfl
theorem esc_miss {c : UInt8} (h : ∀ i, i < 6 → c.toNat ≠ escX i) : bitB c = none := by
  have h0 : ∀ (n : Nat), (hn : n < 256) → c.toNat ≠ n → ¬ c = UInt8.ofNat n := fun n hn hc e => hc (by rw [e, UInt8.toNat_ofNat']; omega)
  have a0 := h0 92 (by decide) (h 0 (by decide))
  have a1 := h0 39 (by decide) (h 1 (by decide))
  have a2 := h0 34 (by decide) (h 2 (by decide))
  have a3 := h0 110 (by decide) (h 3 (by decide))
  have a4 := h0 116 (by decide) (h 4 (by decide))
  have a5 := h0 114 (by decide) (h 5 (by decide))
  unfold bitB
  rw [if_neg (by rintro (e | e | e); exact a0 e; exact a1 e; exact a2 e), if_neg (show ¬ c = 110 from a3), if_neg (show ¬ c = 116 from a4), if_neg (show ¬ c = 114 from a5)]
theorem esc_other {c : UInt8} (h : ∀ i, i < 6 → c.toNat ≠ escX i) (h' : c.toNat ≠ 117) (r : List UInt8) : escP (c :: r) = none := by
  have e : ¬ c = 117 := fun e => h' (by rw [e]; rfl)
  simp only [escP, esc_miss h, e, if_false]
end Go.Proofs.YtbjcdpenfijfoaaGreatDoor
