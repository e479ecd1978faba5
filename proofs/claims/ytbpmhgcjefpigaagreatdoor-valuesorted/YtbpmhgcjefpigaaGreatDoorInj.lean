/- Two values that may be have one text just if they are one: about rows of bytes alone. -/
import Derived.Test.YtbpmhgcjefpigaaGreatDoorJoin15
import Derived.Test.YtbpmhgcjefpigaaGreatDoorTotal
namespace Go.Proofs.YtbpmhgcjefpigaaGreatDoor
open Go.Lib
set_option linter.unusedVariables false
set_option linter.unusedSimpArgs false
/-! Runs -/
theorem run_inj {p : UInt8 → Prop} : ∀ {l l' r r' : List UInt8}, (∀ c ∈ l, p c) → (∀ c ∈ l', p c) → (∀ c ∈ r.head?, ¬ p c) → (∀ c ∈ r'.head?, ¬ p c) → l ++ r = l' ++ r' → l = l' ∧ r = r'
  | [], [], r, r', _, _, _, _, h => ⟨rfl, h⟩
  | [], c :: l', r, r', _, h2, h3, _, h => by
    rw [List.nil_append, List.cons_append] at h
    rw [h] at h3
    exact absurd (h2 c (by simp)) (h3 c (by simp))
  | c :: l, [], r, r', h1, _, _, h4, h => by
    rw [List.nil_append, List.cons_append] at h
    rw [← h] at h4
    exact absurd (h1 c (by simp)) (h4 c (by simp))
  | c :: l, d :: l', r, r', h1, h2, h3, h4, h => by
    rw [List.cons_append, List.cons_append, List.cons.injEq] at h
    obtain ⟨e1, e2⟩ := run_inj (fun x hx => h1 x (by simp [hx])) (fun x hx => h2 x (by simp [hx])) h3 h4 h.2
    exact ⟨by rw [h.1, e1], e2⟩
/-! Numbers -/
def valD (l : List UInt8) : Nat := l.foldl (fun a c => 10 * a + (c.toNat - 48)) 0
theorem valD_snoc (l : List UInt8) (c : UInt8) : valD (l ++ [c]) = 10 * valD l + (c.toNat - 48) := by simp [valD]
theorem dig_nat {i : Nat} (h : i < 10) : (UInt8.ofNat (48 + i)).toNat = 48 + i := by
  rw [UInt8.toNat_ofNat']; omega
theorem valD_digits (u : Nat) : valD (decDigits u) = u := by
  induction u using Nat.strongRecOn with
  | _ u ih =>
    rw [decDigits]
    by_cases h : u < 10
    · rw [dif_pos h]
      show 10 * 0 + ((UInt8.ofNat (48 + u)).toNat - 48) = u
      rw [dig_nat h]; omega
    · rw [dif_neg h, valD_snoc, ih _ (by omega), dig_nat (by omega)]; omega
def isDig (c : UInt8) : Prop := 48 ≤ c.toNat ∧ c.toNat ≤ 57
theorem digits_dig (u : Nat) : ∀ c ∈ decDigits u, isDig c := by
  induction u using Nat.strongRecOn with
  | _ u ih =>
    intro c hc
    rw [decDigits] at hc
    by_cases h : u < 10
    · rw [dif_pos h] at hc
      simp only [List.mem_cons, List.not_mem_nil, or_false] at hc
      subst hc
      unfold isDig; rw [dig_nat h]; omega
    · rw [dif_neg h] at hc
      rcases List.mem_append.1 hc with hc | hc
      · exact ih _ (by omega) c hc
      · simp only [List.mem_cons, List.not_mem_nil, or_false] at hc
        subst hc
        unfold isDig; rw [dig_nat (by omega)]; omega
theorem digits_inj {u v : Nat} {r r' : List UInt8} (h1 : ∀ c ∈ r.head?, ¬ isDig c) (h2 : ∀ c ∈ r'.head?, ¬ isDig c) (h : decDigits u ++ r = decDigits v ++ r') : u = v ∧ r = r' := by
  obtain ⟨e1, e2⟩ := run_inj (digits_dig u) (digits_dig v) h1 h2 h
  have := valD_digits u
  rw [e1, valD_digits v] at this
  exact ⟨this.symm, e2⟩
theorem digits_head (u : Nat) : ∃ c l, decDigits u = c :: l ∧ isDig c := by
  have h := digits_pos u
  cases e : decDigits u with
  | nil => rw [e] at h; simp at h
  | cons c l => exact ⟨c, l, rfl, digits_dig u c (by rw [e]; simp)⟩
theorem itoa_inj {n m : Int} {r r' : List UInt8} (h1 : ∀ c ∈ r.head?, ¬ isDig c) (h2 : ∀ c ∈ r'.head?, ¬ isDig c) (h : itoa n ++ r = itoa m ++ r') : n = m ∧ r = r' := by
  unfold itoa at h
  by_cases hn : n < 0
  · by_cases hm : m < 0
    · rw [if_pos hn, if_pos hm, List.cons_append, List.cons_append, List.cons.injEq] at h
      obtain ⟨e1, e2⟩ := digits_inj h1 h2 h.2
      exact ⟨by omega, e2⟩
    · rw [if_pos hn, if_neg hm] at h
      obtain ⟨c, l, e, hc⟩ := digits_head m.toNat
      rw [e, List.cons_append, List.cons_append, List.cons.injEq] at h
      rw [← h.1] at hc
      exact absurd hc (by unfold isDig; decide)
  · by_cases hm : m < 0
    · rw [if_neg hn, if_pos hm] at h
      obtain ⟨c, l, e, hc⟩ := digits_head n.toNat
      rw [e, List.cons_append, List.cons_append, List.cons.injEq] at h
      rw [h.1] at hc
      exact absurd hc (by unfold isDig; decide)
    · rw [if_neg hn, if_neg hm] at h
      obtain ⟨e1, e2⟩ := digits_inj h1 h2 h
      exact ⟨by omega, e2⟩
/-! Texts -/
def hexV (c : UInt8) : Nat := if c.toNat < 58 then c.toNat - 48 else c.toNat - 87
/-- What a byte was, read back. -/
def decB : List UInt8 → UInt8 × List UInt8
  | [] => (0, [])
  | c :: X => if c = 92 then (match X with
      | [] => (0, [])
      | d :: Y => if d = 110 then (10, Y) else if d = 116 then (9, Y) else if d = 114 then (13, Y) else if d = 117 then (UInt8.ofNat (16 * hexV (Y.getD 2 0) + hexV (Y.getD 3 0)), Y.drop 4) else (d, Y)) else (c, X)
theorem hex_back : ∀ n : Nat, n < 128 → UInt8.ofNat (16 * hexV (hexB (n / 16)) + hexV (hexB (n % 16))) = UInt8.ofNat n := by decide
theorem dec_esc (c : UInt8) (X : List UInt8) : decB (escB c ++ X) = (c, X) := by
  unfold escB
  split
  · rename_i h
    rcases h with rfl | rfl <;> rfl
  · split
    · rename_i h; subst h; rfl
    · split
      · rename_i h; subst h; rfl
      · split
        · rename_i h; subst h; rfl
        · split
          · rename_i h
            have hc : c.toNat < 128 := by
              rcases h with h | h
              · have := UInt8.lt_iff_toNat_lt.1 h
                have e : (32 : UInt8).toNat = 32 := rfl
                omega
              · rw [h]; decide
            have := hex_back c.toNat hc
            have e : UInt8.ofNat c.toNat = c := by simp
            rw [e] at this
            show (UInt8.ofNat (16 * hexV (hexB (c.toNat / 16)) + hexV (hexB (c.toNat % 16))), X) = (c, X)
            rw [this]
          · rename_i h _ _ _ _
            have h92 : c ≠ 92 := fun e => h (.inr e)
            show (if c = 92 then _ else (c, X)) = (c, X)
            rw [if_neg h92]
theorem esc_inj {c d : UInt8} {X Y : List UInt8} (h : escB c ++ X = escB d ++ Y) : c = d ∧ X = Y := by
  have h1 := dec_esc c X
  rw [h, dec_esc d Y] at h1
  simp only [Prod.mk.injEq] at h1
  exact ⟨h1.1.symm, h1.2.symm⟩
theorem esc_head (c : UInt8) (X : List UInt8) : ∃ d Y, escB c ++ X = d :: Y ∧ d ≠ 39 := by
  unfold escB
  split
  · exact ⟨_, _, rfl, by decide⟩
  · rename_i h
    split
    · exact ⟨_, _, rfl, by decide⟩
    · split
      · exact ⟨_, _, rfl, by decide⟩
      · split
        · exact ⟨_, _, rfl, by decide⟩
        · split
          · exact ⟨_, _, rfl, by decide⟩
          · exact ⟨_, _, rfl, fun e => h (.inl e)⟩
theorem escAll_cons (c : UInt8) (l : List UInt8) : escAll (c :: l) = escB c ++ escAll l := by simp [escAll]
theorem escAll_inj : ∀ {l l' r r' : List UInt8}, escAll l ++ 39 :: r = escAll l' ++ 39 :: r' → l = l' ∧ r = r'
  | [], [], r, r', h => by
    simp only [escAll, List.map_nil, List.flatten_nil, List.nil_append, List.cons.injEq, true_and] at h
    exact ⟨rfl, h⟩
  | [], c :: l', r, r', h => by
    rw [escAll_cons, List.append_assoc] at h
    obtain ⟨d, Y, e, hd⟩ := esc_head c (escAll l' ++ 39 :: r')
    rw [e] at h
    simp only [escAll, List.map_nil, List.flatten_nil, List.nil_append, List.cons.injEq] at h
    exact absurd h.1.symm hd
  | c :: l, [], r, r', h => by
    rw [escAll_cons, List.append_assoc] at h
    obtain ⟨d, Y, e, hd⟩ := esc_head c (escAll l ++ 39 :: r)
    rw [e] at h
    simp only [escAll, List.map_nil, List.flatten_nil, List.nil_append, List.cons.injEq] at h
    exact absurd h.1 hd
  | c :: l, d :: l', r, r', h => by
    rw [escAll_cons, escAll_cons, List.append_assoc, List.append_assoc] at h
    obtain ⟨e1, e2⟩ := esc_inj h
    obtain ⟨e3, e4⟩ := escAll_inj e2
    exact ⟨by rw [e1, e3], e4⟩
theorem bytes_inj {s s' : ByteArray} (h : s.data.toList = s'.data.toList) : s = s' := by
  apply ByteArray.ext
  exact Array.toList_inj.1 h
theorem quote_inj {s s' : ByteArray} {r r' : List UInt8} (h : quoteB s ++ r = quoteB s' ++ r') : s = s' ∧ r = r' := by
  unfold quoteB at h
  simp only [List.append_assoc, List.cons_append, List.nil_append, List.cons.injEq, true_and] at h
  obtain ⟨e1, e2⟩ := escAll_inj h
  exact ⟨bytes_inj e1, e2⟩
/-! Keys -/
theorem dbl_inj : ∀ {l l' r r' : List UInt8}, dblB l ++ 96 :: 58 :: r = dblB l' ++ 96 :: 58 :: r' → l = l' ∧ r = r'
  | [], [], r, r', h => by
    simp only [dblB, List.map_nil, List.flatten_nil, List.nil_append, List.cons.injEq, true_and] at h
    exact ⟨rfl, h⟩
  | [], c :: l', r, r', h => by
    rw [dblB_cons] at h
    by_cases hc : c = 96
    · rw [if_pos hc] at h
      simp [dblB] at h
    · rw [if_neg hc] at h
      simp [dblB] at h
      exact absurd h.1.symm hc
  | c :: l, [], r, r', h => by
    rw [dblB_cons] at h
    by_cases hc : c = 96
    · rw [if_pos hc] at h
      simp [dblB] at h
    · rw [if_neg hc] at h
      simp [dblB] at h
      exact absurd h.1 hc
  | c :: l, d :: l', r, r', h => by
    rw [dblB_cons, dblB_cons] at h
    by_cases hc : c = 96
    · by_cases hd : d = 96
      · rw [if_pos hc, if_pos hd] at h
        simp only [List.cons_append, List.nil_append, List.cons.injEq, true_and] at h
        obtain ⟨e3, e4⟩ := dbl_inj h
        exact ⟨by rw [hc, hd, e3], e4⟩
      · rw [if_pos hc, if_neg hd] at h
        simp only [List.cons_append, List.nil_append, List.cons.injEq] at h
        exact absurd h.1.symm hd
    · by_cases hd : d = 96
      · rw [if_neg hc, if_pos hd] at h
        simp only [List.cons_append, List.nil_append, List.cons.injEq] at h
        exact absurd h.1 hc
      · rw [if_neg hc, if_neg hd] at h
        simp only [List.cons_append, List.nil_append, List.cons.injEq] at h
        obtain ⟨e3, e4⟩ := dbl_inj h.2
        exact ⟨by rw [h.1, e3], e4⟩
theorem bare_bytes {s : ByteArray} (h : bareB s = true) : s.data.toList ≠ [] ∧ ∀ c ∈ s.data.toList, c ≠ 58 ∧ c ≠ 96 := by
  unfold bareB at h
  rw [Bool.and_eq_true] at h
  refine ⟨fun e => ?_, fun c hc => ?_⟩
  · have h2 := of_decide_eq_true h.2
    have : s.size = s.data.toList.length := rfl
    rw [this, e] at h2
    simp at h2
  · obtain ⟨i, hi, rfl⟩ := List.mem_iff_getElem.1 hc
    have h1 := List.all_eq_true.1 h.1 i (List.mem_range.2 hi)
    have hb : s.get! i = s.data.toList[i] := by
      have : i < s.size := hi
      simp [ByteArray.get!, this]
    unfold bareAt letterB at h1
    rw [hb] at h1
    refine ⟨fun e => ?_, fun e => ?_⟩
    · rw [e] at h1; simp at h1
    · rw [e] at h1; simp at h1
theorem name_inj {s s' : ByteArray} {r r' : List UInt8} (h : (nameG s).data.toList ++ 58 :: r = (nameG s').data.toList ++ 58 :: r') : s = s' ∧ r = r' := by
  unfold nameG at h
  have qd : ∀ x : ByteArray, (⟨#[96]⟩ ++ ⟨(dblB x.data.toList).toArray⟩ ++ ⟨#[96]⟩ : ByteArray).data.toList = 96 :: dblB x.data.toList ++ [96] := fun x => by simp
  by_cases h1 : bareB s = true
  · by_cases h2 : bareB s' = true
    · rw [if_pos h1, if_pos h2] at h
      obtain ⟨e1, e2⟩ := run_inj (p := fun c => c ≠ 58) (fun c hc => ((bare_bytes h1).2 c hc).1) (fun c hc => ((bare_bytes h2).2 c hc).1) (by simp) (by simp) h
      simp only [List.cons.injEq, true_and] at e2
      exact ⟨bytes_inj e1, e2⟩
    · rw [if_pos h1, if_neg h2, qd] at h
      obtain ⟨g1, g2⟩ := bare_bytes h1
      cases e : s.data.toList with
      | nil => exact absurd e g1
      | cons c l =>
        rw [e] at h g2
        simp only [List.cons_append, List.cons.injEq] at h
        exact absurd h.1 (g2 c (by simp)).2
  · by_cases h2 : bareB s' = true
    · rw [if_neg h1, if_pos h2, qd] at h
      obtain ⟨g1, g2⟩ := bare_bytes h2
      cases e : s'.data.toList with
      | nil => exact absurd e g1
      | cons c l =>
        rw [e] at h g2
        simp only [List.cons_append, List.cons.injEq] at h
        exact absurd h.1.symm (g2 c (by simp)).2
    · rw [if_neg h1, if_neg h2, qd, qd] at h
      simp only [List.cons_append, List.append_assoc, List.nil_append, List.cons.injEq, true_and] at h
      obtain ⟨e1, e2⟩ := dbl_inj h
      exact ⟨bytes_inj e1, e2⟩
end Go.Proofs.YtbpmhgcjefpigaaGreatDoor
