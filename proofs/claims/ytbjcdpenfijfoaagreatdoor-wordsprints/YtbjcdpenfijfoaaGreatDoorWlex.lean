/- Words of a text, read and told: about rows of bytes alone. U is whether a row is UTF-8. -/
import Derived.Lib.ItoaNum
namespace Go.Lexed
open Go.Lib
set_option linter.unusedVariables false
set_option linter.unusedSimpArgs false

theorem digits_pos (u : Nat) : 1 ≤ (decDigits u).length := by
  rw [decDigits]; split <;> simp
/-! Numbers -/
def valD (l : List UInt8) : Nat := l.foldl (fun a c => 10 * a + (c.toNat - 48)) 0
theorem valD_snoc (l : List UInt8) (c : UInt8) : valD (l ++ [c]) = 10 * valD l + (c.toNat - 48) := by simp [valD]
theorem dig_nat {i : Nat} (h : i < 10) : (UInt8.ofNat (48 + i)).toNat = 48 + i := by
  rw [UInt8.toNat_ofNat']; omega
theorem valD_digits (u : Nat) : valD (decDigits u) = u := by
  induction u using Nat.strongRecOn with
  | _ u ih =>
    rw [decDigits]
    by_cases h : u < 10
    · rw [dif_pos h]
      show 10 * 0 + ((UInt8.ofNat (48 + u)).toNat - 48) = u
      rw [dig_nat h]; omega
    · rw [dif_neg h, valD_snoc, ih _ (by omega), dig_nat (by omega)]; omega
def isDig (c : UInt8) : Prop := 48 ≤ c.toNat ∧ c.toNat ≤ 57
theorem digits_dig (u : Nat) : ∀ c ∈ decDigits u, isDig c := by
  induction u using Nat.strongRecOn with
  | _ u ih =>
    intro c hc
    rw [decDigits] at hc
    by_cases h : u < 10
    · rw [dif_pos h] at hc
      simp only [List.mem_cons, List.not_mem_nil, or_false] at hc
      subst hc
      unfold isDig; rw [dig_nat h]; omega
    · rw [dif_neg h] at hc
      rcases List.mem_append.1 hc with hc | hc
      · exact ih _ (by omega) c hc
      · simp only [List.mem_cons, List.not_mem_nil, or_false] at hc
        subst hc
        unfold isDig; rw [dig_nat (by omega)]; omega
theorem digits_head (u : Nat) : ∃ c l, decDigits u = c :: l ∧ isDig c := by
  have h := digits_pos u
  cases e : decDigits u with
  | nil => rw [e] at h; simp at h
  | cons c l => exact ⟨c, l, rfl, digits_dig u c (by rw [e]; simp)⟩

def isL (c : UInt8) : Bool := c == 95 || (97 ≤ c && c ≤ 122) || (65 ≤ c && c ≤ 90)
def isD (c : UInt8) : Bool := 48 ≤ c && c ≤ 57
def isB (c : UInt8) : Bool := c == 32 || c == 9 || c == 10 || c == 13
def isLD (c : UInt8) : Bool := isL c || isD c

/-- What holds of each of the 256 bytes. -/
theorem all_bytes {p : UInt8 → Prop} (h : ∀ n : Fin 256, p (UInt8.ofNat n.val)) (c : UInt8) : p c := by
  have := h ⟨c.toNat, c.toNat_lt⟩
  simpa using this

structure Wd where
  kind : Nat
  text : List UInt8
  num : Nat
deriving DecidableEq

/-! Between words -/
def lineB : List UInt8 → List UInt8
  | [] => []
  | c :: r => if c = 10 then c :: r else lineB r
theorem lineB_le : ∀ l, (lineB l).length ≤ l.length
  | [] => Nat.le_refl _
  | c :: r => by
    rw [lineB]
    split
    · exact Nat.le_refl _
    · exact Nat.le_trans (lineB_le r) (by simp)
def starB : List UInt8 → Option (List UInt8)
  | [] => none
  | a :: r => match r with
    | [] => none
    | b :: r' => if a = 42 ∧ b = 47 then some r' else starB (b :: r')
theorem starB_lt : ∀ {l r : List UInt8}, starB l = some r → r.length < l.length
  | [], r, h => by simp [starB] at h
  | [a], r, h => by simp [starB] at h
  | a :: b :: l, r, h => by
    rw [starB] at h
    split at h
    · simp only [Option.some.injEq] at h; subst h; simp; omega
    · have := starB_lt h; simp at this ⊢; omega

/-- What lies behind blanks and comments; or the comment that has no end. -/
def skipB (l : List UInt8) : List UInt8 × Bool :=
  match l with
  | [] => ([], true)
  | c :: r =>
    if isB c then skipB r
    else if c = 47 then
      match r with
      | [] => (c :: r, true)
      | d :: r' =>
        if d = 47 then
          have := lineB_le r'
          skipB (lineB r')
        else if d = 42 then
          match h : starB r' with
          | none => (c :: r, false)
          | some r'' =>
            have := starB_lt h
            skipB r''
        else (c :: r, true)
    else (c :: r, true)
termination_by l.length
decreasing_by all_goals (simp_all; try omega)

/-! Words -/
def hexN (c : UInt8) : Option Nat :=
  if isD c then some (c.toNat - 48) else if 97 ≤ c ∧ c ≤ 102 then some (c.toNat - 87) else if 65 ≤ c ∧ c ≤ 70 then some (c.toNat - 55) else none
def rune4 (a b c d : UInt8) : Option (List UInt8) := do
  let a ← hexN a
  let b ← hexN b
  let c ← hexN c
  let d ← hexN d
  let n := 4096 * a + 256 * b + 16 * c + d
  if 0xd800 ≤ n ∧ n ≤ 0xdfff then none
  else if n < 0x80 then some [UInt8.ofNat n]
  else if n < 0x800 then some [UInt8.ofNat (0xc0 + n / 64), UInt8.ofNat (0x80 + n % 64)]
  else some [UInt8.ofNat (0xe0 + n / 4096), UInt8.ofNat (0x80 + n / 64 % 64), UInt8.ofNat (0x80 + n % 64)]
def bitB (c : UInt8) : Option UInt8 :=
  if c = 92 ∨ c = 39 ∨ c = 34 then some c else if c = 110 then some 10 else if c = 116 then some 9 else if c = 114 then some 13 else none
def textB (q : UInt8) (l : List UInt8) : Option (List UInt8 × List UInt8) :=
  match l with
  | [] => none
  | c :: r =>
    if c = q then some ([], r)
    else if c = 92 then
      match r with
      | [] => none
      | e :: r' =>
        match bitB e with
        | some x => (textB q r').map fun p => (x :: p.1, p.2)
        | none =>
          if e = 117 then
            match r' with
            | a :: b :: c :: d :: r'' =>
              match rune4 a b c d with
              | some x => (textB q r'').map fun p => (x ++ p.1, p.2)
              | none => none
            | _ => none
          else none
    else (textB q r).map fun p => (c :: p.1, p.2)
termination_by l.length
decreasing_by all_goals (simp_all; try omega)
def quotB : List UInt8 → Option (List UInt8 × List UInt8)
  | [] => none
  | c :: r =>
    if c = 96 then
      match r with
      | [] => some ([], [])
      | d :: r' => if d = 96 then (quotB r').map fun p => (96 :: p.1, p.2) else some ([], d :: r')
    else (quotB r).map fun p => (c :: p.1, p.2)
def twoB (a b : UInt8) : Bool := a == 60 && b == 62 || a == 60 && b == 61 || a == 62 && b == 61
def oneB (a : UInt8) : Bool := [40, 41, 91, 93, 123, 125, 44, 46, 58, 124, 61, 60, 62, 43, 45, 42, 47, 37, 36].contains a
def signB (l : List UInt8) : Option (Wd × List UInt8) :=
  match l with
  | [] => none
  | a :: r =>
    match r with
    | [] => if oneB a then some (⟨5, [a], 0⟩, []) else none
    | b :: r' => if twoB a b then some (⟨5, [a, b], 0⟩, r') else if oneB a then some (⟨5, [a], 0⟩, b :: r') else none

section
variable (U : List UInt8 → Bool)
def nameOk (l : List UInt8) : Bool := l.length ≥ 1 && l.length ≤ 64 && U l && !l.contains 0
def numB (l : List UInt8) : Option (Wd × List UInt8) :=
  let ds := l.takeWhile isD
  let r := l.dropWhile isD
  if valD ds ≤ 9223372036854775808 ∧ (l.head? ≠ some 48 ∨ ds.length = 1) ∧ (∀ c ∈ r.head?, isL c = false) then some (⟨4, [], valD ds⟩, r) else none
def wordB (l : List UInt8) : Option (Wd × List UInt8) :=
  match l with
  | [] => none
  | c :: r =>
    if isL c then if nameOk U ((c :: r).takeWhile isLD) then some (⟨1, (c :: r).takeWhile isLD, 0⟩, (c :: r).dropWhile isLD) else none
    else if c = 96 then
      match quotB r with
      | some p => if nameOk U p.1 then some (⟨2, p.1, 0⟩, p.2) else none
      | none => none
    else if c = 39 ∨ c = 34 then
      match textB c r with
      | some p => if U p.1 then some (⟨3, p.1, 0⟩, p.2) else none
      | none => none
    else if isD c then numB (c :: r)
    else signB (c :: r)

/-! Told -/
def hexC (n : Nat) : UInt8 := if n < 10 then UInt8.ofNat (48 + n) else UInt8.ofNat (87 + n)
def escC (c : UInt8) : List UInt8 :=
  if c = 39 ∨ c = 92 then [92, c] else if c = 10 then [92, 110] else if c = 9 then [92, 116] else if c = 13 then [92, 114] else if c < 32 ∨ c = 127 then [92, 117, 48, 48, hexC (c.toNat / 16), hexC (c.toNat % 16)] else [c]
def dblC (c : UInt8) : List UInt8 := if c = 96 then [96, 96] else [c]
def tellW (w : Wd) : List UInt8 :=
  if w.kind = 2 then 96 :: ((w.text.map dblC).flatten ++ [96])
  else if w.kind = 3 then 39 :: ((w.text.map escC).flatten ++ [39])
  else if w.kind = 4 then decDigits w.num
  else w.text
def bareB (l : List UInt8) : Bool := (match l with | [] => false | c :: _ => isL c) && l.all isLD
def signOk (l : List UInt8) : Bool := match l with | [a] => oneB a | [a, b] => twoB a b | _ => false
def mayW (w : Wd) : Bool :=
  if w.kind = 1 then bareB w.text && nameOk U w.text && w.num == 0
  else if w.kind = 2 then nameOk U w.text && w.num == 0
  else if w.kind = 3 then U w.text && w.num == 0
  else if w.kind = 4 then w.text == [] && w.num ≤ 9223372036854775808
  else if w.kind = 5 then signOk w.text && w.num == 0
  else false

/-- What may stand behind a word that is told. -/
def Stop (r : List UInt8) : Prop := ∀ c ∈ r.head?, isB c = true

theorem blank_no (c : UInt8) : isB c = true → isLD c = false ∧ isL c = false ∧ isD c = false ∧ c ≠ 96 ∧ (∀ a, twoB a c = false) := by
  intro h
  have h1 : c = 32 ∨ c = 9 ∨ c = 10 ∨ c = 13 := by simpa [isB, or_assoc] using h
  rcases h1 with rfl | rfl | rfl | rfl <;> refine ⟨by decide, by decide, by decide, by decide, fun a => ?_⟩ <;> simp [twoB]

theorem take_run {p : UInt8 → Bool} : ∀ {l r : List UInt8}, l.all p = true → (∀ c ∈ r.head?, p c = false) → (l ++ r).takeWhile p = l ∧ (l ++ r).dropWhile p = r
  | [], [], _, _ => by simp
  | [], c :: r, _, h => by
    have := h c (by simp)
    simp [List.takeWhile, List.dropWhile, this]
  | c :: l, r, h, h' => by
    simp only [List.all_cons, Bool.and_eq_true] at h
    obtain ⟨e1, e2⟩ := take_run h.2 h'
    simp [List.takeWhile, List.dropWhile, h.1, e1, e2]

theorem quot_back : ∀ (t r : List UInt8), (∀ c ∈ r.head?, c ≠ 96) → quotB ((t.map dblC).flatten ++ 96 :: r) = some (t, r)
  | [], r, h => by
    rw [List.map_nil, List.flatten_nil, List.nil_append, quotB.eq_def]
    cases r with
    | nil => rfl
    | cons d r' => simp [h d (by simp)]
  | c :: t, r, h => by
    rw [List.map_cons, List.flatten_cons, List.append_assoc]
    by_cases hc : c = 96
    · subst hc
      show quotB (96 :: 96 :: _) = _
      rw [quotB.eq_def]
      simp [quot_back t r h]
    · rw [show dblC c = [c] by simp [dblC, hc]]
      show quotB (c :: _) = _
      rw [quotB.eq_def]
      simp [hc, quot_back t r h]

set_option maxRecDepth 20000 in
theorem esc_code (c : UInt8) : (c < 32 ∨ c = 127) → rune4 48 48 (hexC (c.toNat / 16)) (hexC (c.toNat % 16)) = some [c] := by
  refine all_bytes (p := fun c => (c < 32 ∨ c = 127) → rune4 48 48 (hexC (c.toNat / 16)) (hexC (c.toNat % 16)) = some [c]) ?_ c
  decide

theorem text_back : ∀ (t r : List UInt8), textB 39 ((t.map escC).flatten ++ 39 :: r) = some (t, r)
  | [], r => by
    rw [List.map_nil, List.flatten_nil, List.nil_append, textB.eq_def]
    simp
  | c :: t, r => by
    rw [List.map_cons, List.flatten_cons, List.append_assoc]
    have ih := text_back t r
    generalize (t.map escC).flatten ++ 39 :: r = l at ih ⊢
    unfold escC
    by_cases h1 : c = 39 ∨ c = 92
    · rw [if_pos h1]
      show textB 39 (92 :: c :: l) = _
      rw [textB.eq_def]
      have : bitB c = some c := by rcases h1 with rfl | rfl <;> rfl
      simp [this, ih]
    · rw [if_neg h1]
      by_cases h2 : c = 10
      · subst h2
        show textB 39 (92 :: 110 :: l) = _
        rw [textB.eq_def]
        simp [show bitB 110 = some 10 from rfl, ih]
      · rw [if_neg h2]
        by_cases h3 : c = 9
        · subst h3
          show textB 39 (92 :: 116 :: l) = _
          rw [textB.eq_def]
          simp [show bitB 116 = some 9 from rfl, ih]
        · rw [if_neg h3]
          by_cases h4 : c = 13
          · subst h4
            show textB 39 (92 :: 114 :: l) = _
            rw [textB.eq_def]
            simp [show bitB 114 = some 13 from rfl, ih]
          · rw [if_neg h4]
            by_cases h5 : c < 32 ∨ c = 127
            · rw [if_pos h5]
              show textB 39 (92 :: 117 :: 48 :: 48 :: hexC (c.toNat / 16) :: hexC (c.toNat % 16) :: l) = _
              rw [textB.eq_def]
              simp [show bitB 117 = none from rfl, esc_code c h5, ih]
            · rw [if_neg h5]
              show textB 39 (c :: l) = _
              rw [textB.eq_def]
              simp only [not_or] at h1
              simp [h1.1, h1.2, ih]

set_option maxRecDepth 20000 in
theorem digit_isD (c : UInt8) : isDig c → isD c = true ∧ isL c = false ∧ c ≠ 96 ∧ c ≠ 39 ∧ c ≠ 34 := by
  refine all_bytes (p := fun c => isDig c → isD c = true ∧ isL c = false ∧ c ≠ 96 ∧ c ≠ 39 ∧ c ≠ 34) ?_ c
  unfold isDig
  decide
theorem digits_zero (u : Nat) : (decDigits u).head? ≠ some 48 ∨ (decDigits u).length = 1 := by
  induction u using Nat.strongRecOn with
  | _ u ih =>
    rw [decDigits]
    by_cases h : u < 10
    · rw [dif_pos h]; right; rfl
    · rw [dif_neg h]
      left
      obtain ⟨c, l, e, hc⟩ := digits_head (u / 10)
      rw [e, List.cons_append, List.head?_cons]
      rcases ih (u / 10) (by omega) with h1 | h1
      · rwa [e, List.head?_cons] at h1
      · rw [e] at h1
        have hl : l = [] := by simpa using h1
        subst hl
        have := valD_digits (u / 10)
        rw [e] at this
        intro hc'
        simp only [Option.some.injEq] at hc'
        subst hc'
        have hv : valD [48] = 0 := by decide
        rw [hv] at this
        omega

set_option maxRecDepth 20000 in
theorem word_back (w : Wd) (r : List UInt8) (hw : mayW U w = true) (hr : Stop r) : wordB U (tellW w ++ r) = some (w, r) := by
  obtain ⟨k, t, n⟩ := w
  have hn1 : ∀ c ∈ r.head?, isLD c = false := fun c hc => (blank_no c (hr c hc)).1
  have hn2 : ∀ c ∈ r.head?, isD c = false := fun c hc => (blank_no c (hr c hc)).2.2.1
  have hn3 : ∀ c ∈ r.head?, isL c = false := fun c hc => (blank_no c (hr c hc)).2.1
  have hn4 : ∀ c ∈ r.head?, c ≠ 96 := fun c hc => (blank_no c (hr c hc)).2.2.2.1
  unfold mayW at hw
  simp only at hw
  by_cases k1 : k = 1
  · subst k1
    simp only [if_true, Bool.and_eq_true, beq_iff_eq] at hw
    obtain ⟨⟨hb, hok⟩, rfl⟩ := hw
    cases t with
    | nil => simp [bareB] at hb
    | cons c t =>
      simp only [bareB, Bool.and_eq_true] at hb
      obtain ⟨e1, e2⟩ := take_run hb.2 hn1
      show wordB U (c :: (t ++ r)) = _
      simp only [wordB, hb.1, if_true]
      simp only [List.cons_append] at e1 e2
      rw [e1, e2, if_pos hok]
  · rw [if_neg k1] at hw
    by_cases k2 : k = 2
    · subst k2
      simp only [if_true, Bool.and_eq_true, beq_iff_eq] at hw
      obtain ⟨hok, rfl⟩ := hw
      show wordB U (96 :: ((t.map dblC).flatten ++ [96] ++ r)) = _
      rw [List.append_assoc, List.singleton_append]
      simp only [wordB, show isL 96 = false from rfl, quot_back t r hn4, if_true, hok]
      rfl
    · rw [if_neg k2] at hw
      by_cases k3 : k = 3
      · subst k3
        simp only [if_true, Bool.and_eq_true, beq_iff_eq] at hw
        obtain ⟨hok, rfl⟩ := hw
        show wordB U (39 :: ((t.map escC).flatten ++ [39] ++ r)) = _
        rw [List.append_assoc, List.singleton_append]
        simp only [wordB, show isL 39 = false from rfl, text_back t r, if_true, hok]
        rfl
      · rw [if_neg k3] at hw
        by_cases k4 : k = 4
        · subst k4
          simp only [if_true, Bool.and_eq_true, beq_iff_eq, decide_eq_true_eq] at hw
          obtain ⟨rfl, hn⟩ := hw
          show wordB U (decDigits n ++ r) = _
          obtain ⟨c, l, e, hc⟩ := digits_head n
          obtain ⟨d1, d2, d3, d4, d5⟩ := digit_isD c hc
          have hall : (decDigits n).all isD = true := List.all_eq_true.2 fun x hx => (digit_isD x (digits_dig n x hx)).1
          obtain ⟨e1, e2⟩ := take_run hall hn2
          have hz := digits_zero n
          have hv := valD_digits n
          have hnum : numB (decDigits n ++ r) = some (⟨4, [], n⟩, r) := by
            have hcond : (decDigits n ++ r).head? ≠ some 48 ∨ (decDigits n).length = 1 := by
              rw [e] at hz ⊢
              exact hz
            unfold numB
            simp only [e1, e2, hv]
            exact if_pos ⟨hn, hcond, hn3⟩
          rw [e, List.cons_append] at hnum ⊢
          simp only [wordB, d2, d3, d4, d5, d1, or_self, if_false, if_true, hnum]
          rfl
        · rw [if_neg k4] at hw
          by_cases k5 : k = 5
          · subst k5
            simp only [if_true, Bool.and_eq_true, beq_iff_eq] at hw
            obtain ⟨hs, rfl⟩ := hw
            show wordB U (t ++ r) = _
            match t, hs with
            | [a], hs =>
              have ha : isL a = false ∧ a ≠ 96 ∧ a ≠ 39 ∧ a ≠ 34 ∧ isD a = false := by
                revert hs
                refine all_bytes (p := fun a => signOk [a] = true → isL a = false ∧ a ≠ 96 ∧ a ≠ 39 ∧ a ≠ 34 ∧ isD a = false) ?_ a
                decide
              obtain ⟨a1, a2, a3, a4, a5⟩ := ha
              have h1 : oneB a = true := hs
              have hsg : signB (a :: r) = some (⟨5, [a], 0⟩, r) := by
                unfold signB
                cases r with
                | nil => simp [h1]
                | cons b r' =>
                  have := (blank_no b (hr b (by simp))).2.2.2.2 a
                  simp [this, h1]
              show wordB U (a :: r) = _
              simp only [wordB, a1, a2, a3, a4, a5, or_self, if_false, hsg]
              rfl
            | [a, b], hs =>
              have h1 : twoB a b = true := hs
              have ha : isL a = false ∧ a ≠ 96 ∧ a ≠ 39 ∧ a ≠ 34 ∧ isD a = false := by
                have : a = 60 ∨ a = 62 := by
                  simp only [twoB, Bool.or_eq_true, Bool.and_eq_true, beq_iff_eq] at h1
                  rcases h1 with (h | h) | h
                  · exact .inl h.1
                  · exact .inl h.1
                  · exact .inr h.1
                rcases this with rfl | rfl <;> decide
              obtain ⟨a1, a2, a3, a4, a5⟩ := ha
              have hsg : signB (a :: b :: r) = some (⟨5, [a, b], 0⟩, r) := by
                unfold signB
                simp [h1]
              show wordB U (a :: b :: r) = _
              simp only [wordB, a1, a2, a3, a4, a5, or_self, if_false, hsg]
              rfl
          · rw [if_neg k5] at hw
            cases hw

/-! The words of a text -/
theorem drop_le {p : UInt8 → Bool} : ∀ (l : List UInt8), (l.dropWhile p).length ≤ l.length
  | [] => Nat.le_refl _
  | c :: l => by
    rw [List.dropWhile]
    split
    · exact Nat.le_trans (drop_le l) (by simp)
    · exact Nat.le_refl _
theorem quotB_le : ∀ (n : Nat) (l : List UInt8), l.length ≤ n → ∀ p, quotB l = some p → p.2.length ≤ l.length
  | n, [], _, p, h => by simp [quotB] at h
  | 0, c :: r, hl, p, h => by simp at hl
  | n + 1, c :: r, hl, p, h => by
    rw [quotB.eq_def] at h
    simp only at h
    simp only [List.length_cons] at hl
    split at h
    · cases r with
      | nil => simp only [Option.some.injEq] at h; subst h; simp
      | cons d r' =>
        simp only at h
        split at h
        · obtain ⟨q, h1, rfl⟩ := Option.map_eq_some_iff.1 h
          have := quotB_le n r' (by simp at hl; omega) q h1
          simp; omega
        · simp only [Option.some.injEq] at h; subst h; simp
    · obtain ⟨q, h1, rfl⟩ := Option.map_eq_some_iff.1 h
      have := quotB_le n r (by omega) q h1
      simp; omega
theorem textB_le (q : UInt8) : ∀ (n : Nat) (l : List UInt8), l.length ≤ n → ∀ p, textB q l = some p → p.2.length ≤ l.length
  | n, [], _, p, h => by rw [textB.eq_def] at h; simp at h
  | 0, c :: r, hl, p, h => by simp at hl
  | n + 1, c :: r, hl, p, h => by
    rw [textB.eq_def] at h
    simp only at h
    simp only [List.length_cons] at hl
    split at h
    · simp only [Option.some.injEq] at h; subst h; simp
    · split at h
      · cases r with
        | nil => simp at h
        | cons e r' =>
          simp only [List.length_cons] at hl
          simp only at h
          split at h
          · obtain ⟨q', h1, rfl⟩ := Option.map_eq_some_iff.1 h
            have := textB_le q n r' (by omega) q' h1
            simp; omega
          · split at h
            · split at h
              · split at h
                · obtain ⟨q', h1, rfl⟩ := Option.map_eq_some_iff.1 h
                  simp only [List.length_cons] at hl
                  have := textB_le q n _ (by omega) q' h1
                  simp; omega
                · cases h
              · cases h
            · cases h
      · obtain ⟨q', h1, rfl⟩ := Option.map_eq_some_iff.1 h
        have := textB_le q n r (by omega) q' h1
        simp; omega
theorem wordB_lt {l : List UInt8} {p : Wd × List UInt8} (h : wordB U l = some p) : p.2.length < l.length := by
  cases l with
  | nil => simp [wordB] at h
  | cons c r =>
    simp only [wordB] at h
    split at h
    · rename_i hc
      split at h
      · simp only [Option.some.injEq] at h
        subst h
        have hld : isLD c = true := by simp [isLD, hc]
        simp only [List.dropWhile, hld]
        have := drop_le (p := isLD) r
        simp; omega
      · cases h
    · split at h
      · split at h
        · rename_i q hq
          split at h
          · simp only [Option.some.injEq] at h
            subst h
            have := quotB_le _ r (Nat.le_refl _) q hq
            simp; omega
          · cases h
        · cases h
      · split at h
        · split at h
          · rename_i q hq
            split at h
            · simp only [Option.some.injEq] at h
              subst h
              have := textB_le c _ r (Nat.le_refl _) q hq
              simp; omega
            · cases h
          · cases h
        · split at h
          · rename_i hd
            unfold numB at h
            simp only at h
            split at h
            · simp only [Option.some.injEq] at h
              subst h
              simp only [List.dropWhile, hd]
              have := drop_le (p := isD) r
              simp; omega
            · cases h
          · unfold signB at h
            cases r with
            | nil =>
              simp only at h
              split at h
              · simp only [Option.some.injEq] at h; subst h; simp
              · cases h
            | cons b r' =>
              simp only at h
              split at h
              · simp only [Option.some.injEq] at h; subst h; simp; omega
              · split at h
                · simp only [Option.some.injEq] at h; subst h; simp
                · cases h
theorem skipB_le : ∀ (n : Nat) (l : List UInt8), l.length ≤ n → (skipB l).1.length ≤ l.length
  | n, [], _ => by rw [skipB.eq_def]; simp
  | 0, c :: r, hl => by simp at hl
  | n + 1, c :: r, hl => by
    simp only [List.length_cons] at hl
    rw [skipB.eq_def]
    simp only
    split
    · have := skipB_le n r (by omega); simp; omega
    · split
      · cases r with
        | nil => simp
        | cons d r' =>
          simp only [List.length_cons] at hl
          simp only
          split
          · have h1 := lineB_le r'
            have := skipB_le n (lineB r') (by omega); simp; omega
          · split
            · split
              · simp
              · rename_i r'' h''
                have h1 := starB_lt h''
                have := skipB_le n r'' (by omega); simp; omega
            · simp
      · simp

/-- The words of a text, each with how many bytes were left where it begins; and, if one can't be read, how many were left there. -/
def lexB (l : List UInt8) : List (Wd × Nat) × Option Nat :=
  match hs : skipB l with
  | (r, ok) =>
    if ok then
      if r = [] then ([], none)
      else match hw : wordB U r with
        | none => ([], some r.length)
        | some p =>
          have : p.2.length < l.length := by
            have h1 := wordB_lt U hw
            have h2 := skipB_le _ l (Nat.le_refl _)
            rw [hs] at h2
            simp only at h2
            omega
          ((p.1, r.length) :: (lexB p.2).1, (lexB p.2).2)
    else ([], some r.length)
termination_by l.length
end
end Go.Lexed
