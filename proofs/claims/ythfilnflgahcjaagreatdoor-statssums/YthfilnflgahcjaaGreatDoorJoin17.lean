/- What a value holds, and what may be: the sense of Check. How great a value is, as far as some. -/
import Derived.Test.YthfilnflgahcjaaGreatDoorJoin16
namespace Go.Proofs.YthfilnflgahcjaaGreatDoor
open Go.RowKit Go.WideShapes Go.Shelf
set_option linter.unusedVariables false
def rbareB (k : Int) (b : Bool) (n : Int) (s : ByteArray) (kl ll : Nat) : Bool :=
  ((k == 1) || !b) && (((k == 2) || ((k == 6) || ((k == 7) || (n == 0)))) && (((k == 3) || s.toList.isEmpty) && (((k == 5) || decide (kl = 0)) && ((k == 4) || ((k == 5) || decide (ll = 0))))))
mutual
/-- How many values, keys and bytes there are. -/
def Tree.total : Tree → Int
  | .mk k b n s ks ts => 1 + s.size + ks.length + keyBytes ks + Tree.totalL ts
def Tree.totalL : List Tree → Int
  | [] => 0
  | t :: ts => t.total + Tree.totalL ts
end
theorem keyBytes_cons (k : ByteArray) (r : List ByteArray) : keyBytes (k :: r) = k.size + keyBytes r := by simp [keyBytes]
mutual
theorem total_pos : ∀ (T : Tree), 1 ≤ T.total
  | .mk k b n s ks ts => by
    have := totalL_len ts
    have := keyBytes_nonneg ks
    simp only [Tree.total]; omega
theorem totalL_len : ∀ (l : List Tree), (l.length : Int) ≤ Tree.totalL l
  | [] => by simp [Tree.totalL]
  | t :: ts => by
    have h := total_pos t
    have g := totalL_len ts
    simp only [Tree.totalL, List.length_cons]; omega
end
theorem totalL_mem : ∀ {ts : List Tree} {t : Tree}, t ∈ ts → t.total ≤ Tree.totalL ts
  | u :: us, t, h => by
    have h1 := totalL_len us
    have h2 := total_pos u
    rcases List.mem_cons.1 h with rfl | h
    · simp only [Tree.totalL]; omega
    · have := totalL_mem h; simp only [Tree.totalL]; omega
/-- The first test of May. -/
def badB (k : Int) (b : Bool) (n : Int) (s : ByteArray) (kl ll : Nat) : Bool :=
  ((((decide (k < 0) || decide (7 < k)) || !rbareB k b n s kl ll) || (((k == 6) || (k == 7)) && decide (n < 0))) || !Lib.validD s.data.toList) || ((k == 5) && ((kl : Int) != (ll : Int)))
mutual
def mayT : Tree → Bool
  | .mk k b n s ks ts => !badB k b n s ks.length ts.length && (risingB ks && mayL ts)
def mayL : List Tree → Bool
  | [] => true
  | t :: ts => mayT t && mayL ts
end
theorem mayL_all : ∀ (ts : List Tree), mayL ts = ts.all mayT
  | [] => rfl
  | t :: ts => by rw [mayL, mayL_all ts]; rfl
mutual
def cntT : Tree → Int
  | .mk k b n s ks ts => 1 + cntL ts
def cntL : List Tree → Int
  | [] => 0
  | t :: ts => cntT t + cntL ts
end
mutual
def bytT : Tree → Int
  | .mk k b n s ks ts => s.size + keyBytes ks + bytL ts
def bytL : List Tree → Int
  | [] => 0
  | t :: ts => bytT t + bytL ts
end
mutual
def lngT : Tree → Int
  | .mk k b n s ks ts => max (ts.length : Int) (lngL ts)
def lngL : List Tree → Int
  | [] => 0
  | t :: ts => max (lngT t) (lngL ts)
end
mutual
def hgtT : Tree → Int
  | .mk k b n s ks ts => hgtL ts + 1
def hgtL : List Tree → Int
  | [] => 0
  | t :: ts => max (hgtT t) (hgtL ts)
end
mutual
theorem size_le : ∀ (T : Tree), (1 ≤ cntT T ∧ cntT T ≤ T.total) ∧ (0 ≤ bytT T ∧ bytT T ≤ T.total) ∧ (0 ≤ lngT T ∧ lngT T ≤ T.total) ∧ (1 ≤ hgtT T ∧ hgtT T ≤ T.total)
  | .mk k b n s ks ts => by
    have h := sizeL_le ts
    have hk := keyBytes_nonneg ks
    simp only [cntT, bytT, lngT, hgtT, Tree.total]
    omega
theorem sizeL_le : ∀ (l : List Tree), (0 ≤ cntL l ∧ cntL l ≤ Tree.totalL l) ∧ (0 ≤ bytL l ∧ bytL l ≤ Tree.totalL l) ∧ (0 ≤ lngL l ∧ lngL l ≤ Tree.totalL l) ∧ (0 ≤ hgtL l ∧ hgtL l ≤ Tree.totalL l) ∧ (l.length : Int) ≤ Tree.totalL l
  | [] => by simp [cntL, bytL, lngL, hgtL, Tree.totalL]
  | t :: ts => by
    have h := size_le t
    have g := sizeL_le ts
    simp only [cntL, bytL, lngL, hgtL, Tree.totalL, List.length_cons]
    omega
end
theorem totalL_nonneg (l : List Tree) : 0 ≤ Tree.totalL l := by have := (sizeL_le l).1; omega
theorem empty_list : (⟨#[]⟩ : ByteArray).toList.isEmpty = true := by
  rw [show (⟨#[]⟩ : ByteArray) = ByteArray.empty from rfl]; simp
theorem heavy_iff (l : List (Int × Tree)) : ∀ a : Int, a ≤ 1048576 → (heavy a l = true ↔ ((∃ x ∈ l, 64 < x.1) ∨ (∃ x ∈ l, 65536 < x.2.kids.length) ∨ 1048576 < a + bytesOf l)) := by
  induction l with
  | nil => intro a h; simp [heavy, bytesOf]; omega
  | cons x r ih =>
    intro a h
    obtain ⟨d, t⟩ := x
    have hb : bytesOf ((d, t) :: r) = t.bytes + bytesOf r := by simp [bytesOf]
    have hn := bytesOf_nonneg r
    rw [hb]
    simp only [heavy, Bool.or_eq_true, decide_eq_true_eq, List.mem_cons, exists_eq_or_imp]
    by_cases g : 1048576 < a + t.bytes
    · have : 1048576 < a + (t.bytes + bytesOf r) := by omega
      simp [g, this]
    · rw [ih (a + t.bytes) (by omega)]
      have e : a + t.bytes + bytesOf r = a + (t.bytes + bytesOf r) := by omega
      rw [e]
      simp only [g, or_false]
      constructor
      · rintro ((h | h) | h | h | h)
        · exact .inl (.inl h)
        · exact .inr (.inl (.inl h))
        · exact .inl (.inr h)
        · exact .inr (.inl (.inr h))
        · exact .inr (.inr h)
      · rintro ((h | h) | (h | h) | h)
        · exact .inl (.inl h)
        · exact .inr (.inl h)
        · exact .inl (.inr h)
        · exact .inr (.inr (.inl h))
        · exact .inr (.inr (.inr h))
mutual
theorem pre_bytes : ∀ (T : Tree) (d : Int), bytesOf (T.pre d) = bytT T
  | .mk k b n s ks ts, d => by
    have h := preL_bytes ts (d + 1)
    have e : bytesOf ((d, Tree.mk k b n s ks ts) :: Tree.preL (d + 1) ts) = bytesOf [(d, Tree.mk k b n s ks ts)] + bytesOf (Tree.preL (d + 1) ts) := bytesOf_append [_] _
    rw [Tree.pre, e, bytesOf_one, h, bytT]
theorem preL_bytes : ∀ (l : List Tree) (d : Int), bytesOf (Tree.preL d l) = bytL l
  | [], d => by simp [Tree.preL, bytesOf, bytL]
  | t :: ts, d => by rw [Tree.preL, bytesOf_append, pre_bytes t d, preL_bytes ts d, bytL]
end
mutual
theorem pre_deep : ∀ (T : Tree) (d L : Int), (∃ x ∈ T.pre d, L < x.1) ↔ L < d - 1 + hgtT T
  | .mk k b n s ks ts, d, L => by
    have h := preL_deep ts (d + 1) L
    rw [Tree.pre, hgtT]
    simp only [List.mem_cons, exists_eq_or_imp]
    have e : d + 1 - 1 = d := by omega
    rw [e] at h
    have e2 : d - 1 + (hgtL ts + 1) = d + hgtL ts := by omega
    rw [e2, ← h]
    exact Or.comm
theorem preL_deep : ∀ (l : List Tree) (d L : Int), ((∃ x ∈ Tree.preL d l, L < x.1) ∨ L < d - 1) ↔ L < d - 1 + hgtL l
  | [], d, L => by simp [Tree.preL, hgtL]
  | t :: ts, d, L => by
    have h1 := pre_deep t d L
    have h2 := preL_deep ts d L
    have h3 := (size_le t).2.2.2.1
    have h4 := (sizeL_le ts).2.2.2.1.1
    rw [Tree.preL, hgtL]
    simp only [List.mem_append, or_and_right, exists_or, or_assoc]
    rw [h1, h2]
    omega
end
mutual
theorem pre_long : ∀ (T : Tree) (d : Int), (∃ x ∈ T.pre d, 65536 < x.2.kids.length) ↔ 65536 < lngT T
  | .mk k b n s ks ts, d => by
    have h := preL_long ts (d + 1)
    rw [Tree.pre, lngT]
    simp only [List.mem_cons, exists_eq_or_imp]
    rw [h]
    show (65536 < ts.length ∨ _) ↔ _
    omega
theorem preL_long : ∀ (l : List Tree) (d : Int), (∃ x ∈ Tree.preL d l, 65536 < x.2.kids.length) ↔ 65536 < lngL l
  | [], d => by simp [Tree.preL, lngL]
  | t :: ts, d => by
    have h1 := pre_long t d
    have h2 := preL_long ts d
    rw [Tree.preL, lngL]
    simp only [List.mem_append, or_and_right, exists_or]
    rw [h1, h2]
    omega
end
theorem rising_none {ks : List ByteArray} (h : ks.length = 0) : risingB ks = true := rising_true fun i hi => by omega
theorem shaped_head (k : Int) (b : Bool) (n : Int) (s : ByteArray) (ks : List ByteArray) (ts : List Tree) : shapedB (.mk k b n s ks ts) = (!badB k b n s ks.length ts.length && risingB ks) := by
  have hr := @rising_none ks
  simp only [shapedB, badB, rbareB, blankB]
  generalize risingB ks = rz at *
  generalize Lib.validD s.data.toList = vd
  have he : (⟨#[]⟩ : ByteArray).toList.isEmpty = true := empty_list
  rw [he]
  generalize s.toList.isEmpty = se
  generalize ks.length = kl at *
  generalize ts.length = ll
  by_cases h0 : k = 0
  · subst h0; cases b <;> cases se <;> cases vd <;> by_cases g1 : n = 0 <;> by_cases g2 : kl = 0 <;> by_cases g3 : ll = 0 <;> simp_all
  by_cases h1 : k = 1
  · subst h1; cases b <;> cases se <;> cases vd <;> by_cases g1 : n = 0 <;> by_cases g2 : kl = 0 <;> by_cases g3 : ll = 0 <;> simp_all
  by_cases h2 : k = 2
  · subst h2; cases b <;> cases se <;> cases vd <;> by_cases g2 : kl = 0 <;> by_cases g3 : ll = 0 <;> simp_all
  by_cases h6 : k = 6
  · subst h6
    by_cases g1 : n < 0
    · have e : (min n 0 == 0) = false := by rw [beq_eq_false_iff_ne]; omega
      cases b <;> cases se <;> cases vd <;> by_cases g2 : kl = 0 <;> by_cases g3 : ll = 0 <;> simp_all
    · have e : (min n 0 == 0) = true := by rw [beq_iff_eq]; omega
      cases b <;> cases se <;> cases vd <;> by_cases g2 : kl = 0 <;> by_cases g3 : ll = 0 <;> simp_all
  by_cases h7 : k = 7
  · subst h7
    by_cases g1 : n < 0
    · have e : (min n 0 == 0) = false := by rw [beq_eq_false_iff_ne]; omega
      cases b <;> cases se <;> cases vd <;> by_cases g2 : kl = 0 <;> by_cases g3 : ll = 0 <;> simp_all
    · have e : (min n 0 == 0) = true := by rw [beq_iff_eq]; omega
      cases b <;> cases se <;> cases vd <;> by_cases g2 : kl = 0 <;> by_cases g3 : ll = 0 <;> simp_all
  by_cases h3 : k = 3
  · subst h3; cases b <;> cases se <;> cases vd <;> by_cases g1 : n = 0 <;> by_cases g2 : kl = 0 <;> by_cases g3 : ll = 0 <;> simp_all
  by_cases h5 : k = 5
  · subst h5
    by_cases g2 : kl = ll
    · subst g2
      cases b <;> cases se <;> cases vd <;> cases rz <;> by_cases g1 : n = 0 <;> simp_all
    · have e : ((kl : Int) != (ll : Int)) = true := by rw [bne_iff_ne]; omega
      have e' : (kl == ll) = false := beq_eq_false_iff_ne.2 g2
      rw [e, e']
      clear e e'
      cases b <;> cases se <;> cases vd <;> cases rz <;> by_cases g1 : n = 0 <;> simp_all
  by_cases h4 : k = 4
  · subst h4; cases b <;> cases se <;> cases vd <;> by_cases g1 : n = 0 <;> by_cases g2 : kl = 0 <;> simp_all
  have hk : (decide (k < 0) || decide (7 < k)) = true := by
    rw [Bool.or_eq_true, decide_eq_true_eq, decide_eq_true_eq]
    omega
  rw [hk]
  simp [h0, h1, h2, h3, h4, h5, h6, h7]
mutual
theorem may_pre : ∀ (T : Tree) (d : Int), (T.pre d).all (fun x => shapedB x.2) = mayT T
  | .mk k b n s ks ts, d => by
    rw [Tree.pre, mayT, List.all_cons, may_preL ts (d + 1), shaped_head, Bool.and_assoc]
theorem may_preL : ∀ (l : List Tree) (d : Int), (Tree.preL d l).all (fun x => shapedB x.2) = mayL l
  | [], d => rfl
  | t :: ts, d => by rw [Tree.preL, mayL, List.all_append, may_pre t d, may_preL ts d]
end
theorem check_eq (T : Tree) : checkN T = if mayT T = true then (if 64 < hgtT T ∨ 1048576 < bytT T ∨ 65536 < lngT T then 3 else 0) else 110 := by
  unfold checkN
  rw [may_pre]
  have h := heavy_iff (T.pre 1) 0 (by omega)
  rw [pre_deep, pre_long, pre_bytes] at h
  have e : (heavy 0 (T.pre 1) = true) = (64 < hgtT T ∨ 1048576 < bytT T ∨ 65536 < lngT T) := propext (by rw [h]; omega)
  simp only [e]
end Go.Proofs.YthfilnflgahcjaaGreatDoor

namespace Go.Proofs.YthfilnflgahcjaaGreatDoor
open Go.RowKit Go.Shelf
set_option linter.unusedVariables false
theorem below_alloc {w w' : World} {o : Obj} (h : Below (w.alloc o).heap.size (w.alloc o) w') : Below w.heap.size w w' :=
  ((Below.refl _ _).alloc (Nat.le_refl _) o).trans (h.mono (by simp))
mutual
/-- No text and no list is longer than any machine has room for. -/
def Sane : Tree → Prop
  | .mk k b n s ks ts => s.size ≤ 140737488355328 ∧ ks.length ≤ 140737488355328 ∧ ts.length ≤ 140737488355328 ∧ (∀ x ∈ ks, x.size ≤ 140737488355328) ∧ SaneL ts
def SaneL : List Tree → Prop
  | [] => True
  | t :: ts => Sane t ∧ SaneL ts
end
theorem SaneL.mem : ∀ {ts : List Tree} {t : Tree}, SaneL ts → t ∈ ts → Sane t
  | u :: us, t, h, hm => by
    simp only [SaneL] at h
    rcases List.mem_cons.1 hm with rfl | hm
    · exact h.1
    · exact SaneL.mem h.2 hm
def keysZ (left : Int) : Int → List ByteArray → Int
  | n, [] => n
  | n, k :: r => if n ≤ left then keysZ left (n + 1 + k.size) r else n
mutual
def vszN : Tree → Int → Int
  | .mk k b n s ks ts, left => kidsZ left (keysZ left (1 + s.size) ks) ts
def kidsZ (left : Int) : Int → List Tree → Int
  | n, [] => n
  | n, t :: r => if n ≤ left then kidsZ left (n + vszN t (left - n)) r else n
end
theorem keysZ_ge (left : Int) : ∀ (ks : List ByteArray) (n : Int), n ≤ keysZ left n ks
  | [], n => by simp [keysZ]
  | k :: r, n => by
    simp only [keysZ]
    split
    · have := keysZ_ge left r (n + 1 + k.size); omega
    · omega
theorem keysZ_eq (left : Int) : ∀ (ks : List ByteArray) (n : Int), keysZ left n ks ≤ left → keysZ left n ks = n + ks.length + keyBytes ks
  | [], n, _ => by simp [keysZ, keyBytes]
  | k :: r, n, h => by
    simp only [keysZ] at h ⊢
    split at h
    · rename_i hn
      rw [if_pos hn, keysZ_eq left r _ h]
      simp [keyBytes, List.length_cons]; omega
    · omega
theorem keysZ_le (left : Int) : ∀ (ks : List ByteArray) (n b : Int), (∀ x ∈ ks, (x.size : Int) ≤ 140737488355328) → n ≤ b → left + 140737488355329 ≤ b → keysZ left n ks ≤ b
  | [], n, b, _, h, _ => by simpa [keysZ] using h
  | k :: r, n, b, hk, h, hb => by
    simp only [keysZ]
    split
    · have := hk k (by simp)
      exact keysZ_le left r _ b (fun x hx => hk x (by simp [hx])) (by omega) hb
    · exact h
mutual
theorem vszN_pos : ∀ (T : Tree) (left : Int), 1 ≤ vszN T left
  | .mk k b n s ks ts, left => by
    simp only [vszN]
    have h1 := keysZ_ge left ks (1 + s.size)
    have h2 := kidsZ_ge left ts (keysZ left (1 + s.size) ks)
    omega
theorem kidsZ_ge (left : Int) : ∀ (ts : List Tree) (n : Int), n ≤ kidsZ left n ts
  | [], n => by simp [kidsZ]
  | t :: r, n => by
    simp only [kidsZ]
    split
    · have h1 := vszN_pos t (left - n)
      have h2 := kidsZ_ge left r (n + vszN t (left - n))
      omega
    · omega
end
mutual
theorem vszN_eq : ∀ (T : Tree) (left : Int), vszN T left ≤ left → vszN T left = T.total
  | .mk k b n s ks ts, left, h => by
    simp only [vszN, Tree.total] at h ⊢
    have h2 := kidsZ_ge left ts (keysZ left (1 + s.size) ks)
    rw [kidsZ_eq left ts _ h, keysZ_eq left ks _ (by omega)]
theorem kidsZ_eq (left : Int) : ∀ (ts : List Tree) (n : Int), kidsZ left n ts ≤ left → kidsZ left n ts = n + Tree.totalL ts
  | [], n, _ => by simp [kidsZ, Tree.totalL]
  | t :: r, n, h => by
    simp only [kidsZ] at h ⊢
    split at h
    · rename_i hn
      have h2 := kidsZ_ge left r (n + vszN t (left - n))
      rw [if_pos hn, kidsZ_eq left r _ h, vszN_eq t (left - n) (by omega)]
      simp only [Tree.totalL]; omega
    · omega
end
mutual
theorem vszN_le : ∀ (T : Tree) (left : Int), Sane T → 0 ≤ left → vszN T left ≤ 281474976710657 + left
  | .mk k b n s ks ts, left, hs, h0 => by
    simp only [Sane] at hs
    obtain ⟨s1, s2, s3, s4, s5⟩ := hs
    simp only [vszN]
    exact kidsZ_le left h0 ts _ s5 (keysZ_le left ks _ (281474976710657 + left) (fun x hx => by have := s4 x hx; omega) (by omega) (by omega))
theorem kidsZ_le (left : Int) (h0 : 0 ≤ left) : ∀ (ts : List Tree) (n : Int), SaneL ts → n ≤ 281474976710657 + left → kidsZ left n ts ≤ 281474976710657 + left
  | [], n, _, h => by simpa only [kidsZ] using h
  | t :: r, n, hs, h => by
    simp only [SaneL] at hs
    simp only [kidsZ]
    split
    · have := vszN_le t (left - n) hs.1 (by omega)
      exact kidsZ_le left h0 r _ hs.2 (by omega)
    · exact h
end
theorem sane_take : ∀ {ts : List Tree}, SaneL ts → ∀ p, SaneL (ts.take p)
  | _, _, 0 => by simp [SaneL]
  | [], _, p + 1 => by simp [SaneL]
  | t :: ts, h, p + 1 => by
    simp only [SaneL, List.take_succ_cons] at h ⊢
    exact ⟨h.1, sane_take h.2 p⟩
theorem keysZ_snoc (left : Int) : ∀ (a : List ByteArray) (n : Int) (x : ByteArray), keysZ left n (a ++ [x]) = if keysZ left n a ≤ left then keysZ left n a + 1 + x.size else keysZ left n a
  | [], n, x => by simp only [List.nil_append, keysZ]; rfl
  | k :: r, n, x => by
    simp only [List.cons_append, keysZ]
    split
    · exact keysZ_snoc left r _ x
    · rfl
theorem kidsZ_snoc (left : Int) : ∀ (a : List Tree) (n : Int) (x : Tree), kidsZ left n (a ++ [x]) = if kidsZ left n a ≤ left then kidsZ left n a + vszN x (left - kidsZ left n a) else kidsZ left n a
  | [], n, x => by simp only [List.nil_append, kidsZ]; rfl
  | k :: r, n, x => by
    simp only [List.cons_append, kidsZ]
    split
    · exact kidsZ_snoc left r _ x
    · rfl
theorem keysZ_stop (left : Int) {a : List ByteArray} {n : Int} {j : Nat} (h : ¬ keysZ left n (a.take j) ≤ left) : keysZ left n a = keysZ left n (a.take j) := by
  have : ∀ (b r : List ByteArray) (n : Int), ¬ keysZ left n b ≤ left → keysZ left n (b ++ r) = keysZ left n b := by
    intro b
    induction b with
    | nil => intro r n h; cases r with
      | nil => rfl
      | cons x r => simp only [keysZ] at h; simp [keysZ, h]
    | cons k b ih =>
      intro r n h
      simp only [List.cons_append, keysZ] at h ⊢
      split at h
      · rename_i hn; rw [if_pos hn, if_pos hn]; exact ih r _ h
      · rename_i hn; rw [if_neg hn, if_neg hn]
  have e := this (a.take j) (a.drop j) n h
  rwa [List.take_append_drop] at e
theorem kidsZ_stop (left : Int) {a : List Tree} {n : Int} {j : Nat} (h : ¬ kidsZ left n (a.take j) ≤ left) : kidsZ left n a = kidsZ left n (a.take j) := by
  have : ∀ (b r : List Tree) (n : Int), ¬ kidsZ left n b ≤ left → kidsZ left n (b ++ r) = kidsZ left n b := by
    intro b
    induction b with
    | nil => intro r n h; cases r with
      | nil => rfl
      | cons x r => simp only [kidsZ] at h; simp [kidsZ, h]
    | cons k b ih =>
      intro r n h
      simp only [List.cons_append, kidsZ] at h ⊢
      split at h
      · rename_i hn; rw [if_pos hn, if_pos hn]; exact ih r _ h
      · rename_i hn; rw [if_neg hn, if_neg hn]
  have e := this (a.take j) (a.drop j) n h
  rwa [List.take_append_drop] at e
set_option maxHeartbeats 2000000 in
theorem vsz_any : ∀ (T : Tree) (B : Nat) (v : Value) (left : Int) (w : World), B ≤ w.heap.size → Lies B w v T → Sane T → 0 ≤ left → left ≤ 100000 →
    Calls Tryz.prog 82 #[v, .int .i64 left] w fun e w' => e = .returned (.int .i64 (vszN T left)) ∧ Below w.heap.size w w' := by
  refine Tree.ind ?_
  intro k x n s ks ts ih B v left w hB hv hS h0 h1
  have HSA := hidE hS
  have HLE := hidE (vszN_le (.mk k x n s ks ts) left hS h0)
  simp only [Sane] at hS
  obtain ⟨s1, s2, s3, s4, s5⟩ := hS
  simp only [Lies] at hv
  obtain ⟨ka, kc, la, lc, rfl, ⟨hs1, hs2, hs3, hs4, hs5⟩, hk, ht⟩ := hv
  have HIH := hidE ih
  have HS4 := hidE s4
  have HS5 := hidE s5
  have HRES : Hid (vszN (.mk k x n s ks ts) left = kidsZ left (keysZ left (1 + s.size) ks) ts) := by show _ = _; rw [vszN]
  clear ih s4 s5
  unfold maxLen at hs3 hs5
  obtain ⟨W1, hW1⟩ : ∃ W1, w.alloc (.cells #[.int .i64 k, .bool x, .int .i64 n, .string s, .slice ka ks.length kc, .slice la ts.length lc] 88) = W1 := ⟨_, rfl⟩
  have HBX : Hid (∀ W, Below W1.heap.size W1 W → Below w.heap.size w W ∧ W.cell? ⟨w.heap.size, 4, none⟩ = some (.slice ka ks.length kc) ∧ W.cell? ⟨w.heap.size, 5, none⟩ = some (.slice la ts.length lc)) := fun W hb => by
    rw [← hW1] at hb
    refine ⟨below_alloc hb, ?_, ?_⟩
    · exact (hb.cell (p := ⟨w.heap.size, 4, none⟩) (by simp)).trans (cell_new _ _ _ _ _ rfl)
    · exact (hb.cell (p := ⟨w.heap.size, 5, none⟩) (by simp)).trans (cell_new _ _ _ _ _ rfl)
  have HW1 := hidE hW1
  clear hW1
  go_enter Tryz.func82, Tryz.ntmps82
  go_wp2_with fail
  rw [HW1.out]
  go_loop [6, 5] (fun i u => ∃ j : Nat, j ≤ ks.length ∧ i = .int .i64 j ∧ u = .int .i64 (keysZ left (1 + s.size) (ks.take j))) (fun i _ => ks.length - (RowKit.intOf i).toNat)
  case atStart => exact ⟨0, Nat.zero_le _, rfl, by simp [keysZ]⟩
  case round =>
    obtain ⟨j, hj, rfl, rfl⟩ := hrel
    obtain ⟨hbw, f4, f5⟩ := HBX.out W1 (Below.refl _ _)
    have hkl := keysZ_le left (ks.take j) (1 + s.size) (281474976710657 + left) (fun y hy => by have := HS4.out y (List.mem_of_mem_take hy); omega) (by omega) (by omega)
    have hkg := keysZ_ge left (ks.take j) (1 + s.size)
    by_cases hgo : j < ks.length ∧ keysZ left (1 + s.size) (ks.take j) ≤ left
    · obtain ⟨hlt, hle⟩ := hgo
      obtain ⟨bk, off, rfl, hbk, hkey⟩ := hk.resolve_left (by intro e; subst e; simp at hlt)
      have hc := cell_below hbw (Nat.le_refl _) (hkey j hlt).1
      have hks := HS4.out (ks.getD j ⟨#[]⟩) (by rw [List.getD_eq_getElem?_getD, List.getElem?_eq_getElem hlt]; exact List.getElem_mem hlt)
      have HST : Hid (keysZ left (1 + s.size) (ks.take (j + 1)) = keysZ left (1 + s.size) (ks.take j) + 1 + (ks.getD j ⟨#[]⟩).size) := by
        show _ = _
        rw [List.take_add_one, List.getElem?_eq_getElem hlt, List.getD_eq_getElem?_getD, List.getElem?_eq_getElem hlt]
        exact (keysZ_snoc left _ _ _).trans (if_pos hle)
      generalize ks.getD j ⟨#[]⟩ = kx at *
      generalize keysZ left (1 + s.size) (ks.take j) = acc at *
      clear hkey
      go_wp2_with fail
      go_round
      case rel => exact ⟨j + 1, by omega, by go_num, by rw [HST.out]⟩
      case measure => simp [RowKit.intOf]; omega
    · have HN1 : Hid (keysZ left (1 + s.size) (ks.take j) = keysZ left (1 + s.size) ks) := by
        show _ = _
        by_cases hlt : j < ks.length
        · exact (keysZ_stop left (fun h => hgo ⟨hlt, h⟩)).symm
        · rw [List.take_of_length_le (by omega)]
      rw [HN1.out] at hgo hkl hkg ⊢
      generalize keysZ left (1 + s.size) ks = n1 at *
      have hle : ks.length ≤ j ∨ ¬ n1 ≤ left := by
        by_cases hlt : j < ks.length
        · exact .inr fun h => hgo ⟨hlt, h⟩
        · exact .inl (by omega)
      clear hgo HN1
      by_cases hlt : j < ks.length
      · have hle2 : ¬ n1 ≤ left := by omega
        clear hle
        go_wp2_with fail
        go_loopw [7, 5] (fun i u wr => ∃ p : Nat, p ≤ ts.length ∧ i = .int .i64 p ∧ u = .int .i64 (kidsZ left n1 (ts.take p)) ∧ Below W1.heap.size W1 wr) (fun i _ _ => ts.length - (RowKit.intOf i).toNat)
        case atStart => exact ⟨0, Nat.zero_le _, rfl, by simp [kidsZ], Below.refl _ _⟩
        case round =>
          obtain ⟨p, hp, rfl, rfl, hbr⟩ := hrel
          obtain ⟨hbw2, g4, g5⟩ := HBX.out wr hbr
          clear f4 f5
          have hkl2 := kidsZ_le left h0 (ts.take p) n1 (sane_take HS5.out p) hkl
          have hkg2 := kidsZ_ge left (ts.take p) n1
          by_cases hgo2 : p < ts.length ∧ kidsZ left n1 (ts.take p) ≤ left
          · exfalso; omega
          · have HN2 : Hid (kidsZ left n1 (ts.take p) = vszN (.mk k x n s ks ts) left) := by
              show _ = _
              rw [HRES.out]
              by_cases hlt2 : p < ts.length
              · exact (kidsZ_stop left (fun h => hgo2 ⟨hlt2, h⟩)).symm
              · rw [List.take_of_length_le (by omega)]
            generalize kidsZ left n1 (ts.take p) = acc at *
            by_cases hlt2 : p < ts.length
            · have hle4 : ¬ acc ≤ left := fun h => hgo2 ⟨hlt2, h⟩
              clear hgo2
              go_wp2_with fail
              go_ret
              exact ⟨by rw [← HN2.out]; rfl, hbw2⟩
            · clear hgo2
              go_wp2_with fail
              go_ret
              exact ⟨by rw [← HN2.out]; rfl, hbw2⟩
      · clear hle
        go_wp2_with fail
        go_loopw [7, 5] (fun i u wr => ∃ p : Nat, p ≤ ts.length ∧ i = .int .i64 p ∧ u = .int .i64 (kidsZ left n1 (ts.take p)) ∧ Below W1.heap.size W1 wr) (fun i _ _ => ts.length - (RowKit.intOf i).toNat)
        case atStart => exact ⟨0, Nat.zero_le _, rfl, by simp [kidsZ], Below.refl _ _⟩
        case round =>
          obtain ⟨p, hp, rfl, rfl, hbr⟩ := hrel
          obtain ⟨hbw2, g4, g5⟩ := HBX.out wr hbr
          clear f4 f5
          have hkl2 := kidsZ_le left h0 (ts.take p) n1 (sane_take HS5.out p) hkl
          have hkg2 := kidsZ_ge left (ts.take p) n1
          by_cases hgo2 : p < ts.length ∧ kidsZ left n1 (ts.take p) ≤ left
          · obtain ⟨hlt2, hle3⟩ := hgo2
            obtain ⟨bl, off, rfl, hbl, hkk⟩ := ht.resolve_left (by intro e; subst e; simp at hlt2)
            obtain ⟨⟨p0, p1, p2, p3, p4, p5⟩, hx⟩ : ∃ t, ts[p]? = some t := ⟨_, List.getElem?_eq_getElem hlt2⟩
            obtain ⟨ja, jc, jl, jd, ⟨c0, c1, c2, c3, c4, c5⟩, hlx⟩ := (hkk.below (hbw2.mono hB) hbl).cells hx
            have hsx := HS5.out.mem (List.mem_of_getElem? hx)
            have HST : Hid (kidsZ left n1 (ts.take (p + 1)) = kidsZ left n1 (ts.take p) + vszN (.mk p0 p1 p2 p3 p4 p5) (left - kidsZ left n1 (ts.take p))) := by
              show _ = _
              rw [List.take_add_one, hx]
              exact (kidsZ_snoc left _ _ _).trans (if_pos hle3)
            generalize kidsZ left n1 (ts.take p) = acc at *
            have hsl := vszN_le (.mk p0 p1 p2 p3 p4 p5) (left - acc) hsx (by omega)
            have hsp := vszN_pos (.mk p0 p1 p2 p3 p4 p5) (left - acc)
            have HC := hidE (HIH.out _ (List.mem_of_getElem? hx) B _ (left - acc) wr (Nat.le_trans hB hbw2.size) hlx hsx (by omega) (by omega))
            generalize vszN (.mk p0 p1 p2 p3 p4 p5) (left - acc) = sm at *
            clear hx hkk hlx hsx
            go_wp2_with fail
            refine HC.out.mono ?_
            rintro e w2 ⟨rfl, hb2⟩
            have HB2 : Hid (Below W1.heap.size W1 w2) := below_on hbr hb2
            clear hb2 c0 c1 c2 c3 c4 c5
            go_wp2_with fail
            go_roundw
            case rel => exact ⟨p + 1, by omega, by go_num, by rw [HST.out], HB2.out⟩
            case measure => simp [RowKit.intOf]; omega
          · have HN2 : Hid (kidsZ left n1 (ts.take p) = vszN (.mk k x n s ks ts) left) := by
              show _ = _
              rw [HRES.out]
              by_cases hlt2 : p < ts.length
              · exact (kidsZ_stop left (fun h => hgo2 ⟨hlt2, h⟩)).symm
              · rw [List.take_of_length_le (by omega)]
            generalize kidsZ left n1 (ts.take p) = acc at *
            by_cases hlt2 : p < ts.length
            · have hle4 : ¬ acc ≤ left := fun h => hgo2 ⟨hlt2, h⟩
              clear hgo2
              go_wp2_with fail
              go_ret
              exact ⟨by rw [← HN2.out]; rfl, hbw2⟩
            · clear hgo2
              go_wp2_with fail
              go_ret
              exact ⟨by rw [← HN2.out]; rfl, hbw2⟩
end Go.Proofs.YthfilnflgahcjaaGreatDoor

