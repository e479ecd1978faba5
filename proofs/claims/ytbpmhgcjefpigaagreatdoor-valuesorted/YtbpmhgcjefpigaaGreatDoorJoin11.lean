/- Values in rows: what an append of values leaves. The document's May: may a value be, however great? The document's Size: how many values there are, how deep, how many bytes, and the longest list. The document's Check is the program's. -/
import Derived.Test.YtbpmhgcjefpigaaGreatDoorJoin10
import Derived.Test.YtbpmhgcjefpigaaGreatDoorFacts
import Derived.Test.YtbpmhgcjefpigaaGreatDoorCopy
namespace Go.Proofs.YtbpmhgcjefpigaaGreatDoor
open Go.RowKit Go.Shelf Go.WideShapes
set_option linter.unusedVariables false
/-- Cells in a row, six a value. -/
inductive RowL (B : Nat) (w : World) : List Value → List Tree → Prop
  | nil : RowL B w [] []
  | cons {c0 c1 c2 c3 c4 c5 : Value} {r : List Value} {t : Tree} {ts : List Tree} (h : Lies B w (.agg #[c0, c1, c2, c3, c4, c5]) t) (k : RowL B w r ts) : RowL B w (c0 :: c1 :: c2 :: c3 :: c4 :: c5 :: r) (t :: ts)
variable {B : Nat} {w : World} {xs ys : List Value} {ts us : List Tree}
theorem RowL.append (h : RowL B w xs ts) (k : RowL B w ys us) : RowL B w (xs ++ ys) (ts ++ us) := by
  induction h with
  | nil => exact k
  | cons h _ ih => exact .cons h ih
theorem RowL.length (h : RowL B w xs ts) : xs.length = ts.length * 6 := by
  induction h with
  | nil => rfl
  | cons _ _ ih => simp only [List.length_cons, ih]; omega
theorem RowL.stay {w' : World} (hb : Below B w w') (h : RowL B w xs ts) : RowL B w' xs ts := by
  induction h with
  | nil => exact .nil
  | cons h _ ih => exact .cons (h.below hb) ih
theorem RowL.mono {B' : Nat} (hb : B ≤ B') (h : RowL B w xs ts) : RowL B' w xs ts := by
  induction h with
  | nil => exact .nil
  | cons h _ ih => exact .cons (h.mono hb) ih
theorem RowL.one (h : RowL B w xs ts) : ∀ u ∈ xs, u.oneCell' = true := by
  induction h with
  | nil => intro u hu; cases hu
  | @cons c0 c1 c2 c3 c4 c5 r t ts h _ ih =>
    obtain ⟨k, b, n, s, ks, us⟩ := t
    simp only [Lies] at h
    obtain ⟨ka, kc, la, lc, e, _⟩ := h
    simp only [Value.agg.injEq, Array.mk.injEq, List.cons.injEq, and_true] at e
    obtain ⟨rfl, rfl, rfl, rfl, rfl, rfl⟩ := e
    intro u hu
    simp only [List.mem_cons] at hu
    rcases hu with rfl | rfl | rfl | rfl | rfl | rfl | hu
    any_goals rfl
    exact ih u hu
theorem RowL.kids {g : Nat} (h : RowL B w xs ts) : ∀ {w' : World} {off : Nat}, (∀ j u, xs[j]? = some u → w'.cell? ⟨g, off + j, none⟩ = some u) → RowL B w' xs ts → KidsLie B w' g off ts := by
  induction h with
  | nil => intro w' off _ _; simp only [KidsLie]
  | cons h _ ih =>
    intro w' off hc hr
    cases hr with
    | cons h' k' =>
      simp only [KidsLie]
      refine ⟨⟨_, _, _, _, _, _, ⟨hc 0 _ rfl, hc 1 _ rfl, hc 2 _ rfl, hc 3 _ rfl, hc 4 _ rfl, hc 5 _ rfl⟩, h'⟩, ih (fun j v hv => ?_) k'⟩
      have := hc (j + 6) v (by simpa using hv)
      rwa [show off + (j + 6) = off + 6 + j from by omega] at this
theorem KidsLie.row {bl : Nat} : ∀ {ts : List Tree} {off : Nat}, KidsLie B w bl off ts → ∃ xs, RowL B w xs ts ∧ ∀ j u, xs[j]? = some u → w.cell? ⟨bl, off + j, none⟩ = some u
  | [], off, _ => ⟨[], .nil, fun j u h => by simp at h⟩
  | t :: ts, off, h => by
    simp only [KidsLie] at h
    obtain ⟨⟨v0, v1, v2, v3, v4, v5, ⟨c0, c1, c2, c3, c4, c5⟩, hl⟩, hr⟩ := h
    obtain ⟨xs, hx, hc⟩ := KidsLie.row hr
    refine ⟨_, .cons hl hx, fun j u hj => ?_⟩
    match j, hj with
    | 0, hj => simp at hj; subst hj; exact c0
    | 1, hj => simp at hj; subst hj; exact c1
    | 2, hj => simp at hj; subst hj; exact c2
    | 3, hj => simp at hj; subst hj; exact c3
    | 4, hj => simp at hj; subst hj; exact c4
    | 5, hj => simp at hj; subst hj; exact c5
    | j + 6, hj =>
      have := hc j u (by simpa using hj)
      rwa [show off + 6 + j = off + (j + 6) from by omega] at this
end Go.Proofs.YtbpmhgcjefpigaaGreatDoor

namespace Go.Proofs.YtbpmhgcjefpigaaGreatDoor
open Go.RowKit Go.WideShapes Go.Shelf
set_option linter.unusedVariables false
/-- The first test of May. -/
def badB (k : Int) (b : Bool) (n : Int) (s : ByteArray) (kl ll : Nat) : Bool :=
  ((((decide (k < 0) || decide (7 < k)) || !rbareB k b n s kl ll) || (((k == 6) || (k == 7)) && decide (n < 0))) || !Lib.validD s.data.toList) || ((k == 5) && ((kl : Int) != (ll : Int)))
mutual
def mayT : Tree → Bool
  | .mk k b n s ks ts => !badB k b n s ks.length ts.length && (risingB ks && mayL ts)
def mayL : List Tree → Bool
  | [] => true
  | t :: ts => mayT t && mayL ts
end
theorem mayL_all : ∀ (ts : List Tree), mayL ts = ts.all mayT
  | [] => rfl
  | t :: ts => by rw [mayL, mayL_all ts]; rfl
/-- The keys rise so far. -/
def Rises (ks : List ByteArray) (j : Nat) : Prop := ∀ i, i < j → risesAt ks i = true
theorem Rises.snoc {ks : List ByteArray} {j : Nat} (h : Rises ks j) (hj : risesAt ks j = true) : Rises ks (j + 1) := fun i hi => by
  rcases Nat.lt_or_eq_of_le (Nat.le_of_lt_succ hi) with h' | rfl
  · exact h i h'
  · exact hj
/-- The values may be so far. -/
def Mays (ts : List Tree) (p : Nat) : Prop := ∀ (i : Nat) (t : Tree), i < p → ts[i]? = some t → mayT t = true
theorem Mays.snoc {ts : List Tree} {p : Nat} {t : Tree} (h : Mays ts p) (hp : ts[p]? = some t) (ht : mayT t = true) : Mays ts (p + 1) := fun i u hi hu => by
  rcases Nat.lt_or_eq_of_le (Nat.le_of_lt_succ hi) with h' | rfl
  · exact h i u h' hu
  · rw [hp] at hu; cases hu; exact ht
end Go.Proofs.YtbpmhgcjefpigaaGreatDoor

namespace Go.Proofs.YtbpmhgcjefpigaaGreatDoor
open Go.RowKit Go.WideShapes Go.Shelf
set_option linter.unusedVariables false
mutual
def cntT : Tree → Int
  | .mk k b n s ks ts => 1 + cntL ts
def cntL : List Tree → Int
  | [] => 0
  | t :: ts => cntT t + cntL ts
end
mutual
def bytT : Tree → Int
  | .mk k b n s ks ts => s.size + keyBytes ks + bytL ts
def bytL : List Tree → Int
  | [] => 0
  | t :: ts => bytT t + bytL ts
end
mutual
def lngT : Tree → Int
  | .mk k b n s ks ts => max (ts.length : Int) (lngL ts)
def lngL : List Tree → Int
  | [] => 0
  | t :: ts => max (lngT t) (lngL ts)
end
mutual
def hgtT : Tree → Int
  | .mk k b n s ks ts => hgtL ts + 1
def hgtL : List Tree → Int
  | [] => 0
  | t :: ts => max (hgtT t) (hgtL ts)
end
mutual
theorem size_le : ∀ (T : Tree), (1 ≤ cntT T ∧ cntT T ≤ T.total) ∧ (0 ≤ bytT T ∧ bytT T ≤ T.total) ∧ (0 ≤ lngT T ∧ lngT T ≤ T.total) ∧ (1 ≤ hgtT T ∧ hgtT T ≤ T.total)
  | .mk k b n s ks ts => by
    have h := sizeL_le ts
    have hk := keyBytes_nonneg ks
    simp only [cntT, bytT, lngT, hgtT, Tree.total]
    omega
theorem sizeL_le : ∀ (l : List Tree), (0 ≤ cntL l ∧ cntL l ≤ Tree.totalL l) ∧ (0 ≤ bytL l ∧ bytL l ≤ Tree.totalL l) ∧ (0 ≤ lngL l ∧ lngL l ≤ Tree.totalL l) ∧ (0 ≤ hgtL l ∧ hgtL l ≤ Tree.totalL l) ∧ (l.length : Int) ≤ Tree.totalL l
  | [] => by simp [cntL, bytL, lngL, hgtL, Tree.totalL]
  | t :: ts => by
    have h := size_le t
    have g := sizeL_le ts
    simp only [cntL, bytL, lngL, hgtL, Tree.totalL, List.length_cons]
    omega
end
end Go.Proofs.YtbpmhgcjefpigaaGreatDoor

namespace Go.Proofs.YtbpmhgcjefpigaaGreatDoor
open Go.RowKit Go.WideShapes Go.Shelf
set_option linter.unusedVariables false
theorem empty_list : (⟨#[]⟩ : ByteArray).toList.isEmpty = true := by
  rw [show (⟨#[]⟩ : ByteArray) = ByteArray.empty from rfl]; simp
theorem heavy_iff (l : List (Int × Tree)) : ∀ a : Int, a ≤ 1048576 → (heavy a l = true ↔ ((∃ x ∈ l, 64 < x.1) ∨ (∃ x ∈ l, 65536 < x.2.kids.length) ∨ 1048576 < a + bytesOf l)) := by
  induction l with
  | nil => intro a h; simp [heavy, bytesOf]; omega
  | cons x r ih =>
    intro a h
    obtain ⟨d, t⟩ := x
    have hb : bytesOf ((d, t) :: r) = t.bytes + bytesOf r := by simp [bytesOf]
    have hn := bytesOf_nonneg r
    rw [hb]
    simp only [heavy, Bool.or_eq_true, decide_eq_true_eq, List.mem_cons, exists_eq_or_imp]
    by_cases g : 1048576 < a + t.bytes
    · have : 1048576 < a + (t.bytes + bytesOf r) := by omega
      simp [g, this]
    · rw [ih (a + t.bytes) (by omega)]
      have e : a + t.bytes + bytesOf r = a + (t.bytes + bytesOf r) := by omega
      rw [e]
      simp only [g, or_false]
      constructor
      · rintro ((h | h) | h | h | h)
        · exact .inl (.inl h)
        · exact .inr (.inl (.inl h))
        · exact .inl (.inr h)
        · exact .inr (.inl (.inr h))
        · exact .inr (.inr h)
      · rintro ((h | h) | (h | h) | h)
        · exact .inl (.inl h)
        · exact .inr (.inl h)
        · exact .inl (.inr h)
        · exact .inr (.inr (.inl h))
        · exact .inr (.inr (.inr h))
mutual
theorem pre_bytes : ∀ (T : Tree) (d : Int), bytesOf (T.pre d) = bytT T
  | .mk k b n s ks ts, d => by
    have h := preL_bytes ts (d + 1)
    have e : bytesOf ((d, Tree.mk k b n s ks ts) :: Tree.preL (d + 1) ts) = bytesOf [(d, Tree.mk k b n s ks ts)] + bytesOf (Tree.preL (d + 1) ts) := bytesOf_append [_] _
    rw [Tree.pre, e, bytesOf_one, h, bytT]
theorem preL_bytes : ∀ (l : List Tree) (d : Int), bytesOf (Tree.preL d l) = bytL l
  | [], d => by simp [Tree.preL, bytesOf, bytL]
  | t :: ts, d => by rw [Tree.preL, bytesOf_append, pre_bytes t d, preL_bytes ts d, bytL]
end
mutual
theorem pre_deep : ∀ (T : Tree) (d L : Int), (∃ x ∈ T.pre d, L < x.1) ↔ L < d - 1 + hgtT T
  | .mk k b n s ks ts, d, L => by
    have h := preL_deep ts (d + 1) L
    rw [Tree.pre, hgtT]
    simp only [List.mem_cons, exists_eq_or_imp]
    have e : d + 1 - 1 = d := by omega
    rw [e] at h
    have e2 : d - 1 + (hgtL ts + 1) = d + hgtL ts := by omega
    rw [e2, ← h]
    exact Or.comm
theorem preL_deep : ∀ (l : List Tree) (d L : Int), ((∃ x ∈ Tree.preL d l, L < x.1) ∨ L < d - 1) ↔ L < d - 1 + hgtL l
  | [], d, L => by simp [Tree.preL, hgtL]
  | t :: ts, d, L => by
    have h1 := pre_deep t d L
    have h2 := preL_deep ts d L
    have h3 := (size_le t).2.2.2.1
    have h4 := (sizeL_le ts).2.2.2.1.1
    rw [Tree.preL, hgtL]
    simp only [List.mem_append, or_and_right, exists_or, or_assoc]
    rw [h1, h2]
    omega
end
mutual
theorem pre_long : ∀ (T : Tree) (d : Int), (∃ x ∈ T.pre d, 65536 < x.2.kids.length) ↔ 65536 < lngT T
  | .mk k b n s ks ts, d => by
    have h := preL_long ts (d + 1)
    rw [Tree.pre, lngT]
    simp only [List.mem_cons, exists_eq_or_imp]
    rw [h]
    show (65536 < ts.length ∨ _) ↔ _
    omega
theorem preL_long : ∀ (l : List Tree) (d : Int), (∃ x ∈ Tree.preL d l, 65536 < x.2.kids.length) ↔ 65536 < lngL l
  | [], d => by simp [Tree.preL, lngL]
  | t :: ts, d => by
    have h1 := pre_long t d
    have h2 := preL_long ts d
    rw [Tree.preL, lngL]
    simp only [List.mem_append, or_and_right, exists_or]
    rw [h1, h2]
    omega
end
theorem rising_none {ks : List ByteArray} (h : ks.length = 0) : risingB ks = true := rising_true fun i hi => by omega
theorem shaped_head (k : Int) (b : Bool) (n : Int) (s : ByteArray) (ks : List ByteArray) (ts : List Tree) : shapedB (.mk k b n s ks ts) = (!badB k b n s ks.length ts.length && risingB ks) := by
  have hr := @rising_none ks
  simp only [shapedB, badB, rbareB, blankB]
  generalize risingB ks = rz at *
  generalize Lib.validD s.data.toList = vd
  have he : (⟨#[]⟩ : ByteArray).toList.isEmpty = true := empty_list
  rw [he]
  generalize s.toList.isEmpty = se
  generalize ks.length = kl at *
  generalize ts.length = ll
  by_cases h0 : k = 0
  · subst h0; cases b <;> cases se <;> cases vd <;> by_cases g1 : n = 0 <;> by_cases g2 : kl = 0 <;> by_cases g3 : ll = 0 <;> simp_all
  by_cases h1 : k = 1
  · subst h1; cases b <;> cases se <;> cases vd <;> by_cases g1 : n = 0 <;> by_cases g2 : kl = 0 <;> by_cases g3 : ll = 0 <;> simp_all
  by_cases h2 : k = 2
  · subst h2; cases b <;> cases se <;> cases vd <;> by_cases g2 : kl = 0 <;> by_cases g3 : ll = 0 <;> simp_all
  by_cases h6 : k = 6
  · subst h6
    by_cases g1 : n < 0
    · have e : (min n 0 == 0) = false := by rw [beq_eq_false_iff_ne]; omega
      cases b <;> cases se <;> cases vd <;> by_cases g2 : kl = 0 <;> by_cases g3 : ll = 0 <;> simp_all
    · have e : (min n 0 == 0) = true := by rw [beq_iff_eq]; omega
      cases b <;> cases se <;> cases vd <;> by_cases g2 : kl = 0 <;> by_cases g3 : ll = 0 <;> simp_all
  by_cases h7 : k = 7
  · subst h7
    by_cases g1 : n < 0
    · have e : (min n 0 == 0) = false := by rw [beq_eq_false_iff_ne]; omega
      cases b <;> cases se <;> cases vd <;> by_cases g2 : kl = 0 <;> by_cases g3 : ll = 0 <;> simp_all
    · have e : (min n 0 == 0) = true := by rw [beq_iff_eq]; omega
      cases b <;> cases se <;> cases vd <;> by_cases g2 : kl = 0 <;> by_cases g3 : ll = 0 <;> simp_all
  by_cases h3 : k = 3
  · subst h3; cases b <;> cases se <;> cases vd <;> by_cases g1 : n = 0 <;> by_cases g2 : kl = 0 <;> by_cases g3 : ll = 0 <;> simp_all
  by_cases h5 : k = 5
  · subst h5
    by_cases g2 : kl = ll
    · subst g2
      cases b <;> cases se <;> cases vd <;> cases rz <;> by_cases g1 : n = 0 <;> simp_all
    · have e : ((kl : Int) != (ll : Int)) = true := by rw [bne_iff_ne]; omega
      have e' : (kl == ll) = false := beq_eq_false_iff_ne.2 g2
      rw [e, e']
      clear e e'
      cases b <;> cases se <;> cases vd <;> cases rz <;> by_cases g1 : n = 0 <;> simp_all
  by_cases h4 : k = 4
  · subst h4; cases b <;> cases se <;> cases vd <;> by_cases g1 : n = 0 <;> by_cases g2 : kl = 0 <;> simp_all
  have hk : (decide (k < 0) || decide (7 < k)) = true := by
    rw [Bool.or_eq_true, decide_eq_true_eq, decide_eq_true_eq]
    omega
  rw [hk]
  simp [h0, h1, h2, h3, h4, h5, h6, h7]
mutual
theorem may_pre : ∀ (T : Tree) (d : Int), (T.pre d).all (fun x => shapedB x.2) = mayT T
  | .mk k b n s ks ts, d => by
    rw [Tree.pre, mayT, List.all_cons, may_preL ts (d + 1), shaped_head, Bool.and_assoc]
theorem may_preL : ∀ (l : List Tree) (d : Int), (Tree.preL d l).all (fun x => shapedB x.2) = mayL l
  | [], d => rfl
  | t :: ts, d => by rw [Tree.preL, mayL, List.all_append, may_pre t d, may_preL ts d]
end
theorem check_eq (T : Tree) : checkN T = if mayT T = true then (if 64 < hgtT T ∨ 1048576 < bytT T ∨ 65536 < lngT T then 3 else 0) else 110 := by
  unfold checkN
  rw [may_pre]
  have h := heavy_iff (T.pre 1) 0 (by omega)
  rw [pre_deep, pre_long, pre_bytes] at h
  have e : (heavy 0 (T.pre 1) = true) = (64 < hgtT T ∨ 1048576 < bytT T ∨ 65536 < lngT T) := propext (by rw [h]; omega)
  simp only [e]
end Go.Proofs.YtbpmhgcjefpigaaGreatDoor

