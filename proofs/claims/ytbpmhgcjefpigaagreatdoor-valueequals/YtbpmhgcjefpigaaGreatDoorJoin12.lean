/- Small values are modest; the shape of a value; two values in a row. Two values in a row; what less and equal say of two values together. How the values that are equal go with their order. -/
import Derived.Test.YtbpmhgcjefpigaaGreatDoorJoin6
import Derived.Test.YtbpmhgcjefpigaaGreatDoorWalked
import Derived.Test.YtbpmhgcjefpigaaGreatDoorTotal
import Derived.Test.YtbpmhgcjefpigaaGreatDoorJoin9
import Derived.Test.YtbpmhgcjefpigaaGreatDoorJoin5
namespace Go.Proofs.YtbpmhgcjefpigaaGreatDoor
open Go.RowKit Go.Shelf
set_option linter.unusedVariables false

theorem keyBytes_pos : ∀ ks : List ByteArray, 0 ≤ keyBytes ks
  | [] => by simp [keyBytes]
  | k :: ks => by
    have := keyBytes_pos ks
    simp only [keyBytes, List.map_cons, List.sum_cons] at this ⊢
    omega
theorem bytesOf_app (a b : List (Int × Tree)) : bytesOf (a ++ b) = bytesOf a + bytesOf b := by
  unfold bytesOf; rw [List.map_append, List.sum_append]
mutual
theorem total_bounds : ∀ (T : Tree) (d : Int), (T.height : Int) ≤ T.total ∧ bytesOf (T.pre d) ≤ T.total ∧ 1 ≤ T.total
  | .mk k b n s ks ts, d => by
    obtain ⟨h1, h2, h3⟩ := totalL_bounds ts (d + 1)
    have h4 := keyBytes_pos ks
    have e : bytesOf ((d, Tree.mk k b n s ks ts) :: Tree.preL (d + 1) ts) = ((s.size : Int) + keyBytes ks) + bytesOf (Tree.preL (d + 1) ts) := by
      simp [bytesOf, Tree.bytes, Tree.text, Tree.keys]
    rw [Tree.height, Tree.total, Tree.pre, e]
    refine ⟨?_, ?_, ?_⟩ <;> omega
theorem totalL_bounds : ∀ (ts : List Tree) (d : Int), (Tree.heightL ts : Int) ≤ Tree.totalL ts ∧ bytesOf (Tree.preL d ts) ≤ Tree.totalL ts ∧ 0 ≤ Tree.totalL ts
  | [], d => by simp [Tree.heightL, Tree.totalL, Tree.preL, bytesOf]
  | t :: ts, d => by
    obtain ⟨h1, h2, h3⟩ := total_bounds t d
    obtain ⟨g1, g2, g3⟩ := totalL_bounds ts d
    rw [Tree.heightL, Tree.totalL, Tree.preL, bytesOf_app]
    refine ⟨?_, ?_, ?_⟩ <;> omega
end
theorem modest_total {T : Tree} (h : T.total ≤ 2000) : Modest T := by
  obtain ⟨h1, h2, _⟩ := total_bounds T 1
  exact ⟨by omega, by omega⟩
theorem small_total {ts : List Tree} (h : smalls ts ≤ 2000) : ∀ t ∈ ts, t.total ≤ 2000 := fun t ht => by
  have hp : ∀ u ∈ ts, 0 ≤ smallN u 2000 := fun u _ => by have := smallN_pos u 2000; omega
  have : smallN t 2000 ≤ 2000 := by
    obtain ⟨i, hi⟩ := List.mem_iff_getElem?.1 ht
    have h1 := smalls_take hi
    have h2 := smalls_take_le (i + 1) hp
    have h3 := smalls_pos (ts := ts.take i) fun u hu => hp u (List.mem_of_mem_take hu)
    omega
  have e := smallN_eq t 2000 this
  omega
theorem lies_form {B : Nat} {w : World} {v : Value} {T : Tree} (h : Lies B w v T) : ∃ (k : Int) (x : Bool) (n : Int) (s : ByteArray) (ka : Option Addr) (kn kc : Nat) (la : Option Addr) (ln lc : Nat), v = .agg #[.int .i64 k, .bool x, .int .i64 n, .string s, .slice ka kn kc, .slice la ln lc] := by
  obtain ⟨k, x, n, s, ks, ts⟩ := T
  simp only [Lies] at h
  obtain ⟨ka, kc, la, lc, rfl, -⟩ := h
  exact ⟨_, _, _, _, _, _, _, _, _, _, rfl⟩
theorem six_cells {w : World} {q : Nat} {x0 x1 x2 x3 x4 x5 : Value} {fz : Nat × Nat} (h : w.heap[q]? = some (.cells #[x0, x1, x2, x3, x4, x5] 26 fz)) :
    w.cell? ⟨q, 0, none⟩ = some x0 ∧ w.cell? ⟨q, 1, none⟩ = some x1 ∧ w.cell? ⟨q, 2, none⟩ = some x2 ∧ w.cell? ⟨q, 3, none⟩ = some x3 ∧ w.cell? ⟨q, 4, none⟩ = some x4 ∧ w.cell? ⟨q, 5, none⟩ = some x5 :=
  ⟨box_cell h rfl, box_cell h rfl, box_cell h rfl, box_cell h rfl, box_cell h rfl, box_cell h rfl⟩
theorem kids_two {W : World} {bl B : Nat} {a0 a1 a2 a3 a4 a5 b0 b1 b2 b3 b4 b5 : Value} {S T : Tree}
    (hc : W.heap[bl]? = some (.cells #[a0, a1, a2, a3, a4, a5, b0, b1, b2, b3, b4, b5] 26 (0, 0)))
    (h1 : Lies B W (.agg #[a0, a1, a2, a3, a4, a5]) S) (h2 : Lies B W (.agg #[b0, b1, b2, b3, b4, b5]) T) : KidsLie B W bl 0 [S, T] := by
  have hcell : ∀ i v, (#[a0, a1, a2, a3, a4, a5, b0, b1, b2, b3, b4, b5] : Array Value)[i]? = some v → W.cell? ⟨bl, i, none⟩ = some v := by
    intro i v hi; unfold World.cell?; simp only [hc]; simpa using hi
  simp only [KidsLie]
  refine ⟨⟨_, _, _, _, _, _, ⟨hcell 0 _ rfl, hcell 1 _ rfl, hcell 2 _ rfl, hcell 3 _ rfl, hcell 4 _ rfl, hcell 5 _ rfl⟩, h1⟩, ⟨_, _, _, _, _, _, ⟨hcell 6 _ rfl, hcell 7 _ rfl, hcell 8 _ rfl, hcell 9 _ rfl, hcell 10 _ rfl, hcell 11 _ rfl⟩, h2⟩, trivial⟩
theorem lies_kind {B : Nat} {w : World} {k : Int} {v1 v2 v3 v4 v5 : Value} {T : Tree} (h : Lies B w (.agg #[.int .i64 k, v1, v2, v3, v4, v5]) T) : T.kind = k := by
  obtain ⟨k', x, n, s, ks, ts⟩ := T
  simp only [Lies] at h
  obtain ⟨ka, kc, la, lc, e, -⟩ := h
  injection e with e
  injection e with e
  injection e with e1 e2
  injection e1 with _ e3
  exact e3.symm
end Go.Proofs.YtbpmhgcjefpigaaGreatDoor

namespace Go.Proofs.YtbpmhgcjefpigaaGreatDoor
open Go.RowKit Go.Shelf Go.Lib
set_option linter.unusedVariables false

theorem less_laws {A B : Tree} (ha : checkN A = 0) (hb : checkN B = 0) :
    ((A.kind = B.kind ∧ plainB A.kind = true) ∧ ((lessN A B = 2 ∧ lessN B A = 0 ∧ equalN A B = 0) ∨ (lessN A B = 0 ∧ lessN B A = 0 ∧ equalN A B = 2) ∨ (lessN A B = 0 ∧ lessN B A = 2 ∧ equalN A B = 0))) ∨
    (¬ (A.kind = B.kind ∧ plainB A.kind = true) ∧ lessN A B = 1 ∧ lessN B A = 1) := by
  by_cases h : A.kind = B.kind ∧ plainB A.kind = true
  · refine .inl ⟨h, ?_⟩
    have h' : B.kind = A.kind ∧ plainB B.kind = true := ⟨h.1.symm, h.1 ▸ h.2⟩
    have ho := ordT_turn A B (known_check ha) (known_check hb)
    have h3 := ordT_three A B
    unfold lessN equalN
    rw [if_pos ⟨h.1, h.2, ha, hb⟩, if_pos ⟨h'.1, h'.2, hb, ha⟩, if_pos ⟨ha, hb⟩, ho]
    have he : eqT A B = truthI (ordT A B == 0) := by
      obtain ⟨k, x, n, s, ks, ts⟩ := A
      obtain ⟨k', x', n', s', ks', ts'⟩ := B
      obtain ⟨h1, h2⟩ := h
      simp only [Tree.kind] at h1 h2
      have hk : k = 1 ∨ k = 2 ∨ k = 3 := by simpa [plainB, or_assoc] using h2
      rw [eqT, if_neg (by omega), if_neg (by omega), if_pos (by omega)]
    rw [he]
    generalize ordT A B = o at h3
    rcases h3 with rfl | rfl | rfl
    · exact .inl ⟨rfl, rfl, rfl⟩
    · exact .inr (.inl ⟨rfl, rfl, rfl⟩)
    · exact .inr (.inr ⟨rfl, rfl, rfl⟩)
  · refine .inr ⟨h, ?_, ?_⟩
    · unfold lessN; rw [if_neg]; rintro ⟨g1, g2, -⟩; exact h ⟨g1, g2⟩
    · unfold lessN; rw [if_neg]; rintro ⟨g1, g2, -⟩; exact h ⟨g1.symm, g1 ▸ g2⟩
theorem plain_three {k : Int} (h : plainB k = true) : k = 1 ∨ k = 2 ∨ k = 3 := by simpa [plainB, or_assoc] using h
end Go.Proofs.YtbpmhgcjefpigaaGreatDoor

namespace Go.Proofs.YtbpmhgcjefpigaaGreatDoor
open Go.RowKit Go.Shelf
set_option linter.unusedVariables false

mutual
/-- Is there nothing somewhere in it? -/
def noneB : Tree → Bool
  | .mk k _ _ _ _ ts => noneL ts || k == 0
def noneL : List Tree → Bool
  | [] => false
  | t :: r => noneB t || noneL r
end
theorem noneL_any : ∀ ts : List Tree, noneL ts = ts.any noneB
  | [] => by simp [noneL]
  | t :: r => by rw [noneL, List.any_cons, noneL_any r]

mutual
/-- Kinds are the eight, lists have no keys. -/
def Fit : Tree → Prop
  | .mk k _ _ _ ks ts => (0 ≤ k ∧ k ≤ 7) ∧ (k = 4 → ks = []) ∧ FitL ts
def FitL : List Tree → Prop
  | [] => True
  | t :: r => Fit t ∧ FitL r
end
mutual
theorem fit_pre : ∀ (T : Tree) (d : Int), (T.pre d).all (fun x => shapedB x.2) = true → Fit T
  | .mk k b n s ks ts, d, h => by
    rw [Tree.pre, List.all_cons, Bool.and_eq_true] at h
    rw [Fit]
    have := h.1
    unfold shapedB at this
    rw [Bool.and_eq_true] at this
    have h1 := this.1
    refine ⟨?_, ?_, fitL_pre ts (d + 1) h.2⟩
    · by_cases g : 0 ≤ k ∧ k ≤ 7
      · exact g
      · rw [if_neg (by omega), if_neg (by omega), if_neg (by omega), if_neg (by omega), if_neg (by omega), if_neg (by omega), if_neg (by omega)] at h1
        cases h1
    · intro g
      rw [if_neg (by omega), if_neg (by omega), if_neg (by omega), if_neg (by omega), if_neg (by omega), if_neg (by omega), if_pos g] at h1
      unfold blankB at h1
      simp only [Bool.and_eq_true, beq_iff_eq] at h1
      refine List.eq_nil_of_length_eq_zero ?_
      omega
theorem fitL_pre : ∀ (l : List Tree) (d : Int), (Tree.preL d l).all (fun x => shapedB x.2) = true → FitL l
  | [], _, _ => by simp only [FitL]
  | t :: ts, d, h => by
    rw [Tree.preL, List.all_append, Bool.and_eq_true] at h
    rw [FitL]
    exact ⟨fit_pre t d h.1, fitL_pre ts d h.2⟩
end
theorem fit_check {T : Tree} (h : checkN T = 0) : Fit T := by
  unfold checkN at h
  by_cases g : (T.pre 1).all (fun x => shapedB x.2) = true
  · exact fit_pre T 1 g
  · rw [if_neg g] at h; omega

theorem ordL_len : ∀ {a b : List Tree}, ordL a b = 0 → a.length = b.length
  | [], [], _ => rfl
  | [], _ :: _, h => by simp [ordL] at h
  | _ :: _, [], h => by simp [ordL] at h
  | a :: r, b :: t, h => by
    rw [ordL] at h
    split at h
    · simp [ordL_len h]
    · omega
theorem agS_nil : agS [] [] = 0 := rfl

/-- What is told of the truth that two values are equal. -/
def EqFit (e o : Int) (x y : Bool) : Prop := (e = 0 ∨ e = 1 ∨ e = 2) ∧ (e = 2 → o = 0) ∧ (e = 0 → o ≠ 0) ∧ (x = false → y = false → e ≠ 1)

mutual
theorem eq_fit : ∀ (a b : Tree), Fit a → Fit b → EqFit (eqT a b) (ordT a b) (noneB a) (noneB b)
  | .mk k b n s ks ts, .mk k' b' n' s' ks' ts', h, h' => by
    simp only [Fit] at h h'
    rw [eqT]
    by_cases h0 : k = 0 ∨ k' = 0
    · rw [if_pos h0]
      refine ⟨.inr (.inl rfl), fun e => by omega, fun e => by omega, fun x y => ?_⟩
      rcases h0 with g | g
      · simp [noneB, g] at x
      · simp [noneB, g] at y
    rw [if_neg h0]
    by_cases hk : k = k'
    · subst hk
      rw [if_neg (by simp)]
      have er : cmpI (rankN k) (rankN k) = 0 := by unfold cmpI; simp
      by_cases h45 : k ≠ 4 ∧ k ≠ 5
      · rw [if_pos h45]
        unfold truthI
        refine ⟨?_, ?_, ?_, ?_⟩
        · split <;> simp
        · intro e; split at e
          · rename_i g; exact eq_of_beq g
          · omega
        · intro e; split at e
          · omega
          · rename_i g; exact fun z => g (by rw [z]; rfl)
        · intro _ _; split <;> omega
      rw [if_neg h45]
      have ho : ordT (.mk k b n s ks ts) (.mk k b' n' s' ks' ts') = if agS ks ks' = 0 then ordL ts ts' else agS ks ks' := by
        rw [ordT_eq, if_pos er]
        unfold inK
        by_cases h5 : k = 5
        · rw [if_pos h5]
        · have h4 : k = 4 := by omega
          rw [if_neg h5, if_pos h4, h.2.1 h4, h'.2.1 h4, agS_nil, if_pos rfl]
      rw [ho]
      by_cases hd : ts.length ≠ ts'.length ∨ agS ks ks' ≠ 0
      · rw [if_pos hd]
        refine ⟨.inl rfl, fun e => by omega, fun _ => ?_, fun _ _ => by omega⟩
        by_cases ha : agS ks ks' = 0
        · rw [if_pos ha]
          intro e
          have := ordL_len e
          rcases hd with hd | hd
          · exact hd this
          · exact hd ha
        · rw [if_neg ha]; exact ha
      · rw [if_neg hd]
        have hl : ts.length = ts'.length := by omega
        have ha : agS ks ks' = 0 := by omega
        rw [if_pos ha]
        obtain ⟨h1, h2, h3, h4⟩ := eqL_fit ts ts' 2 hl h.2.2 h'.2.2 (.inr (.inr rfl))
        refine ⟨h1, fun e => (h2 e).2, fun e => ?_, fun x y => ?_⟩
        · rcases h3 e with g | g
          · omega
          · exact g
        · simp only [noneB, Bool.or_eq_false_iff] at x y
          exact h4 x.1 y.1 (by omega)
    · rw [if_pos hk]
      refine ⟨.inl rfl, fun e => by omega, fun _ => ?_, fun _ _ => by omega⟩
      rw [ordT_eq]
      have : cmpI (rankN k) (rankN k') ≠ 0 := fun e => hk (rank_inj h.1 h'.1 e)
      rw [if_neg this]; exact this
theorem eqL_fit : ∀ (a b : List Tree) (m : Int), a.length = b.length → FitL a → FitL b → (m = 0 ∨ m = 1 ∨ m = 2) →
    (eqL m a b = 0 ∨ eqL m a b = 1 ∨ eqL m a b = 2) ∧ (eqL m a b = 2 → m = 2 ∧ ordL a b = 0) ∧ (eqL m a b = 0 → m = 0 ∨ ordL a b ≠ 0) ∧ (noneL a = false → noneL b = false → m ≠ 1 → eqL m a b ≠ 1)
  | [], [], m, _, _, _, hm => by
    simp only [eqL, ordL]
    refine ⟨hm, fun e => ⟨e, trivial⟩, fun e => .inl e, fun _ _ h => h⟩
  | [], _ :: _, _, h, _, _, _ => by simp at h
  | _ :: _, [], _, h, _, _, _ => by simp at h
  | a :: r, b :: t, m, hl, h, h', hm => by
    simp only [FitL] at h h'
    obtain ⟨e1, e2, e3, e4⟩ := eq_fit a b h.1 h'.1
    have hmm : min m (eqT a b) = 0 ∨ min m (eqT a b) = 1 ∨ min m (eqT a b) = 2 := by omega
    obtain ⟨g1, g2, g3, g4⟩ := eqL_fit r t (min m (eqT a b)) (by simpa using hl) h.2 h'.2 hmm
    rw [eqL, ordL]
    refine ⟨g1, fun e => ?_, fun e => ?_, fun x y hne => ?_⟩
    · obtain ⟨f1, f2⟩ := g2 e
      have : eqT a b = 2 := by omega
      refine ⟨by omega, ?_⟩
      rw [if_pos (e2 this)]; exact f2
    · rcases g3 e with f | f
      · by_cases hm0 : m = 0
        · exact .inl hm0
        · have : eqT a b = 0 := by omega
          refine .inr ?_
          rw [if_neg (e3 this)]; exact e3 this
      · refine .inr ?_
        by_cases ho : ordT a b = 0
        · rw [if_pos ho]; exact f
        · rw [if_neg ho]; exact ho
    · simp only [noneL, Bool.or_eq_false_iff] at x y
      have := e4 x.1 y.1
      exact g4 x.2 y.2 (by omega)
end

mutual
theorem known_fit : ∀ (a : Tree), Fit a → Known a
  | .mk k b n s ks ts, h => by
    simp only [Fit] at h
    rw [Known]
    exact ⟨h.1, knownL_fit ts h.2.2⟩
theorem knownL_fit : ∀ (a : List Tree), FitL a → KnownL a
  | [], _ => by simp only [KnownL]
  | t :: r, h => by
    simp only [FitL] at h
    rw [KnownL]
    exact ⟨known_fit t h.1, knownL_fit r h.2⟩
end
mutual
theorem eq_turn : ∀ (a b : Tree), Fit a → Fit b → eqT b a = eqT a b
  | .mk k b n s ks ts, .mk k' b' n' s' ks' ts', h, h' => by
    have hk : Known (.mk k b n s ks ts) := known_fit _ h
    have hk' : Known (.mk k' b' n' s' ks' ts') := known_fit _ h'
    have ho := ordT_turn _ _ hk hk'
    simp only [Fit] at h h'
    rw [eqT, eqT]
    by_cases h0 : k = 0 ∨ k' = 0
    · rw [if_pos h0, if_pos h0.symm]
    rw [if_neg h0, if_neg (fun g => h0 g.symm)]
    by_cases hkk : k = k'
    · subst hkk
      rw [if_neg (show ¬ (k ≠ k) from fun g => g rfl), if_neg (show ¬ (k ≠ k) from fun g => g rfl)]
      by_cases h45 : k ≠ 4 ∧ k ≠ 5
      · rw [if_pos h45, if_pos h45]
        rw [ho]
        congr 1
        rw [Bool.eq_iff_iff]; simp
      rw [if_neg h45, if_neg h45]
      have ha := agS_turn ks ks'
      by_cases hd : ts.length ≠ ts'.length ∨ agS ks ks' ≠ 0
      · rw [if_pos hd, if_pos (by omega)]
      · rw [if_neg hd, if_neg (by omega)]
        exact eqL_turn ts ts' 2 h.2.2 h'.2.2
    · rw [if_pos hkk, if_pos (fun g => hkk g.symm)]
theorem eqL_turn : ∀ (a b : List Tree) (m : Int), FitL a → FitL b → eqL m b a = eqL m a b
  | [], [], m, _, _ => by simp [eqL]
  | [], _ :: _, m, _, _ => by simp [eqL]
  | _ :: _, [], m, _, _ => by simp [eqL]
  | a :: r, b :: t, m, h, h' => by
    simp only [FitL] at h h'
    rw [eqL, eqL, eq_turn a b h.1 h'.1]
    exact eqL_turn r t _ h.2 h'.2
end

/-- All that ValueEqual asks. -/
theorem equal_laws {a b : Tree} (ha : checkN a = 0) (hb : checkN b = 0) : equalN b a = equalN a b ∧ EqFit (equalN a b) (ordT a b) (noneB a) (noneB b) := by
  unfold equalN
  rw [if_pos ⟨hb, ha⟩, if_pos ⟨ha, hb⟩]
  exact ⟨eq_turn a b (fit_check ha) (fit_check hb), eq_fit a b (fit_check ha) (fit_check hb)⟩
end Go.Proofs.YtbpmhgcjefpigaaGreatDoor

