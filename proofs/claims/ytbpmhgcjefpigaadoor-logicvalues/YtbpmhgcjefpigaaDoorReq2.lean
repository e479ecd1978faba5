/- The document's equality of lists and of maps. -/
import Derived.Test.YtbpmhgcjefpigaaDoorReq18
namespace Go.Proofs.YtbpmhgcjefpigaaDoor
open Go.RowKit Go.Shelf
set_option linter.unusedVariables false

theorem agS_eq : ∀ {a b : List ByteArray}, agS a b = 0 → a.length = b.length
  | [], [], _ => rfl
  | [], _ :: _, h => by simp [agS] at h
  | _ :: _, [], h => by simp [agS] at h
  | a :: r, b :: t, h => by
    rw [agS] at h
    by_cases c : Lib.compareBytes a.data.toList b.data.toList = 0
    · rw [if_pos c] at h; simp [agS_eq h]
    · rw [if_neg c] at h; exact absurd h c
mutual
theorem eqT_range : ∀ (a b : Tree), eqT a b = 0 ∨ eqT a b = 1 ∨ eqT a b = 2
  | .mk k x n s ks ts, .mk k' x' n' s' ks' ts' => by
    rw [eqT]
    have h := eqL_range 2 ts ts' (.inr (.inr rfl))
    split
    · simp
    split
    · simp
    split
    · cases (ordT (.mk k x n s ks ts) (.mk k' x' n' s' ks' ts') == 0)
      · exact .inl rfl
      · exact .inr (.inr rfl)
    split
    · simp
    · exact h
theorem eqL_range : ∀ (m : Int) (a b : List Tree), (m = 0 ∨ m = 1 ∨ m = 2) → eqL m a b = 0 ∨ eqL m a b = 1 ∨ eqL m a b = 2
  | m, a :: r, b :: t, h => by
    rw [eqL]
    have g := eqT_range a b
    exact eqL_range _ r t (by omega)
  | m, [], _, h => by simpa [eqL] using h
  | m, _ :: _, [], h => by simpa [eqL] using h
end
theorem eqL_zero : ∀ (a b : List Tree), eqL 0 a b = 0
  | a :: r, b :: t => by
    rw [eqL]
    have g := eqT_range a b
    rw [show min 0 (eqT a b) = 0 by omega]
    exact eqL_zero r t
  | [], _ => by simp [eqL]
  | _ :: _, [] => by simp [eqL]
theorem eqL_split : ∀ (i : Nat) (m : Int) (a b : List Tree), eqL m a b = eqL (eqL m (a.take i) (b.take i)) (a.drop i) (b.drop i)
  | 0, m, a, b => by simp [eqL]
  | i + 1, m, [], b => by simp [eqL]
  | i + 1, m, a :: r, [] => by simp [eqL]
  | i + 1, m, a :: r, b :: t => by
    simp only [List.take_succ_cons, List.drop_succ_cons, eqL]
    exact eqL_split i _ r t

/-- Whether one was unknown so far. -/
def Flag (u : Value) (n : Int) : Prop := ∃ b : Bool, u = .bool b ∧ n = if b then 1 else 2

set_option maxRecDepth 100000 in
set_option maxHeartbeats 1600000 in
theorem refeq_unlike (k : Int) (x : Bool) (n : Int) (s : ByteArray) (ka : Option Addr) (ks : List ByteArray) (kc : Nat) (la : Option Addr) (ts : List Tree) (lc : Nat) (k' : Int) (x' : Bool) (n' : Int) (s' : ByteArray) (ka' : Option Addr) (ks' : List ByteArray) (kc' : Nat) (la' : Option Addr) (ts' : List Tree) (lc' : Nat) (w : World)
    (ih : ∀ t ∈ ts, ∀ (B : Nat) (v v' : Value) (T' : Tree) (w : World), B ≤ w.heap.size → Lies B w v t → Lies B w v' T' → Known t → Known T' → Calls Tryd.prog 27 #[v, v'] w fun e w' => e = .returned (.int .i64 (eqT t T')) ∧ Below w.heap.size w w')
    (B : Nat) (hB : B ≤ w.heap.size) (hK : KeysLie B w ka ks) (hT : ListLies B w la ts) (hK' : KeysLie B w ka' ks') (hT' : ListLies B w la' ts') (hs2 : ks.length ≤ kc) (hs3 : kc ≤ maxLen) (hs4 : ts.length ≤ lc) (hs5 : lc ≤ maxLen)
    (gs2 : ks'.length ≤ kc') (gs3 : kc' ≤ maxLen) (gs4 : ts'.length ≤ lc') (gs5 : lc' ≤ maxLen) (hkn : KnownL ts) (hkn' : KnownL ts') (e0 : (k == 0) = false) (f0 : (k' == 0) = false) (e1 : (k == k') = true) (z45 : (k != 4) = false ∨ ((k != 4) = true ∧ (k != 5) = false)) (hu : ks.length ≠ ks'.length ∨ ts.length ≠ ts'.length) (res : Int)
    (hres : res = if ts.length ≠ ts'.length ∨ agS ks ks' ≠ 0 then 0 else eqL 2 ts ts') :
    Calls Tryd.prog 27 #[.agg #[.int .i64 k, .bool x, .int .i64 n, .string s, .slice ka ks.length kc, .slice la ts.length lc], .agg #[.int .i64 k', .bool x', .int .i64 n', .string s', .slice ka' ks'.length kc', .slice la' ts'.length lc']] w fun e w' => e = .returned (.int .i64 res) ∧ Below w.heap.size w w' := by
  unfold maxLen at hs3 hs5 gs3 gs5
  obtain ⟨W2, hW2⟩ : ∃ W2, ((w.alloc (.cells #[.int .i64 k, .bool x, .int .i64 n, .string s, .slice ka ks.length kc, .slice la ts.length lc] 30)).alloc (.cells #[.int .i64 k', .bool x', .int .i64 n', .string s', .slice ka' ks'.length kc', .slice la' ts'.length lc'] 30)) = W2 := ⟨_, rfl⟩
  have HX : Hid (∀ W, Below W2.heap.size W2 W → Below w.heap.size w W ∧ W.cell? ⟨w.heap.size, 4, none⟩ = some (.slice ka ks.length kc) ∧ W.cell? ⟨w.heap.size + 1, 4, none⟩ = some (.slice ka' ks'.length kc') ∧ W.cell? ⟨w.heap.size, 5, none⟩ = some (.slice la ts.length lc) ∧ W.cell? ⟨w.heap.size + 1, 5, none⟩ = some (.slice la' ts'.length lc')) := fun W hb => by
    rw [← hW2] at hb
    obtain ⟨h1, h2, h3⟩ := two_boxes hb
    exact ⟨h1, h2 4 _ rfl, h3 4 _ rfl, h2 5 _ rfl, h3 5 _ rfl⟩
  have HBW0 := hidE (HX.out W2 (Below.refl _ _)).1
  have HW2 := hidE hW2
  have HIH := hidE ih
  have HR := hidE hres
  have HKN := hidE (And.intro hkn hkn')
  have HKK := hidE (And.intro hK hK')
  have HTT := hidE (And.intro hT hT')
  clear ih hres hkn hkn' hK hK' hT hT' hW2
  by_cases hkl : ks.length = ks'.length
  case neg =>
    have HR1 := hidE (HR.out.trans (if_pos (.inr (fun c => hkl (agS_eq c)))))
    have kl : ((ks.length : Int) != (ks'.length : Int)) = true := by rw [bne_iff_ne]; omega
    clear HR hkl hu
    rcases z45 with e4 | ⟨e4, e5⟩
    all_goals
      go_enter Tryd.func27, Tryd.ntmps27
      go_wp2_with fail
      rw [HW2.out]
      go_ret
      exact ⟨by rw [HR1.out]; rfl, HBW0.out⟩
  have kl : ((ks.length : Int) != (ks'.length : Int)) = false := by rw [hkl]; simp
  by_cases htl : ts.length = ts'.length
  case neg =>
    have HR1 := hidE (HR.out.trans (if_pos (.inl htl)))
    have tl : ((ts.length : Int) != (ts'.length : Int)) = true := by rw [bne_iff_ne]; omega
    clear HR hkl htl hu
    rcases z45 with e4 | ⟨e4, e5⟩
    all_goals
      go_enter Tryd.func27, Tryd.ntmps27
      go_wp2_with fail
      rw [HW2.out]
      go_ret
      exact ⟨by rw [HR1.out]; rfl, HBW0.out⟩
  rcases hu with hu | hu
  · exact absurd hkl hu
  · exact absurd htl hu
end Go.Proofs.YtbpmhgcjefpigaaDoor
