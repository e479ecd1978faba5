/- The document's equality of values is the program's. -/
import Derived.Test.YtbpmhgcjefpigaaDoorReq2a
import Derived.Test.YtbpmhgcjefpigaaDoorReq2b
namespace Go.Proofs.YtbpmhgcjefpigaaDoor
open Go.RowKit Go.Shelf
set_option linter.unusedVariables false

set_option maxRecDepth 100000 in
set_option maxHeartbeats 8000000 in
theorem refeq_lists (k : Int) (x : Bool) (n : Int) (s : ByteArray) (ka : Option Addr) (ks : List ByteArray) (kc : Nat) (la : Option Addr) (ts : List Tree) (lc : Nat) (k' : Int) (x' : Bool) (n' : Int) (s' : ByteArray) (ka' : Option Addr) (ks' : List ByteArray) (kc' : Nat) (la' : Option Addr) (ts' : List Tree) (lc' : Nat) (w : World)
    (ih : ∀ t ∈ ts, ∀ (B : Nat) (v v' : Value) (T' : Tree) (w : World), B ≤ w.heap.size → Lies B w v t → Lies B w v' T' → Known t → Known T' → Calls Tryd.prog 27 #[v, v'] w fun e w' => e = .returned (.int .i64 (eqT t T')) ∧ Below w.heap.size w w')
    (B : Nat) (hB : B ≤ w.heap.size) (hK : KeysLie B w ka ks) (hT : ListLies B w la ts) (hK' : KeysLie B w ka' ks') (hT' : ListLies B w la' ts') (hs2 : ks.length ≤ kc) (hs3 : kc ≤ maxLen) (hs4 : ts.length ≤ lc) (hs5 : lc ≤ maxLen)
    (gs2 : ks'.length ≤ kc') (gs3 : kc' ≤ maxLen) (gs4 : ts'.length ≤ lc') (gs5 : lc' ≤ maxLen) (hkn : KnownL ts) (hkn' : KnownL ts') (e0 : (k == 0) = false) (f0 : (k' == 0) = false) (e1 : (k == k') = true) (z45 : (k != 4) = false ∨ ((k != 4) = true ∧ (k != 5) = false)) (res : Int)
    (hres : res = if ts.length ≠ ts'.length ∨ agS ks ks' ≠ 0 then 0 else eqL 2 ts ts') :
    Calls Tryd.prog 27 #[.agg #[.int .i64 k, .bool x, .int .i64 n, .string s, .slice ka ks.length kc, .slice la ts.length lc], .agg #[.int .i64 k', .bool x', .int .i64 n', .string s', .slice ka' ks'.length kc', .slice la' ts'.length lc']] w fun e w' => e = .returned (.int .i64 res) ∧ Below w.heap.size w w' := by
  by_cases hkl : ks.length = ks'.length
  case neg => exact refeq_unlike k x n s ka ks kc la ts lc k' x' n' s' ka' ks' kc' la' ts' lc' w ih B hB hK hT hK' hT' hs2 hs3 hs4 hs5 gs2 gs3 gs4 gs5 hkn hkn' e0 f0 e1 z45 (.inl hkl) res hres
  by_cases htl : ts.length = ts'.length
  case neg => exact refeq_unlike k x n s ka ks kc la ts lc k' x' n' s' ka' ks' kc' la' ts' lc' w ih B hB hK hT hK' hT' hs2 hs3 hs4 hs5 gs2 gs3 gs4 gs5 hkn hkn' e0 f0 e1 z45 (.inr htl) res hres
  rcases z45 with e4 | ⟨e4, e5⟩
  · exact refeq_a k x n s ka ks kc la ts lc k' x' n' s' ka' ks' kc' la' ts' lc' w ih B hB hK hT hK' hT' hs2 hs3 hs4 hs5 gs2 gs3 gs4 gs5 hkn hkn' e0 f0 e1 e4 hkl htl res hres
  · exact refeq_b k x n s ka ks kc la ts lc k' x' n' s' ka' ks' kc' la' ts' lc' w ih B hB hK hT hK' hT' hs2 hs3 hs4 hs5 gs2 gs3 gs4 gs5 hkn hkn' e0 f0 e1 e4 e5 hkl htl res hres


theorem refeq_any : ∀ (T : Tree) (B : Nat) (v v' : Value) (T' : Tree) (w : World), B ≤ w.heap.size → Lies B w v T → Lies B w v' T' → Known T → Known T' →
    Calls Tryd.prog 27 #[v, v'] w fun e w' => e = .returned (.int .i64 (eqT T T')) ∧ Below w.heap.size w w' := by
  refine Tree.ind ?_
  intro k x n s ks ts ih B v v' T' w hB hv hv' hkn hkn'
  obtain ⟨k', x', n', s', ks', ts'⟩ := T'
  have HV := hv
  have HV' := hv'
  have HK := hkn
  have HK' := hkn'
  simp only [Lies] at hv hv'
  simp only [Known] at hkn hkn'
  obtain ⟨ka, kc, la, lc, rfl, ⟨hs1, hs2, hs3, hs4, hs5⟩, hk, ht⟩ := hv
  obtain ⟨ka', kc', la', lc', rfl, ⟨gs1, gs2, gs3, gs4, gs5⟩, hk', ht'⟩ := hv'
  have heq : eqT (.mk k x n s ks ts) (.mk k' x' n' s' ks' ts') = (if k = 0 ∨ k' = 0 then 1 else if k ≠ k' then 0 else if k ≠ 4 ∧ k ≠ 5 then truthI (ordT (.mk k x n s ks ts) (.mk k' x' n' s' ks' ts') == 0)
    else if ts.length ≠ ts'.length ∨ agS ks ks' ≠ 0 then 0 else eqL 2 ts ts') := by rw [eqT]
  rw [heq]
  by_cases h0 : k = 0
  · rw [if_pos (.inl h0)]
    exact refeq_null1 k x n s ka ks.length kc la ts.length lc k' x' n' s' ka' ks'.length kc' la' ts'.length lc' w h0
  by_cases g0 : k' = 0
  · rw [if_pos (.inr g0)]
    exact refeq_null2 k x n s ka ks.length kc la ts.length lc k' x' n' s' ka' ks'.length kc' la' ts'.length lc' w h0 g0
  rw [if_neg (by intro h; rcases h with h | h; exact h0 h; exact g0 h)]
  by_cases hne : k = k'
  case neg =>
    rw [if_pos hne]
    exact refeq_ne k x n s ka ks.length kc la ts.length lc k' x' n' s' ka' ks'.length kc' la' ts'.length lc' w h0 g0 hne
  rw [if_neg (fun h => h hne)]
  by_cases hp : k ≠ 4 ∧ k ≠ 5
  · rw [if_pos hp]
    exact refeq_plain k x n s ka ks.length kc la ts.length lc k' x' n' s' ka' ks'.length kc' la' ts'.length lc' w h0 g0 hne hp.1 hp.2 _
      (fun W hb => refcmp_any _ B _ _ _ W (Nat.le_trans hB hb.size) (HV.below (hb.mono hB)) (HV'.below (hb.mono hB)) HK HK')
  · rw [if_neg hp]
    refine refeq_lists k x n s ka ks kc la ts lc k' x' n' s' ka' ks' kc' la' ts' lc' w ih B hB hk ht hk' ht' hs2 hs3 hs4 hs5 gs2 gs3 gs4 gs5 hkn.2 hkn'.2 (ne_bool h0) (ne_bool g0) (eq_bool hne) ?_ _ rfl
    by_cases h4 : k = 4
    · exact .inl (by rw [h4]; rfl)
    · have h5 : k = 5 := by omega
      exact .inr ⟨bne_iff_ne.2 h4, by rw [h5]; rfl⟩
end Go.Proofs.YtbpmhgcjefpigaaDoor
