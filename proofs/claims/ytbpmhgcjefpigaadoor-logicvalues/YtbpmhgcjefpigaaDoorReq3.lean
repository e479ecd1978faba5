/- The document's equality of lists and of maps. -/
import Derived.Test.YtbpmhgcjefpigaaDoorReq2a
import Derived.Test.YtbpmhgcjefpigaaDoorReq2b
namespace Go.Proofs.YtbpmhgcjefpigaaDoor
open Go.RowKit Go.Shelf
set_option linter.unusedVariables false

set_option maxRecDepth 100000 in
set_option maxHeartbeats 8000000 in
theorem refeq_lists (k : Int) (x : Bool) (n : Int) (s : ByteArray) (ka : Option Addr) (ks : List ByteArray) (kc : Nat) (la : Option Addr) (ts : List Tree) (lc : Nat) (k' : Int) (x' : Bool) (n' : Int) (s' : ByteArray) (ka' : Option Addr) (ks' : List ByteArray) (kc' : Nat) (la' : Option Addr) (ts' : List Tree) (lc' : Nat) (w : World)
    (ih : ∀ t ∈ ts, ∀ (B : Nat) (v v' : Value) (T' : Tree) (w : World), B ≤ w.heap.size → Lies B w v t → Lies B w v' T' → Known t → Known T' → Calls Tryd.prog 27 #[v, v'] w fun e w' => e = .returned (.int .i64 (eqT t T')) ∧ Below w.heap.size w w')
    (B : Nat) (hB : B ≤ w.heap.size) (hK : KeysLie B w ka ks) (hT : ListLies B w la ts) (hK' : KeysLie B w ka' ks') (hT' : ListLies B w la' ts') (hs2 : ks.length ≤ kc) (hs3 : kc ≤ maxLen) (hs4 : ts.length ≤ lc) (hs5 : lc ≤ maxLen)
    (gs2 : ks'.length ≤ kc') (gs3 : kc' ≤ maxLen) (gs4 : ts'.length ≤ lc') (gs5 : lc' ≤ maxLen) (hkn : KnownL ts) (hkn' : KnownL ts') (e0 : (k == 0) = false) (f0 : (k' == 0) = false) (e1 : (k == k') = true) (z45 : (k != 4) = false ∨ ((k != 4) = true ∧ (k != 5) = false)) (res : Int)
    (hres : res = if ts.length ≠ ts'.length ∨ agS ks ks' ≠ 0 then 0 else eqL 2 ts ts') :
    Calls Tryd.prog 27 #[.agg #[.int .i64 k, .bool x, .int .i64 n, .string s, .slice ka ks.length kc, .slice la ts.length lc], .agg #[.int .i64 k', .bool x', .int .i64 n', .string s', .slice ka' ks'.length kc', .slice la' ts'.length lc']] w fun e w' => e = .returned (.int .i64 res) ∧ Below w.heap.size w w' := by
  by_cases hkl : ks.length = ks'.length
  case neg => exact refeq_unlike k x n s ka ks kc la ts lc k' x' n' s' ka' ks' kc' la' ts' lc' w ih B hB hK hT hK' hT' hs2 hs3 hs4 hs5 gs2 gs3 gs4 gs5 hkn hkn' e0 f0 e1 z45 (.inl hkl) res hres
  by_cases htl : ts.length = ts'.length
  case neg => exact refeq_unlike k x n s ka ks kc la ts lc k' x' n' s' ka' ks' kc' la' ts' lc' w ih B hB hK hT hK' hT' hs2 hs3 hs4 hs5 gs2 gs3 gs4 gs5 hkn hkn' e0 f0 e1 z45 (.inr htl) res hres
  rcases z45 with e4 | ⟨e4, e5⟩
  · exact refeq_a k x n s ka ks kc la ts lc k' x' n' s' ka' ks' kc' la' ts' lc' w ih B hB hK hT hK' hT' hs2 hs3 hs4 hs5 gs2 gs3 gs4 gs5 hkn hkn' e0 f0 e1 e4 hkl htl res hres
  · exact refeq_b k x n s ka ks kc la ts lc k' x' n' s' ka' ks' kc' la' ts' lc' w ih B hB hK hT hK' hT' hs2 hs3 hs4 hs5 gs2 gs3 gs4 gs5 hkn hkn' e0 f0 e1 e4 e5 hkl htl res hres
end Go.Proofs.YtbpmhgcjefpigaaDoor
