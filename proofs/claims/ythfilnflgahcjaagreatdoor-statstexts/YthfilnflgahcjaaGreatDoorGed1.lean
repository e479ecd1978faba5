/- A graph that is there: whether it is, whether it has a thing, whether it is full. -/
import Derived.Test.YthfilnflgahcjaaGreatDoorGmk0
import Derived.Test.YthfilnflgahcjaaGreatDoorGmap
import Derived.Test.YthfilnflgahcjaaGreatDoorJoin16
import Derived.Test.YthfilnflgahcjaaGreatDoorJoin5
namespace Go.Proofs.YthfilnflgahcjaaGreatDoor
open Go.RowKit Go.Shelf
set_option linter.unusedVariables false
set_option linter.unusedSimpArgs false
attribute [local go_sem] Oper.semAt_some
def hasB (k : Int) (es : List (Int × Value)) : Bool := es.any fun q => q.1 == k
theorem mi_look {t e : TypeId} {z : Value} (ht : Tryz.prog.underlying t = some (.map 2 e)) (hz : ∀ w, (zeroValue e).run Tryz.prog w = .ok z w) {w : World} {b : Nat} {es : List (Int × Value)} (h : MI w b es) (k : Int) (hk : I64 k) (hu : ∀ p ∈ es, ∀ q ∈ es, p.1 = q.1 → p.2 = q.2) :
    ∃ v, ((∃ q ∈ es, q.1 = k ∧ v = q.2) ∨ v = z) ∧ (Instr.lookup t (.map (some b)) (.int .i64 k) true).run Tryz.prog w = .ok (.tuple #[v, .bool (hasB k es)]) w := by
  by_cases hh : ∃ q ∈ es, q.1 = k
  · obtain ⟨q, hq, rfl⟩ := hh
    have hb : hasB q.1 es = true := List.any_eq_true.2 ⟨q, hq, by simp⟩
    refine ⟨q.2, Or.inl ⟨q, hq, rfl, rfl⟩, ?_⟩
    rw [hb]
    exact (mi_hit (z := z) ht h q.1 q.2 hk hq (fun p hp e => hu p hp q hq e)).1
  · have hb : hasB k es = false := by
      rw [hasB, List.any_eq_false]
      intro q hq
      simp only [beq_iff_eq]
      exact fun e => hh ⟨q, hq, e⟩
    refine ⟨z, Or.inr rfl, ?_⟩
    rw [hb]
    exact (mi_miss ht hz h k hk (fun p hp e => hh ⟨p, hp, e⟩)).1
end Go.Proofs.YthfilnflgahcjaaGreatDoor
