/- The document's May: may a value be, however great? Values told, whatever they are. The number two, told. -/
import Derived.Test.YtbpmhgcjefpigaaGreatDoorJoin9
import Derived.Test.YtbpmhgcjefpigaaGreatDoorJoin14
import Derived.Test.YtbpmhgcjefpigaaGreatDoorCopy
import Derived.Lib.ItoaLen
import Derived.Test.YtbpmhgcjefpigaaGreatDoorJoin13
namespace Go.Proofs.YtbpmhgcjefpigaaGreatDoor
open Go.RowKit Go.WideShapes Go.Shelf
set_option linter.unusedVariables false
theorem less_cmp : ∀ (a b : List UInt8), Op.bytesLess a b = decide (Lib.compareBytes a b < 0)
  | [], [] => rfl
  | [], _ :: _ => rfl
  | _ :: _, [] => rfl
  | a :: r, b :: t => by
    rw [Op.bytesLess, Lib.compareBytes, less_cmp r t]
    by_cases h : a < b
    · simp [h]
    · by_cases g : b < a
      · have : (a == b) = false := by
          rw [beq_eq_false_iff_ne]
          intro e; subst e
          exact absurd g h
        simp [h, g, this]
      · have : (a == b) = true := by
          rw [beq_iff_eq]
          have h1 : ¬ a.toNat < b.toNat := h
          have h2 : ¬ b.toNat < a.toNat := g
          exact UInt8.toNat_inj.1 (by omega)
        simp [h, g, this]
/-- The first test of May. -/
def badB (k : Int) (b : Bool) (n : Int) (s : ByteArray) (kl ll : Nat) : Bool :=
  ((((decide (k < 0) || decide (7 < k)) || !rbareB k b n s kl ll) || (((k == 6) || (k == 7)) && decide (n < 0))) || !Lib.validD s.data.toList) || ((k == 5) && ((kl : Int) != (ll : Int)))
mutual
def mayT : Tree → Bool
  | .mk k b n s ks ts => !badB k b n s ks.length ts.length && (risingB ks && mayL ts)
def mayL : List Tree → Bool
  | [] => true
  | t :: ts => mayT t && mayL ts
end
/-- The keys rise so far. -/
def Rises (ks : List ByteArray) (j : Nat) : Prop := ∀ i, i < j → risesAt ks i = true
theorem Rises.snoc {ks : List ByteArray} {j : Nat} (h : Rises ks j) (hj : risesAt ks j = true) : Rises ks (j + 1) := fun i hi => by
  rcases Nat.lt_or_eq_of_le (Nat.le_of_lt_succ hi) with h' | rfl
  · exact h i h'
  · exact hj
/-- The values may be so far. -/
def Mays (ts : List Tree) (p : Nat) : Prop := ∀ (i : Nat) (t : Tree), i < p → ts[i]? = some t → mayT t = true
theorem Mays.snoc {ts : List Tree} {p : Nat} {t : Tree} (h : Mays ts p) (hp : ts[p]? = some t) (ht : mayT t = true) : Mays ts (p + 1) := fun i u hi hu => by
  rcases Nat.lt_or_eq_of_le (Nat.le_of_lt_succ hi) with h' | rfl
  · exact h i u h' hu
  · rw [hp] at hu; cases hu; exact ht
end Go.Proofs.YtbpmhgcjefpigaaGreatDoor

namespace Go.Proofs.YtbpmhgcjefpigaaGreatDoor
open Go.RowKit Go.Shelf Go.WideShapes Go.Lib
set_option linter.unusedVariables false
set_option linter.unusedSimpArgs false
mutual
/-- Its numbers are numbers of 64 bits. -/
def Ranged : Tree → Prop
  | .mk k b n s ks ts => (-9223372036854775808 ≤ n ∧ n ≤ 9223372036854775807) ∧ RangedL ts
def RangedL : List Tree → Prop
  | [] => True
  | t :: ts => Ranged t ∧ RangedL ts
end
theorem RangedL.mem : ∀ {ts : List Tree} {t : Tree}, RangedL ts → t ∈ ts → Ranged t
  | u :: us, t, h, hm => by
    simp only [RangedL] at h
    rcases List.mem_cons.1 hm with rfl | hm
    · exact h.1
    · exact RangedL.mem h.2 hm
end Go.Proofs.YtbpmhgcjefpigaaGreatDoor

namespace Go.Proofs.YtbpmhgcjefpigaaGreatDoor
open Go.RowKit Go.Shelf Go.Lib
set_option linter.unusedVariables false
set_option maxRecDepth 100000 in
theorem small_two (w : World) : Calls Tryz.prog 118 #[.int .i64 2] w fun e w' => e = .returned (.string ⟨#[50]⟩) ∧ w' = w := by
  go_enter Tryz.func118, Tryz.ntmps118
  go_wp2_with fail
  go_ret
  exact ⟨rfl, rfl⟩
set_option maxRecDepth 100000 in
theorem appendUint_two (base n : Nat) (v : Value) (xs : List Value) (w : World) (hown : w.ownsRow base 5 1 v n xs) (hB : base ≤ w.heap.size) (hn : n ≤ 1000000000) :
    Calls Tryz.prog 140 #[v, .int .u64 2, .int .i64 10] w fun e w' => ∃ v', e = .returned v' ∧ Told base n xs v w [50] v' w' := by
  go_enter Tryz.func140, Tryz.ntmps140
  go_wp2_with fail
  refine (small_two w).mono ?_
  rintro e _ ⟨rfl, rfl⟩
  go_wp2_with (at_builtin; refine append_text _ rfl _ _ rfl base n v xs rfl hown ⟨#[50]⟩ rfl (by decide) (by show n + 1 ≤ _; omega) hB ?_; intro v' w' ht)
  have HT := hidE ht
  go_ret
  exact ⟨_, rfl, HT.out⟩
set_option maxRecDepth 100000 in
theorem appendInt_two_in (base n : Nat) (v : Value) (xs : List Value) (w : World) (hown : w.ownsRow base 5 1 v n xs) (hB : base ≤ w.heap.size) (hn : n ≤ 1000000000) :
    Calls Tryz.prog 117 #[v, .int .i64 2, .int .i64 10] w fun e w' => ∃ v', e = .returned v' ∧ Told base n xs v w [50] v' w' := by
  have HC := hidE (appendUint_two base n v xs w hown hB hn)
  clear hown
  go_enter Tryz.func117, Tryz.ntmps117
  go_wp2_with fail
  refine HC.out.mono ?_
  rintro e w' ⟨v', rfl, ht⟩
  have HT := hidE ht
  clear ht HC
  go_wp2_with fail
  go_ret
  exact ⟨_, rfl, HT.out⟩
theorem itoa_two : itoa 2 = [50] := by simp [itoa, decDigits]
theorem intOk_two : IntOk 2 := by
  intro base n v xs w hown hB hn _
  rw [itoa_two]
  have HC := hidE (appendInt_two_in base n v xs w hown hB hn)
  clear hown
  go_enter Tryz.func99, Tryz.ntmps99
  go_wp2_with fail
  refine HC.out.mono ?_
  rintro e w' ⟨v', rfl, ht⟩
  have HT := hidE ht
  clear ht HC
  go_wp2_with fail
  go_ret
  exact ⟨_, rfl, HT.out⟩
end Go.Proofs.YtbpmhgcjefpigaaGreatDoor

