/- Keys, told, whatever signs are in them. What is in a list or a map, told. Whether what a value does not use is zero, as the document has it. The document's order of values in rows. -/
import Derived.Shelf.Strings.Builder1
import Derived.Shelf.Strings.Builder2
import Derived.Shelf.LaysM
import Derived.Shelf.Strconv.Itoa3
import Derived.Shelf.Strconv.Itoa4
import Derived.Shelf.Strings.Replace
import Derived.Test.YtbpmhgcjefpigaaGreatDoorProg
import Derived.Test.YtbpmhgcjefpigaaGreatDoorJoin12
import Derived.Lib.SplitLaws
import Derived.Test.YtbpmhgcjefpigaaGreatDoorJoin13
import Derived.Test.YtbpmhgcjefpigaaGreatDoorTellR9
import Derived.Test.YtbpmhgcjefpigaaGreatDoorJoin6
import Derived.Lib.ValidLaws
import Derived.Test.YtbpmhgcjefpigaaGreatDoorJoin8
namespace Go.Proofs.YtbpmhgcjefpigaaGreatDoor
open Go.RowKit Go.Shelf Go.Lib
set_option linter.unusedVariables false
/-- The library's own bound is some number. -/
def ML (w : World) : Prop := ∃ m, w.cell? ⟨2, 0, none⟩ = some (.int .i64 m)
end Go.Proofs.YtbpmhgcjefpigaaGreatDoor

namespace Go.Proofs.YtbpmhgcjefpigaaGreatDoor
open Go.RowKit Go.Shelf Go.Lib
set_option linter.unusedVariables false
set_option linter.unusedSimpArgs false
/-- The tables stand below. -/
structure TBG (base : Nat) (w : World) : Prop where
  utf : ∀ w', Below base w w' → Tabs w'
  pow : TabBelow Tryz.prog base w "internal/strconv.uint64pow10" .u64 pow10Tab
  ml : ∀ w', Below base w w' → ML w'
  low : ∀ w', Below base w w' → 2 < w'.heap.size
theorem TBG.on {base : Nat} {w w' : World} (h : TBG base w) (hb : Below base w w') : TBG base w' := ⟨fun w2 h2 => h.utf w2 (hb.trans h2), h.pow.on hb, fun w2 h2 => h.ml w2 (hb.trans h2), fun w2 h2 => h.low w2 (hb.trans h2)⟩
end Go.Proofs.YtbpmhgcjefpigaaGreatDoor

namespace Go.Proofs.YtbpmhgcjefpigaaGreatDoor
open Go.RowKit Go.Shelf
set_option linter.unusedVariables false
def rbareB (k : Int) (b : Bool) (n : Int) (s : ByteArray) (kl ll : Nat) : Bool :=
  ((k == 1) || !b) && (((k == 2) || ((k == 6) || ((k == 7) || (n == 0)))) && (((k == 3) || s.toList.isEmpty) && (((k == 5) || decide (kl = 0)) && ((k == 4) || ((k == 5) || decide (ll = 0))))))
end Go.Proofs.YtbpmhgcjefpigaaGreatDoor

namespace Go.Proofs.YtbpmhgcjefpigaaGreatDoor
open Go.RowKit Go.Shelf
set_option linter.unusedVariables false
theorem KnownL.mem : ∀ {ts : List Tree}, KnownL ts → ∀ {t}, t ∈ ts → Known t
  | [], _, _, h => by cases h
  | a :: r, h, t, hm => by
    simp only [KnownL] at h
    rcases List.mem_cons.mp hm with rfl | hm
    · exact h.1
    · exact KnownL.mem h.2 hm
end Go.Proofs.YtbpmhgcjefpigaaGreatDoor

