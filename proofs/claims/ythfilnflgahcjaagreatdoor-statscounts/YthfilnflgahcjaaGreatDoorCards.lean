/-
  DERIVED. GIVEN WITH THE SEED: THE CARDS: each row of YthfilnflgahcjaaGreatDoorRows.lean that lists a variable, with what it lists TIED to the program's text (the seventh form; the later family's looks); each row that meets fmt, with fmt's text TOLD by the authors' own Lean function (tested against real Go, not proved from fmt's source: count such statements apart). THE CARD IS WHAT COUNTS. Prove the row's statement (the work); the ties are given (YthfilnflgahcjaaGreatDoorTie.lean); close each card by the builder's one call (the guide's Derived/Test/ToyasCard.lean, 'card_holds'). Laid BY PROGRAM, IN A SANDBOX (cutbox-door.mjs). By AI agents, Wed Nov 11 2026. No macro, syntax, notation, axiom, sorry.
-/
import Derived.Test.YthfilnflgahcjaaGreatDoorRows
import GoSem.ClaimSeven
namespace Go.Proofs.YthfilnflgahcjaaGreatDoor
namespace Rows

/-- THE TIED CARD OF 'latticelaw11.StatsCounts'. -/
def statsCountsCard : Claim7 := { stood := { row := statsCountsRow, standIns := [], harness := (true, "7b76844b2665187f1523e26b6ea17da6d610db223343929870d7306685ee60a7"), looks := true }, kinds := [], alts := [], laidByText := true, laidKinds := [.data, .data, .data, .data, .pinned], laidTests := true, laidLooks := .later }
def StatsCountsCardSaid : Prop := Claim7.holds Tryz.pinned (.plain (OpenSpec.ofChange statsCountsSpec)) statsCountsCard

/-- THE TIED CARD OF 'latticelaw11.StatsAsks'. -/
def statsAsksCard : Claim7 := { stood := { row := statsAsksRow, standIns := [], harness := (true, "7b76844b2665187f1523e26b6ea17da6d610db223343929870d7306685ee60a7"), looks := true }, kinds := [], alts := [], laidByText := true, laidKinds := [.data, .data, .data, .data, .pinned], laidTests := true, laidLooks := .later }
def StatsAsksCardSaid : Prop := Claim7.holds Tryz.pinned (.plain (OpenSpec.ofChange statsAsksSpec)) statsAsksCard

/-- THE TIED CARD OF 'latticelaw11.StatsTexts'. -/
def statsTextsCard : Claim7 := { stood := { row := statsTextsRow, standIns := [], harness := (true, "7b76844b2665187f1523e26b6ea17da6d610db223343929870d7306685ee60a7"), looks := true }, kinds := [], alts := [], laidByText := true, laidKinds := [.data, .data, .data, .data, .pinned], laidTests := true, laidLooks := .later }
def StatsTextsCardSaid : Prop := Claim7.holds Tryz.pinned (.plain (OpenSpec.ofChange statsTextsSpec)) statsTextsCard

/-- THE TIED CARD OF 'latticelaw11.StatsSums'. -/
def statsSumsCard : Claim7 := { stood := { row := statsSumsRow, standIns := [], harness := (true, "7b76844b2665187f1523e26b6ea17da6d610db223343929870d7306685ee60a7"), looks := true }, kinds := [], alts := [], laidByText := true, laidKinds := [.data, .data, .data, .data, .pinned], laidTests := true, laidLooks := .later }
def StatsSumsCardSaid : Prop := Claim7.holds Tryz.pinned (.plain (OpenSpec.ofChange statsSumsSpec)) statsSumsCard

/-- THE TIED CARD OF 'latticelaw11.StatsMoved'. -/
def statsMovedCard : Claim7 := { stood := { row := statsMovedRow, standIns := [], harness := (true, "7b76844b2665187f1523e26b6ea17da6d610db223343929870d7306685ee60a7"), looks := true }, kinds := [], alts := [], laidByText := true, laidKinds := [.data, .data, .data, .data, .pinned], laidTests := true, laidLooks := .later }
def StatsMovedCardSaid : Prop := Claim7.holds Tryz.pinned (.plain (OpenSpec.ofChange statsMovedSpec)) statsMovedCard

/-- THE TIED CARD OF 'latticelaw11.StatsFit'. -/
def statsFitCard : Claim7 := { stood := { row := statsFitRow, standIns := [], harness := (true, "7b76844b2665187f1523e26b6ea17da6d610db223343929870d7306685ee60a7"), looks := true }, kinds := [], alts := [], laidByText := true, laidKinds := [.data, .data, .data, .data, .pinned], laidTests := true, laidLooks := .later }
def StatsFitCardSaid : Prop := Claim7.holds Tryz.pinned (.plain (OpenSpec.ofChange statsFitSpec)) statsFitCard

/-- THE SECOND FORM's CARD OF 'latticelaw11.StatsCounts'. -/
def statsCountsUptoCard : Claim7 := { stood := { row := statsCountsUptoRow, standIns := [], harness := (true, "7b76844b2665187f1523e26b6ea17da6d610db223343929870d7306685ee60a7"), looks := true }, kinds := [], alts := [], laidByText := true, laidKinds := [.data, .data, .data, .data, .pinned], laidTests := true, laidLooks := .later }
def StatsCountsUptoCardSaid : Prop := Claim7.holds Tryz.pinned (.plain (OpenSpec.upto statsCountsSpec)) statsCountsUptoCard

/-- THE SECOND FORM's CARD OF 'latticelaw11.StatsAsks'. -/
def statsAsksUptoCard : Claim7 := { stood := { row := statsAsksUptoRow, standIns := [], harness := (true, "7b76844b2665187f1523e26b6ea17da6d610db223343929870d7306685ee60a7"), looks := true }, kinds := [], alts := [], laidByText := true, laidKinds := [.data, .data, .data, .data, .pinned], laidTests := true, laidLooks := .later }
def StatsAsksUptoCardSaid : Prop := Claim7.holds Tryz.pinned (.plain (OpenSpec.upto statsAsksSpec)) statsAsksUptoCard

/-- THE SECOND FORM's CARD OF 'latticelaw11.StatsTexts'. -/
def statsTextsUptoCard : Claim7 := { stood := { row := statsTextsUptoRow, standIns := [], harness := (true, "7b76844b2665187f1523e26b6ea17da6d610db223343929870d7306685ee60a7"), looks := true }, kinds := [], alts := [], laidByText := true, laidKinds := [.data, .data, .data, .data, .pinned], laidTests := true, laidLooks := .later }
def StatsTextsUptoCardSaid : Prop := Claim7.holds Tryz.pinned (.plain (OpenSpec.upto statsTextsSpec)) statsTextsUptoCard

/-- THE SECOND FORM's CARD OF 'latticelaw11.StatsSums'. -/
def statsSumsUptoCard : Claim7 := { stood := { row := statsSumsUptoRow, standIns := [], harness := (true, "7b76844b2665187f1523e26b6ea17da6d610db223343929870d7306685ee60a7"), looks := true }, kinds := [], alts := [], laidByText := true, laidKinds := [.data, .data, .data, .data, .pinned], laidTests := true, laidLooks := .later }
def StatsSumsUptoCardSaid : Prop := Claim7.holds Tryz.pinned (.plain (OpenSpec.upto statsSumsSpec)) statsSumsUptoCard

/-- THE SECOND FORM's CARD OF 'latticelaw11.StatsMoved'. -/
def statsMovedUptoCard : Claim7 := { stood := { row := statsMovedUptoRow, standIns := [], harness := (true, "7b76844b2665187f1523e26b6ea17da6d610db223343929870d7306685ee60a7"), looks := true }, kinds := [], alts := [], laidByText := true, laidKinds := [.data, .data, .data, .data, .pinned], laidTests := true, laidLooks := .later }
def StatsMovedUptoCardSaid : Prop := Claim7.holds Tryz.pinned (.plain (OpenSpec.upto statsMovedSpec)) statsMovedUptoCard

/-- THE SECOND FORM's CARD OF 'latticelaw11.StatsFit'. -/
def statsFitUptoCard : Claim7 := { stood := { row := statsFitUptoRow, standIns := [], harness := (true, "7b76844b2665187f1523e26b6ea17da6d610db223343929870d7306685ee60a7"), looks := true }, kinds := [], alts := [], laidByText := true, laidKinds := [.data, .data, .data, .data, .pinned], laidTests := true, laidLooks := .later }
def StatsFitUptoCardSaid : Prop := Claim7.holds Tryz.pinned (.plain (OpenSpec.upto statsFitSpec)) statsFitUptoCard
end Rows
end Go.Proofs.YthfilnflgahcjaaGreatDoor
