/-
  DERIVED. GIVEN WITH THE SEED: THE CARDS: each row of YteaolcfpdhlohaaDoorRows.lean that lists a variable, with what it lists TIED to the program's text (the seventh form; the later family's looks); each row that meets fmt, with fmt's text TOLD by the authors' own Lean function (tested against real Go, not proved from fmt's source: count such statements apart). THE CARD IS WHAT COUNTS. Prove the row's statement (the work); the ties are given (YteaolcfpdhlohaaDoorTie.lean); close each card by the builder's one call (the guide's Derived/Test/ToyasCard.lean, 'card_holds'). Laid BY PROGRAM, IN A SANDBOX (cutbox-door.mjs). By AI agents, Wed Nov 11 2026. No macro, syntax, notation, axiom, sorry.
-/
import Derived.Test.YteaolcfpdhlohaaDoorRows
import GoSem.ClaimSeven
namespace Go.Proofs.YteaolcfpdhlohaaDoor
namespace Rows

/-- THE TIED CARD OF 'culpritlaw09.LabelTells'. -/
def labelTellsCard : Claim7 := { stood := { row := labelTellsRow, standIns := [], harness := (true, "bb04ad1e8f2815ce4031776e34f04c46552c16801cb38cae92e20d6cfd28956c"), looks := false }, kinds := [], alts := [], laidByText := true, laidKinds := [.data, .data, .data, .data], laidTests := true, laidLooks := .later }
def LabelTellsCardSaid : Prop := Claim7.holds Tryd.pinned (.plain (OpenSpec.ofChange labelTellsSpec)) labelTellsCard

/-- THE TIED CARD OF 'culpritlaw09.LabelSorted'. -/
def labelSortedCard : Claim7 := { stood := { row := labelSortedRow, standIns := [], harness := (true, "bb04ad1e8f2815ce4031776e34f04c46552c16801cb38cae92e20d6cfd28956c"), looks := false }, kinds := [], alts := [], laidByText := true, laidKinds := [.data, .data, .data, .data], laidTests := true, laidLooks := .later }
def LabelSortedCardSaid : Prop := Claim7.holds Tryd.pinned (.plain (OpenSpec.ofChange labelSortedSpec)) labelSortedCard

/-- THE TIED CARD OF 'culpritlaw09.LabelTurns'. -/
def labelTurnsCard : Claim7 := { stood := { row := labelTurnsRow, standIns := [], harness := (true, "bb04ad1e8f2815ce4031776e34f04c46552c16801cb38cae92e20d6cfd28956c"), looks := false }, kinds := [], alts := [], laidByText := true, laidKinds := [.data], laidTests := true, laidLooks := .later }
def LabelTurnsCardSaid : Prop := Claim7.holds Tryd.pinned (.plain (OpenSpec.ofChange labelTurnsSpec)) labelTurnsCard

/-- THE SECOND FORM's CARD OF 'culpritlaw09.LabelTells'. -/
def labelTellsUptoCard : Claim7 := { stood := { row := labelTellsUptoRow, standIns := [], harness := (true, "bb04ad1e8f2815ce4031776e34f04c46552c16801cb38cae92e20d6cfd28956c"), looks := false }, kinds := [], alts := [], laidByText := true, laidKinds := [.data, .data, .data, .data], laidTests := true, laidLooks := .later }
def LabelTellsUptoCardSaid : Prop := Claim7.holds Tryd.pinned (.plain (OpenSpec.upto labelTellsSpec)) labelTellsUptoCard

/-- THE SECOND FORM's CARD OF 'culpritlaw09.LabelSorted'. -/
def labelSortedUptoCard : Claim7 := { stood := { row := labelSortedUptoRow, standIns := [], harness := (true, "bb04ad1e8f2815ce4031776e34f04c46552c16801cb38cae92e20d6cfd28956c"), looks := false }, kinds := [], alts := [], laidByText := true, laidKinds := [.data, .data, .data, .data], laidTests := true, laidLooks := .later }
def LabelSortedUptoCardSaid : Prop := Claim7.holds Tryd.pinned (.plain (OpenSpec.upto labelSortedSpec)) labelSortedUptoCard

/-- THE SECOND FORM's CARD OF 'culpritlaw09.LabelTurns'. -/
def labelTurnsUptoCard : Claim7 := { stood := { row := labelTurnsUptoRow, standIns := [], harness := (true, "bb04ad1e8f2815ce4031776e34f04c46552c16801cb38cae92e20d6cfd28956c"), looks := false }, kinds := [], alts := [], laidByText := true, laidKinds := [.data], laidTests := true, laidLooks := .later }
def LabelTurnsUptoCardSaid : Prop := Claim7.holds Tryd.pinned (.plain (OpenSpec.upto labelTurnsSpec)) labelTurnsUptoCard
end Rows
end Go.Proofs.YteaolcfpdhlohaaDoor
