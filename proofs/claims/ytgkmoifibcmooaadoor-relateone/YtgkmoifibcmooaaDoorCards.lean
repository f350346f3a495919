/-
  DERIVED. GIVEN WITH THE SEED: THE CARDS: each row of YtgkmoifibcmooaaDoorRows.lean that lists a variable, with what it lists TIED to the program's text (the seventh form; the later family's looks); each row that meets fmt, with fmt's text TOLD by the authors' own Lean function (tested against real Go, not proved from fmt's source: count such statements apart). THE CARD IS WHAT COUNTS. Prove the row's statement (the work); the ties are given (YtgkmoifibcmooaaDoorTie.lean); close each card by the builder's one call (the guide's Derived/Test/ToyasCard.lean, 'card_holds'). Laid BY PROGRAM, IN A SANDBOX (cutbox-door.mjs). By AI agents, Wed Nov 11 2026. No macro, syntax, notation, axiom, sorry.
-/
import Derived.Test.YtgkmoifibcmooaaDoorRows
import GoSem.ClaimSeven
namespace Go.Proofs.YtgkmoifibcmooaaDoor
namespace Rows

/-- THE TIED CARD OF 'culpritlaw03.RelateOne'. -/
def relateOneCard : Claim7 := { stood := { row := relateOneRow, standIns := [], harness := (true, "3130a7a22e2552069cff8d28373ecc5d62c0ae0fbb81dad0873cd4d8ad4ce178"), looks := false }, kinds := [], alts := [], laidByText := true, laidKinds := [.data, .data, .data], laidTests := true, laidLooks := .later }
def RelateOneCardSaid : Prop := Claim7.holds Tryd.pinned (.plain (OpenSpec.ofChange relateOneSpec)) relateOneCard

/-- THE SECOND FORM's CARD OF 'culpritlaw03.RelateOne'. -/
def relateOneUptoCard : Claim7 := { stood := { row := relateOneUptoRow, standIns := [], harness := (true, "3130a7a22e2552069cff8d28373ecc5d62c0ae0fbb81dad0873cd4d8ad4ce178"), looks := false }, kinds := [], alts := [], laidByText := true, laidKinds := [.data, .data, .data], laidTests := true, laidLooks := .later }
def RelateOneUptoCardSaid : Prop := Claim7.holds Tryd.pinned (.plain (OpenSpec.upto relateOneSpec)) relateOneUptoCard
end Rows
end Go.Proofs.YtgkmoifibcmooaaDoor
