/-
  DERIVED. GIVEN WITH THE SEED: THE CARDS: each row of YtkcehgpcimlamaaGreatDoorRows.lean that lists a variable, with what it lists TIED to the program's text (the seventh form; the later family's looks); each row that meets fmt, with fmt's text TOLD by the authors' own Lean function (tested against real Go, not proved from fmt's source: count such statements apart). THE CARD IS WHAT COUNTS. Prove the row's statement (the work); the ties are given (YtkcehgpcimlamaaGreatDoorTie.lean); close each card by the builder's one call (the guide's Derived/Test/ToyasCard.lean, 'card_holds'). Laid BY PROGRAM, IN A SANDBOX (cutbox-door.mjs). By AI agents, Wed Nov 11 2026. No macro, syntax, notation, axiom, sorry.
-/
import Derived.Test.YtkcehgpcimlamaaGreatDoorRows
import GoSem.ClaimSeven
namespace Go.Proofs.YtkcehgpcimlamaaGreatDoor
namespace Rows

/-- THE TIED CARD OF 'culpritlaw05.TreeFree'. -/
def treeFreeCard : Claim7 := { stood := { row := treeFreeRow, standIns := [], harness := (true, "fd53b6f4f61df85976dc7c53049dd6365c64a960c5d82361dd2b4a34a9b9ea31"), looks := true }, kinds := [], alts := [], laidByText := true, laidKinds := [.data, .data, .data, .data, .pinned], laidTests := true, laidLooks := .later }
def TreeFreeCardSaid : Prop := Claim7.holds Tryz.pinned (.plain (OpenSpec.ofChange treeFreeSpec)) treeFreeCard

/-- THE SECOND FORM's CARD OF 'culpritlaw05.TreeFree'. -/
def treeFreeUptoCard : Claim7 := { stood := { row := treeFreeUptoRow, standIns := [], harness := (true, "fd53b6f4f61df85976dc7c53049dd6365c64a960c5d82361dd2b4a34a9b9ea31"), looks := true }, kinds := [], alts := [], laidByText := true, laidKinds := [.data, .data, .data, .data, .pinned], laidTests := true, laidLooks := .later }
def TreeFreeUptoCardSaid : Prop := Claim7.holds Tryz.pinned (.plain (OpenSpec.upto treeFreeSpec)) treeFreeUptoCard
end Rows
end Go.Proofs.YtkcehgpcimlamaaGreatDoor
