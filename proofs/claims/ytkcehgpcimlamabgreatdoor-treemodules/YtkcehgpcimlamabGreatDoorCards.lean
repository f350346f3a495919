/-
  DERIVED. GIVEN WITH THE SEED: THE CARDS: each row of YtkcehgpcimlamabGreatDoorRows.lean that lists a variable, with what it lists TIED to the program's text (the seventh form; the later family's looks); each row that meets fmt, with fmt's text TOLD by the authors' own Lean function (tested against real Go, not proved from fmt's source: count such statements apart). THE CARD IS WHAT COUNTS. Prove the row's statement (the work); the ties are given (YtkcehgpcimlamabGreatDoorTie.lean); close each card by the builder's one call (the guide's Derived/Test/ToyasCard.lean, 'card_holds'). Laid BY PROGRAM, IN A SANDBOX (cutbox-door.mjs). By AI agents, Wed Nov 11 2026. No macro, syntax, notation, axiom, sorry.
-/
import Derived.Test.YtkcehgpcimlamabGreatDoorRows
import GoSem.ClaimSeven
namespace Go.Proofs.YtkcehgpcimlamabGreatDoor
namespace Rows

/-- THE TIED CARD OF 'culpritlaw05.TreeModules'. -/
def treeModulesCard : Claim7 := { stood := { row := treeModulesRow, standIns := [], harness := (true, "858b0880ddb9a5584c169051777ae762bc22465de87d5c4af4e15d5a1c0aea4f"), looks := true }, kinds := [], alts := [], laidByText := true, laidKinds := [.data, .data, .data, .data, .pinned], laidTests := true, laidLooks := .later }
def TreeModulesCardSaid : Prop := Claim7.holds Tryz.pinned (.plain (OpenSpec.ofChange treeModulesSpec)) treeModulesCard

/-- THE SECOND FORM's CARD OF 'culpritlaw05.TreeModules'. -/
def treeModulesUptoCard : Claim7 := { stood := { row := treeModulesUptoRow, standIns := [], harness := (true, "858b0880ddb9a5584c169051777ae762bc22465de87d5c4af4e15d5a1c0aea4f"), looks := true }, kinds := [], alts := [], laidByText := true, laidKinds := [.data, .data, .data, .data, .pinned], laidTests := true, laidLooks := .later }
def TreeModulesUptoCardSaid : Prop := Claim7.holds Tryz.pinned (.plain (OpenSpec.upto treeModulesSpec)) treeModulesUptoCard
end Rows
end Go.Proofs.YtkcehgpcimlamabGreatDoor
