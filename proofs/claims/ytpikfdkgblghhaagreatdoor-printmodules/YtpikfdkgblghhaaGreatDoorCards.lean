/-
  DERIVED. GIVEN WITH THE SEED: THE CARDS: each row of YtpikfdkgblghhaaGreatDoorRows.lean that lists a variable, with what it lists TIED to the program's text (the seventh form; the later family's looks); each row that meets fmt, with fmt's text TOLD by the authors' own Lean function (tested against real Go, not proved from fmt's source: count such statements apart). THE CARD IS WHAT COUNTS. Prove the row's statement (the work); the ties are given (YtpikfdkgblghhaaGreatDoorTie.lean); close each card by the builder's one call (the guide's Derived/Test/ToyasCard.lean, 'card_holds'). Laid BY PROGRAM, IN A SANDBOX (cutbox-door.mjs). By AI agents, Wed Nov 11 2026. No macro, syntax, notation, axiom, sorry.
-/
import Derived.Test.YtpikfdkgblghhaaGreatDoorRows
import GoSem.ClaimSeven
namespace Go.Proofs.YtpikfdkgblghhaaGreatDoor
namespace Rows

/-- THE TIED CARD OF 'culpritlaw07.PrintExprs'. -/
def printExprsCard : Claim7 := { stood := { row := printExprsRow, standIns := [], harness := (true, "899be5ed49a2a9c10d67872261e7d3e2e50ea698a48227f34dc586378d8733ff"), looks := true }, kinds := [], alts := [], laidByText := true, laidKinds := [.data, .data, .data], laidTests := true, laidLooks := .later }
def PrintExprsCardSaid : Prop := Claim7.holds Tryz.pinned (.plain (OpenSpec.ofChange printExprsSpec)) printExprsCard

/-- THE TIED CARD OF 'culpritlaw07.PrintModules'. -/
def printModulesCard : Claim7 := { stood := { row := printModulesRow, standIns := [], harness := (true, "899be5ed49a2a9c10d67872261e7d3e2e50ea698a48227f34dc586378d8733ff"), looks := true }, kinds := [], alts := [], laidByText := true, laidKinds := [.data, .data, .data], laidTests := true, laidLooks := .later }
def PrintModulesCardSaid : Prop := Claim7.holds Tryz.pinned (.plain (OpenSpec.ofChange printModulesSpec)) printModulesCard

/-- THE TIED CARD OF 'culpritlaw07.PrintBack'. -/
def printBackCard : Claim7 := { stood := { row := printBackRow, standIns := [], harness := (true, "899be5ed49a2a9c10d67872261e7d3e2e50ea698a48227f34dc586378d8733ff"), looks := true }, kinds := [], alts := [], laidByText := true, laidKinds := [.data, .data, .data, .sentinel, .sentinel], laidTests := true, laidLooks := .later }
def PrintBackCardSaid : Prop := Claim7.holds Tryz.pinned (.plain (OpenSpec.ofChange printBackSpec)) printBackCard

/-- THE TIED CARD OF 'culpritlaw07.PrintLeast'. -/
def printLeastCard : Claim7 := { stood := { row := printLeastRow, standIns := [], harness := (true, "899be5ed49a2a9c10d67872261e7d3e2e50ea698a48227f34dc586378d8733ff"), looks := true }, kinds := [], alts := [], laidByText := true, laidKinds := [.data, .data, .data, .sentinel, .sentinel], laidTests := true, laidLooks := .later }
def PrintLeastCardSaid : Prop := Claim7.holds Tryz.pinned (.plain (OpenSpec.ofChange printLeastSpec)) printLeastCard

/-- THE SECOND FORM's CARD OF 'culpritlaw07.PrintExprs'. -/
def printExprsUptoCard : Claim7 := { stood := { row := printExprsUptoRow, standIns := [], harness := (true, "899be5ed49a2a9c10d67872261e7d3e2e50ea698a48227f34dc586378d8733ff"), looks := true }, kinds := [], alts := [], laidByText := true, laidKinds := [.data, .data, .data], laidTests := true, laidLooks := .later }
def PrintExprsUptoCardSaid : Prop := Claim7.holds Tryz.pinned (.plain (OpenSpec.upto printExprsSpec)) printExprsUptoCard

/-- THE SECOND FORM's CARD OF 'culpritlaw07.PrintModules'. -/
def printModulesUptoCard : Claim7 := { stood := { row := printModulesUptoRow, standIns := [], harness := (true, "899be5ed49a2a9c10d67872261e7d3e2e50ea698a48227f34dc586378d8733ff"), looks := true }, kinds := [], alts := [], laidByText := true, laidKinds := [.data, .data, .data], laidTests := true, laidLooks := .later }
def PrintModulesUptoCardSaid : Prop := Claim7.holds Tryz.pinned (.plain (OpenSpec.upto printModulesSpec)) printModulesUptoCard

/-- THE SECOND FORM's CARD OF 'culpritlaw07.PrintBack'. -/
def printBackUptoCard : Claim7 := { stood := { row := printBackUptoRow, standIns := [], harness := (true, "899be5ed49a2a9c10d67872261e7d3e2e50ea698a48227f34dc586378d8733ff"), looks := true }, kinds := [], alts := [], laidByText := true, laidKinds := [.data, .data, .data, .sentinel, .sentinel], laidTests := true, laidLooks := .later }
def PrintBackUptoCardSaid : Prop := Claim7.holds Tryz.pinned (.plain (OpenSpec.upto printBackSpec)) printBackUptoCard

/-- THE SECOND FORM's CARD OF 'culpritlaw07.PrintLeast'. -/
def printLeastUptoCard : Claim7 := { stood := { row := printLeastUptoRow, standIns := [], harness := (true, "899be5ed49a2a9c10d67872261e7d3e2e50ea698a48227f34dc586378d8733ff"), looks := true }, kinds := [], alts := [], laidByText := true, laidKinds := [.data, .data, .data, .sentinel, .sentinel], laidTests := true, laidLooks := .later }
def PrintLeastUptoCardSaid : Prop := Claim7.holds Tryz.pinned (.plain (OpenSpec.upto printLeastSpec)) printLeastUptoCard
end Rows
end Go.Proofs.YtpikfdkgblghhaaGreatDoor
