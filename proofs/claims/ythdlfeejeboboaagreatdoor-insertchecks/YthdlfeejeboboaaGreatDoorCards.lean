/-
  DERIVED. GIVEN WITH THE SEED: THE CARDS: each row of YthdlfeejeboboaaGreatDoorRows.lean that lists a variable, with what it lists TIED to the program's text (the seventh form; the later family's looks); each row that meets fmt, with fmt's text TOLD by the authors' own Lean function (tested against real Go, not proved from fmt's source: count such statements apart). THE CARD IS WHAT COUNTS. Prove the row's statement (the work); the ties are given (YthdlfeejeboboaaGreatDoorTie.lean); close each card by the builder's one call (the guide's Derived/Test/ToyasCard.lean, 'card_holds'). Laid BY PROGRAM, IN A SANDBOX (cutbox-door.mjs). By AI agents, Wed Nov 11 2026. No macro, syntax, notation, axiom, sorry.
-/
import Derived.Test.YthdlfeejeboboaaGreatDoorRows
import GoSem.ClaimSeven
namespace Go.Proofs.YthdlfeejeboboaaGreatDoor
namespace Rows

/-- THE TIED CARD OF 'culpritlaw11.InsertExprs'. -/
def insertExprsCard : Claim7 := { stood := { row := insertExprsRow, standIns := [], harness := (true, "eb2010a06616d01d00ae693a372f3207991c6114acac4ebda8c3adbbbb569f36"), looks := true }, kinds := [], alts := [], laidByText := true, laidKinds := [.data, .data, .data, .data, .data, .data, .pinned], laidTests := true, laidLooks := .later }
def InsertExprsCardSaid : Prop := Claim7.holds Tryz.pinned (.plain (OpenSpec.ofChange insertExprsSpec)) insertExprsCard

/-- THE TIED CARD OF 'culpritlaw11.InsertChecks'. -/
def insertChecksCard : Claim7 := { stood := { row := insertChecksRow, standIns := [], harness := (true, "eb2010a06616d01d00ae693a372f3207991c6114acac4ebda8c3adbbbb569f36"), looks := true }, kinds := [], alts := [], laidByText := true, laidKinds := [.data, .data, .data, .pinned], laidTests := true, laidLooks := .later }
def InsertChecksCardSaid : Prop := Claim7.holds Tryz.pinned (.plain (OpenSpec.ofChange insertChecksSpec)) insertChecksCard

/-- THE SECOND FORM's CARD OF 'culpritlaw11.InsertExprs'. -/
def insertExprsUptoCard : Claim7 := { stood := { row := insertExprsUptoRow, standIns := [], harness := (true, "eb2010a06616d01d00ae693a372f3207991c6114acac4ebda8c3adbbbb569f36"), looks := true }, kinds := [], alts := [], laidByText := true, laidKinds := [.data, .data, .data, .data, .data, .data, .pinned], laidTests := true, laidLooks := .later }
def InsertExprsUptoCardSaid : Prop := Claim7.holds Tryz.pinned (.plain (OpenSpec.upto insertExprsSpec)) insertExprsUptoCard

/-- THE SECOND FORM's CARD OF 'culpritlaw11.InsertChecks'. -/
def insertChecksUptoCard : Claim7 := { stood := { row := insertChecksUptoRow, standIns := [], harness := (true, "eb2010a06616d01d00ae693a372f3207991c6114acac4ebda8c3adbbbb569f36"), looks := true }, kinds := [], alts := [], laidByText := true, laidKinds := [.data, .data, .data, .pinned], laidTests := true, laidLooks := .later }
def InsertChecksUptoCardSaid : Prop := Claim7.holds Tryz.pinned (.plain (OpenSpec.upto insertChecksSpec)) insertChecksUptoCard
end Rows
end Go.Proofs.YthdlfeejeboboaaGreatDoor
