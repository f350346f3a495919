/-
  DERIVED. GIVEN WITH THE SEED: THE CARDS: each row of YtaaokecdmbmgbaaGreatDoorRows.lean that lists a variable, with what it lists TIED to the program's text (the seventh form; the later family's looks); each row that meets fmt, with fmt's text TOLD by the authors' own Lean function (tested against real Go, not proved from fmt's source: count such statements apart). THE CARD IS WHAT COUNTS. Prove the row's statement (the work); the ties are given (YtaaokecdmbmgbaaGreatDoorTie.lean); close each card by the builder's one call (the guide's Derived/Test/ToyasCard.lean, 'card_holds'). Laid BY PROGRAM, IN A SANDBOX (cutbox-door.mjs). By AI agents, Wed Nov 11 2026. No macro, syntax, notation, axiom, sorry.
-/
import Derived.Test.YtaaokecdmbmgbaaGreatDoorRows
import GoSem.ClaimSeven
namespace Go.Proofs.YtaaokecdmbmgbaaGreatDoor
namespace Rows

/-- THE TIED CARD OF 'culpritlaw13.CoerceThens'. -/
def coerceThensCard : Claim7 := { stood := { row := coerceThensRow, standIns := [], harness := (true, "46bc83fab86d588fcf653452717507d6d3be721a65a97c2808f40850cf6a9226"), looks := true }, kinds := [], alts := [], laidByText := true, laidKinds := [.data, .data, .data], laidTests := true, laidLooks := .later }
def CoerceThensCardSaid : Prop := Claim7.holds Tryz.pinned (.plain (OpenSpec.ofChange coerceThensSpec)) coerceThensCard

/-- THE TIED CARD OF 'culpritlaw13.CoerceTexts'. -/
def coerceTextsCard : Claim7 := { stood := { row := coerceTextsRow, standIns := [], harness := (true, "46bc83fab86d588fcf653452717507d6d3be721a65a97c2808f40850cf6a9226"), looks := true }, kinds := [], alts := [], laidByText := true, laidKinds := [.data, .data, .data, .data, .sentinel, .sentinel, .pinned], laidTests := true, laidLooks := .later }
def CoerceTextsCardSaid : Prop := Claim7.holds Tryz.pinned (.plain (OpenSpec.ofChange coerceTextsSpec)) coerceTextsCard

/-- THE SECOND FORM's CARD OF 'culpritlaw13.CoerceThens'. -/
def coerceThensUptoCard : Claim7 := { stood := { row := coerceThensUptoRow, standIns := [], harness := (true, "46bc83fab86d588fcf653452717507d6d3be721a65a97c2808f40850cf6a9226"), looks := true }, kinds := [], alts := [], laidByText := true, laidKinds := [.data, .data, .data], laidTests := true, laidLooks := .later }
def CoerceThensUptoCardSaid : Prop := Claim7.holds Tryz.pinned (.plain (OpenSpec.upto coerceThensSpec)) coerceThensUptoCard

/-- THE SECOND FORM's CARD OF 'culpritlaw13.CoerceTexts'. -/
def coerceTextsUptoCard : Claim7 := { stood := { row := coerceTextsUptoRow, standIns := [], harness := (true, "46bc83fab86d588fcf653452717507d6d3be721a65a97c2808f40850cf6a9226"), looks := true }, kinds := [], alts := [], laidByText := true, laidKinds := [.data, .data, .data, .data, .sentinel, .sentinel, .pinned], laidTests := true, laidLooks := .later }
def CoerceTextsUptoCardSaid : Prop := Claim7.holds Tryz.pinned (.plain (OpenSpec.upto coerceTextsSpec)) coerceTextsUptoCard
end Rows
end Go.Proofs.YtaaokecdmbmgbaaGreatDoor
