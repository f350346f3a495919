/-
  DERIVED. GIVEN WITH THE SEED: THE CARDS: each row of YtkmoeflodafoeaaGreatDoorRows.lean that lists a variable, with what it lists TIED to the program's text (the seventh form; the later family's looks); each row that meets fmt, with fmt's text TOLD by the authors' own Lean function (tested against real Go, not proved from fmt's source: count such statements apart). THE CARD IS WHAT COUNTS. Prove the row's statement (the work); the ties are given (YtkmoeflodafoeaaGreatDoorTie.lean); close each card by the builder's one call (the guide's Derived/Test/ToyasCard.lean, 'card_holds'). Laid BY PROGRAM, IN A SANDBOX (cutbox-door.mjs). By AI agents, Wed Nov 11 2026. No macro, syntax, notation, axiom, sorry.
-/
import Derived.Test.YtkmoeflodafoeaaGreatDoorRows
import GoSem.ClaimSeven
namespace Go.Proofs.YtkmoeflodafoeaaGreatDoor
namespace Rows

/-- THE TIED CARD OF 'culpritlaw14.ValuePlays'. -/
def valuePlaysCard : Claim7 := { stood := { row := valuePlaysRow, standIns := [], harness := (true, "2a906177968a4d2458153da4d6942e519875a1ca139becc36d13b43802db8217"), looks := true }, kinds := [], alts := [], laidByText := true, laidKinds := [.data, .data, .data, .data, .data, .data, .data, .data, .data, .data], laidTests := true, laidLooks := .later }
def ValuePlaysCardSaid : Prop := Claim7.holds Tryz.pinned (.plain (OpenSpec.ofChange valuePlaysSpec)) valuePlaysCard

/-- THE TIED CARD OF 'culpritlaw14.ValueBoth'. -/
def valueBothCard : Claim7 := { stood := { row := valueBothRow, standIns := [], harness := (true, "2a906177968a4d2458153da4d6942e519875a1ca139becc36d13b43802db8217"), looks := true }, kinds := [], alts := [], laidByText := true, laidKinds := [.data, .data, .data], laidTests := true, laidLooks := .later }
def ValueBothCardSaid : Prop := Claim7.holds Tryz.pinned (.plain (OpenSpec.ofChange valueBothSpec)) valueBothCard

/-- THE TIED CARD OF 'culpritlaw14.ValueNone'. -/
def valueNoneCard : Claim7 := { stood := { row := valueNoneRow, standIns := [], harness := (true, "2a906177968a4d2458153da4d6942e519875a1ca139becc36d13b43802db8217"), looks := true }, kinds := [], alts := [], laidByText := true, laidKinds := [.data, .data, .data, .data, .data, .data, .data], laidTests := true, laidLooks := .later }
def ValueNoneCardSaid : Prop := Claim7.holds Tryz.pinned (.plain (OpenSpec.ofChange valueNoneSpec)) valueNoneCard

/-- THE SECOND FORM's CARD OF 'culpritlaw14.ValuePlays'. -/
def valuePlaysUptoCard : Claim7 := { stood := { row := valuePlaysUptoRow, standIns := [], harness := (true, "2a906177968a4d2458153da4d6942e519875a1ca139becc36d13b43802db8217"), looks := true }, kinds := [], alts := [], laidByText := true, laidKinds := [.data, .data, .data, .data, .data, .data, .data, .data, .data, .data], laidTests := true, laidLooks := .later }
def ValuePlaysUptoCardSaid : Prop := Claim7.holds Tryz.pinned (.plain (OpenSpec.upto valuePlaysSpec)) valuePlaysUptoCard

/-- THE SECOND FORM's CARD OF 'culpritlaw14.ValueBoth'. -/
def valueBothUptoCard : Claim7 := { stood := { row := valueBothUptoRow, standIns := [], harness := (true, "2a906177968a4d2458153da4d6942e519875a1ca139becc36d13b43802db8217"), looks := true }, kinds := [], alts := [], laidByText := true, laidKinds := [.data, .data, .data], laidTests := true, laidLooks := .later }
def ValueBothUptoCardSaid : Prop := Claim7.holds Tryz.pinned (.plain (OpenSpec.upto valueBothSpec)) valueBothUptoCard

/-- THE SECOND FORM's CARD OF 'culpritlaw14.ValueNone'. -/
def valueNoneUptoCard : Claim7 := { stood := { row := valueNoneUptoRow, standIns := [], harness := (true, "2a906177968a4d2458153da4d6942e519875a1ca139becc36d13b43802db8217"), looks := true }, kinds := [], alts := [], laidByText := true, laidKinds := [.data, .data, .data, .data, .data, .data, .data], laidTests := true, laidLooks := .later }
def ValueNoneUptoCardSaid : Prop := Claim7.holds Tryz.pinned (.plain (OpenSpec.upto valueNoneSpec)) valueNoneUptoCard
end Rows
end Go.Proofs.YtkmoeflodafoeaaGreatDoor
