/-
  DERIVED. GIVEN WITH THE SEED: THE CARDS: each row of YtaaokecdmbmgbaaDoorRows.lean that lists a variable, with what it lists TIED to the program's text (the seventh form; the later family's looks); each row that meets fmt, with fmt's text TOLD by the authors' own Lean function (tested against real Go, not proved from fmt's source: count such statements apart). THE CARD IS WHAT COUNTS. Prove the row's statement (the work); the ties are given (YtaaokecdmbmgbaaDoorTie.lean); close each card by the builder's one call (the guide's Derived/Test/ToyasCard.lean, 'card_holds'). Laid BY PROGRAM, IN A SANDBOX (cutbox-door.mjs). By AI agents, Wed Nov 11 2026. No macro, syntax, notation, axiom, sorry.
-/
import Derived.Test.YtaaokecdmbmgbaaDoorRows
import GoSem.ClaimSeven
namespace Go.Proofs.YtaaokecdmbmgbaaDoor
namespace Rows

/-- THE TIED CARD OF 'culpritlaw13.CoerceOf'. -/
def coerceOfCard : Claim7 := { stood := { row := coerceOfRow, standIns := [], harness := (true, "6dd9021cd6ff4b26412d3134c0630335c0ff5ab5848a93e65b5c013d556b8ebb"), looks := true }, kinds := [], alts := [], laidByText := true, laidKinds := [.data, .data, .data], laidTests := true, laidLooks := .later }
def CoerceOfCardSaid : Prop := Claim7.holds Tryd.pinned (.plain (OpenSpec.ofChange coerceOfSpec)) coerceOfCard

/-- THE TIED CARD OF 'culpritlaw13.CoerceMays'. -/
def coerceMaysCard : Claim7 := { stood := { row := coerceMaysRow, standIns := [], harness := (true, "6dd9021cd6ff4b26412d3134c0630335c0ff5ab5848a93e65b5c013d556b8ebb"), looks := true }, kinds := [], alts := [], laidByText := true, laidKinds := [.data, .data, .data], laidTests := true, laidLooks := .later }
def CoerceMaysCardSaid : Prop := Claim7.holds Tryd.pinned (.plain (OpenSpec.ofChange coerceMaysSpec)) coerceMaysCard

/-- THE TIED CARD OF 'culpritlaw13.CoerceLaws'. -/
def coerceLawsCard : Claim7 := { stood := { row := coerceLawsRow, standIns := [], harness := (true, "6dd9021cd6ff4b26412d3134c0630335c0ff5ab5848a93e65b5c013d556b8ebb"), looks := true }, kinds := [], alts := [], laidByText := true, laidKinds := [.data, .data, .data], laidTests := true, laidLooks := .later }
def CoerceLawsCardSaid : Prop := Claim7.holds Tryd.pinned (.plain (OpenSpec.ofChange coerceLawsSpec)) coerceLawsCard

/-- THE TIED CARD OF 'culpritlaw13.CoerceThrice'. -/
def coerceThriceCard : Claim7 := { stood := { row := coerceThriceRow, standIns := [], harness := (true, "6dd9021cd6ff4b26412d3134c0630335c0ff5ab5848a93e65b5c013d556b8ebb"), looks := true }, kinds := [], alts := [], laidByText := true, laidKinds := [.data, .data, .data], laidTests := true, laidLooks := .later }
def CoerceThriceCardSaid : Prop := Claim7.holds Tryd.pinned (.plain (OpenSpec.ofChange coerceThriceSpec)) coerceThriceCard

/-- THE SECOND FORM's CARD OF 'culpritlaw13.CoerceOf'. -/
def coerceOfUptoCard : Claim7 := { stood := { row := coerceOfUptoRow, standIns := [], harness := (true, "6dd9021cd6ff4b26412d3134c0630335c0ff5ab5848a93e65b5c013d556b8ebb"), looks := true }, kinds := [], alts := [], laidByText := true, laidKinds := [.data, .data, .data], laidTests := true, laidLooks := .later }
def CoerceOfUptoCardSaid : Prop := Claim7.holds Tryd.pinned (.plain (OpenSpec.upto coerceOfSpec)) coerceOfUptoCard

/-- THE SECOND FORM's CARD OF 'culpritlaw13.CoerceMays'. -/
def coerceMaysUptoCard : Claim7 := { stood := { row := coerceMaysUptoRow, standIns := [], harness := (true, "6dd9021cd6ff4b26412d3134c0630335c0ff5ab5848a93e65b5c013d556b8ebb"), looks := true }, kinds := [], alts := [], laidByText := true, laidKinds := [.data, .data, .data], laidTests := true, laidLooks := .later }
def CoerceMaysUptoCardSaid : Prop := Claim7.holds Tryd.pinned (.plain (OpenSpec.upto coerceMaysSpec)) coerceMaysUptoCard

/-- THE SECOND FORM's CARD OF 'culpritlaw13.CoerceLaws'. -/
def coerceLawsUptoCard : Claim7 := { stood := { row := coerceLawsUptoRow, standIns := [], harness := (true, "6dd9021cd6ff4b26412d3134c0630335c0ff5ab5848a93e65b5c013d556b8ebb"), looks := true }, kinds := [], alts := [], laidByText := true, laidKinds := [.data, .data, .data], laidTests := true, laidLooks := .later }
def CoerceLawsUptoCardSaid : Prop := Claim7.holds Tryd.pinned (.plain (OpenSpec.upto coerceLawsSpec)) coerceLawsUptoCard

/-- THE SECOND FORM's CARD OF 'culpritlaw13.CoerceThrice'. -/
def coerceThriceUptoCard : Claim7 := { stood := { row := coerceThriceUptoRow, standIns := [], harness := (true, "6dd9021cd6ff4b26412d3134c0630335c0ff5ab5848a93e65b5c013d556b8ebb"), looks := true }, kinds := [], alts := [], laidByText := true, laidKinds := [.data, .data, .data], laidTests := true, laidLooks := .later }
def CoerceThriceUptoCardSaid : Prop := Claim7.holds Tryd.pinned (.plain (OpenSpec.upto coerceThriceSpec)) coerceThriceUptoCard
end Rows
end Go.Proofs.YtaaokecdmbmgbaaDoor
