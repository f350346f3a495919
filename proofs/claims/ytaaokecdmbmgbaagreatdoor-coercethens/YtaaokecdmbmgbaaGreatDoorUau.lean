/- Package coerce: high, Height, IsId. -/
import Derived.Test.YtaaokecdmbmgbaaGreatDoorUat
namespace Go.Proofs.YtaaokecdmbmgbaaGreatDoor
open Go.RowKit Cc
set_option maxRecDepth 100000
set_option linter.unusedSimpArgs false
set_option linter.unusedVariables false
namespace Cc
def high0 : Option C → Nat
  | some c => high c
  | none => 0
end Cc
end Go.Proofs.YtaaokecdmbmgbaaGreatDoor
