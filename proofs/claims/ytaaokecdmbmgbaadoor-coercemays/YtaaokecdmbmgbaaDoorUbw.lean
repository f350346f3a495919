/- CoerceMays: the law's own walk. -/
import Derived.Test.YtaaokecdmbmgbaaDoorUbk
import Derived.Test.YtaaokecdmbmgbaaDoorUbq
import Derived.Test.YtaaokecdmbmgbaaDoorUbv
import Derived.Test.YtaaokecdmbmgbaaDoorUbu
namespace Go.Proofs.YtaaokecdmbmgbaaDoor
open Go.RowKit Cc
set_option maxRecDepth 100000
set_option linter.unusedSimpArgs false
set_option linter.unusedVariables false
theorem worksM_at (w W : World) (hW : Below w.heap.size w W) : Calls Tryd.prog 10 #[] W fun e w' => e = .returned (.bool true) ∧ Below w.heap.size w w' :=
  (works_any W).mono (by rintro e w' ⟨rfl, hB⟩; exact ⟨rfl, hW.trans (hB.mono hW.size)⟩)
end Go.Proofs.YtaaokecdmbmgbaaDoor
