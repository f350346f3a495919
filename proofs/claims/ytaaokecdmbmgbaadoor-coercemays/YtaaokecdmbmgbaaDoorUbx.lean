/- For every list of nodes and every two texts, CoerceMays returns true: whether the list may be, how high it is, whether it is an identity and whether it goes from the one type to the other is as the document says, and the list stays. Conditions: the listed variables of the library start as the program's text lays them. -/
import Derived.Test.YtaaokecdmbmgbaaDoorUbw
import Derived.Test.YtaaokecdmbmgbaaDoorUbv
import Derived.Test.YtaaokecdmbmgbaaDoorTie
import Derived.Test.YtaaokecdmbmgbaaDoorCards
import Derived.SevenTiedAt
import Derived.SizedLaws
import Derived.LaidMore
import Derived.ProofKit
import Derived.OpenShut
import Derived.Lay
import Derived.Stop.Joined
import Derived.Stop.LaidErr
namespace Go.Proofs.YtaaokecdmbmgbaaDoor
open Go.ChangeShapes Go.WideShapes Go.ChangeAt Go.RowKit Cc

theorem ownKnobs : ownKnob Tryd.prog.godebug = none := by kernel_rfl
theorem laidOutAll : laidOutB Tryd.prog = true := by kernel_rfl
/-- The three variables that the statement lists. -/
abbrev laidThree : List (String × DataW Unit) := [("math/bits.deBruijn32tab", Rows.laid_math_bits_deBruijn32tab), ("math/bits.deBruijn64tab", Rows.laid_math_bits_deBruijn64tab), ("internal/strconv.uint64pow10", Rows.laid_internal_strconv_uint64pow10)]
theorem laid_met3 (os : Os) (args : Array Value) : laidMetH Tryd.prog laidThree ((World.laidAll Tryd.prog os laidThree).forCall (fun _ _ => 0) ⟨#[], args, []⟩).memory := by
  rw [MakeChecks.laidMetH_plain _ _ _ (by kernel_rfl)]
  exact laidMet_laidAll _ (by kernel_rfl) (by kernel_rfl)

end Go.Proofs.YtaaokecdmbmgbaaDoor
