/- The document's Goes. -/
import Derived.Test.YtaaokecdmbmgbaaDoorUbk
import Derived.Test.YtaaokecdmbmgbaaDoorUbl
import Derived.Test.YtaaokecdmbmgbaaDoorUbm
import Derived.Test.YtaaokecdmbmgbaaDoorUbn
import Derived.Test.YtaaokecdmbmgbaaDoorUbo
import Derived.Test.YtaaokecdmbmgbaaDoorUbp
namespace Go.Proofs.YtaaokecdmbmgbaaDoor
open Go.RowKit Cc
theorem dGoesP_any : ∀ c : C, DgC c
  | .any => dGoes_any
  | .bs p j h => dGoes_bs p j h
  | .fl p h l g => dGoes_fl p h l g
  | .ls p j a => dGoes_ls p j a (dGoesP_any a)
  | .tw .fn p j a d => dGoes_fn p j a d (dGoesP_any a) (dGoesP_any d)
  | .tw .pr p j a d => dGoes_pr p j a d (dGoesP_any a) (dGoesP_any d)
  | .tw .bx p j a d => dGoes_bx p j a d (dGoesP_any a) (dGoesP_any d)
end Go.Proofs.YtaaokecdmbmgbaaDoor
