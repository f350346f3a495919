/- What the program's Height answers. -/
import Derived.Test.YthdlfeejeboboaaGreatDoorUad
namespace Go.Proofs.YthdlfeejeboboaaGreatDoor.T3
set_option maxRecDepth 100000
open Go.RowKit

namespace Tp
def mx : List Ty → Nat
  | [] => 0
  | a :: r => max (high a) (mx r)
end Tp

theorem own_at {W : World} {base n : Nat} {v : Value} {ps : List (List UInt8)} (h : W.ownsRow base 9 1 v n (tcells ps)) (hn : n = ps.length) : IsTexts W v ps := by subst hn; exact IsTexts.own h

end Go.Proofs.YthdlfeejeboboaaGreatDoor.T3
