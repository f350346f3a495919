/- The rest of RelateOrder from a region on, taken out of the translation by a function. -/
import Derived.Test.YtgkmoifibcmooaaRelI
namespace Go.Proofs.Ytgkmoifibcmooaa
open Go.RowKit

/-- The code from this region on. -/
def tailAt (n : Nat) : Code → Option Code
  | .seq (.region m ops d) b => if m = n then some (.seq (.region m ops d) b) else tailAt n b
  | .seq a b => match tailAt n a with
    | some c => some c
    | none => tailAt n b
  | _ => none
/-- The statement whose first part is an if's test at this region, and what follows. -/
def ifAt (n : Nat) : Code → Option (Code × Code × Code)
  | .seq (.seq (.region m ops d) c) b => if m = n then some (.region m ops d, c, b) else ifAt n b
  | .seq _ b => ifAt n b
  | _ => none
noncomputable def tst5 : Code := ((Try.f4.body.bind (ifAt 5)).getD (.skip, .skip, .skip)).1
noncomputable def cnd5 : Code := ((Try.f4.body.bind (ifAt 5)).getD (.skip, .skip, .skip)).2.1
noncomputable def end5 : Code := ((Try.f4.body.bind (ifAt 5)).getD (.skip, .skip, .skip)).2.2
noncomputable def reg4 (n : Nat) : Code := match Try.f4.body.bind (tailAt n) with
  | some (.seq a _) => a
  | _ => .skip
noncomputable def rest4 (n : Nat) : Code := match Try.f4.body.bind (tailAt n) with
  | some (.seq _ b) => b
  | _ => .skip
end Go.Proofs.Ytgkmoifibcmooaa
