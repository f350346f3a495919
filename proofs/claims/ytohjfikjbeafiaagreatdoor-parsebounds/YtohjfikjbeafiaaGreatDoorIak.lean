/- The two sources with many imports, and the two long ones, as the grammar reads them. -/
import Derived.Test.YtohjfikjbeafiaaGreatDoorIaj
namespace Go.Proofs.YtohjfikjbeafiaaGreatDoor
namespace Ps
set_option maxRecDepth 100000

theorem told9 : ToldM ([109, 111, 100, 117, 108, 101, 32, 109, 32, 123] ++ reps [105, 109, 112, 111, 114, 116, 32, 97, 46, 98, 59] 63 ++ [108, 101, 116, 32, 120, 61, 49, 59, 125]) 0 0 0 := toldM_ok (by kernel_rfl)
theorem told10 : ToldM ([109, 111, 100, 117, 108, 101, 32, 109, 32, 123] ++ reps [105, 109, 112, 111, 114, 116, 32, 97, 46, 98, 59] 64 ++ [108, 101, 116, 32, 120, 61, 49, 59, 125]) 17 1 719 := .inr (by kernel_rfl)
end Ps
end Go.Proofs.YtohjfikjbeafiaaGreatDoor
