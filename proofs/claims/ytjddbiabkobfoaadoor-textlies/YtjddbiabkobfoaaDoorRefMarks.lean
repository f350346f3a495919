/- What the document's Marks answers. -/
import Derived.Test.YtjddbiabkobfoaaDoorRefQd
namespace Go.Proofs.YtjddbiabkobfoaaDoor
open Go.RowKit
set_option maxRecDepth 100000

/-- The marks' cells. -/
def mcells : Array Value := (Tx.marks.map (fun l => Value.string ⟨l.toArray⟩)).toArray

set_option maxHeartbeats 2000000 in
theorem Marks_any (w : World) : Calls Tryd.prog 42 #[] w fun e w' => e = .returned (.slice (some ⟨w.heap.size, 0, none⟩) 22 22) ∧ w' = w.alloc (.cells mcells 9) := by
  go_enter Tryd.func42, Tryd.ntmps42
  go_wp2_with fail
  go_ret
  exact ⟨rfl, rfl⟩
end Go.Proofs.YtjddbiabkobfoaaDoor
