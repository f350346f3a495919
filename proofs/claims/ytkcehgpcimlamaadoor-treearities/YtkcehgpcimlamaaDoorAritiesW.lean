/- The call of TreeArities: it returns true. -/
import Derived.Test.YtkcehgpcimlamaaDoorWorks
namespace Go.Proofs.YtkcehgpcimlamaaDoor
open Go.RowKit
set_option maxRecDepth 100000
set_option linter.unusedSimpArgs false

set_option maxHeartbeats 1000000 in
theorem treeArities_any (w : World) : Calls Tryd.prog 4 #[] w fun e w' => e = .returned (.bool true) ∧ Below w.heap.size w w' := by
  go_enter Tryd.func4, Tryd.ntmps4
  go_wp2_with fail
  go_loopg [1] 256 (fun g t wr => w = wr ∧ ∃ k : Int, k + g = 128 ∧ -128 ≤ k ∧ t = .int .i64 k)
  case atStart => exact ⟨rfl, -128, by omega, by omega, rfl⟩
  case round =>
    obtain ⟨rfl, k, hkg, hk0, rfl⟩ := hrel
    by_cases hk : k < 128
    · go_wp2_with (first | (go_at_call 16; refine (arity_any _ _).mono ?_; rintro e w' ⟨rfl, hw'⟩; replace hw' := hw'.symm; subst hw') | (go_at_call 17; refine (refArity_any _ _).mono ?_; rintro e w' ⟨rfl, hw'⟩; replace hw' := hw'.symm; subst hw'))
      go_roundg (gk - 1)
      case measure => omega
      case rel => exact ⟨rfl, k + 1, by omega, by omega, rfl⟩
    · go_wp2_with (go_at_call 8; refine (works_any _).mono ?_; rintro e w' ⟨rfl, hB⟩)
      go_ret
      exact ⟨rfl, hB⟩
end Go.Proofs.YtkcehgpcimlamaaDoor
