/- Who is blamed, in words: the document's Text. -/
import Derived.Test.YteaolcfpdhlohaaDoorLbK
namespace Go.Proofs.YteaolcfpdhlohaaDoor
open Go.RowKit
set_option maxRecDepth 100000
set_option linter.unusedSimpArgs false
attribute [local go_sem ↓] Go.wp_at_zero Go.wp_at_succ

set_option maxHeartbeats 4000000 in
theorem refText_none (l : List Lb.Si) (hlen : l.length ≤ 2199023255552) (b : Int) (h : -9223372036854775808 ≤ b) (h' : b ≤ 9223372036854775807) (hs : Lb.site l b = none) (v : Value) (w : World) (hl : IsSites w v l) :
    Calls Tryd.prog 16 #[v, .int .i64 b] w fun e w' => e = .returned (.tuple #[.string ⟨#[]⟩, .int .i64 1]) ∧ Below w.heap.size w w' := by
  have hof := refOf_none l hlen b h h' hs v w hl
  clear hs hl
  go_enter Tryd.func16, Tryd.ntmps16
  go_wp2_with (go_at_call 12; refine hof.mono ?_; rintro e w1 ⟨rfl, hB1⟩)
  go_ret2
  exact ⟨rfl, by repeat (first | exact hB1 | exact Below.refl _ _ | refine bset ?_ | refine balloc ?_ _)⟩
end Go.Proofs.YteaolcfpdhlohaaDoor
