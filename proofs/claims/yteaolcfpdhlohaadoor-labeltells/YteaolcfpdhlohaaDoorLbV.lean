/- LabelTells returns true. -/
import Derived.Test.YteaolcfpdhlohaaDoorLbMn
import Derived.Test.YteaolcfpdhlohaaDoorLbMe
import Derived.Test.YteaolcfpdhlohaaDoorLbMb
import Derived.Test.YteaolcfpdhlohaaDoorLbMp
namespace Go.Proofs.YteaolcfpdhlohaaDoor
open Go.RowKit
set_option maxRecDepth 100000
set_option linter.unusedSimpArgs false

theorem refText_some (l : List Lb.Si) (hlen : l.length ≤ 2199023255552) (b : Int) (h : -9223372036854775808 ≤ b) (h' : b ≤ 9223372036854775807) (x : Lb.Si) (hs : Lb.site l b = some x)
    (hx : (x.m.size ≤ 1048576 ∧ x.e.size ≤ 1048576) ∧ (-9223372036854775808 ≤ x.ln ∧ x.ln ≤ 9223372036854775807) ∧ (-9223372036854775808 ≤ x.co ∧ x.co ≤ 9223372036854775807) ∧ (-9223372036854775808 ≤ x.ru ∧ x.ru ≤ 9223372036854775807))
    (v : Value) (w : World) (hl : IsSites w v l) (hT : Tab w) :
    Calls Tryd.prog 16 #[v, .int .i64 b] w fun e w' => e = .returned (.tuple #[.string (S (Lb.textF x b)), .int .i64 0]) ∧ Below w.heap.size w w' := by
  by_cases he : Lb.word x.ru = []
  · by_cases hr : x.ru = 18
    · rw [hr] at he; exact absurd he (by decide)
    · exact refText_e l hlen b h h' x hs hx he hr v w hl hT
  · by_cases hr : x.ru = 18
    · exact refText_b l hlen b h h' x hs hx he hr v w hl hT
    · exact refText_p l hlen b h h' x hs hx he hr v w hl hT
theorem Wide.keep {w w' : World} {g : Nat} {l : List Lb.Si} (h : Wide w g l) (hB : Below w.heap.size w w') : Wide w' g l := h.below hB
end Go.Proofs.YteaolcfpdhlohaaDoor
