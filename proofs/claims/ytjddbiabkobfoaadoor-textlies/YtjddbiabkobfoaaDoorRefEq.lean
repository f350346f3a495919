/- The document's EqBytes of the same bytes, SpareBytes of an untouched spare. -/
import Derived.Test.YtjddbiabkobfoaaDoorRefTk
namespace Go.Proofs.YtjddbiabkobfoaaDoor
open Go.RowKit
set_option maxRecDepth 100000

set_option maxHeartbeats 2000000 in
theorem eqBytes_same (w : World) (b off cap b2 off2 cap2 : Nat) (bs : List UInt8) (hl : bs.length ≤ 2147483647) (hc : Lies w b off bs) (hc2 : Lies w b2 off2 bs) :
    Calls Tryd.prog 15 #[.slice (some ⟨b, off, none⟩) bs.length cap, .slice (some ⟨b2, off2, none⟩) bs.length cap2] w fun e w' => e = .returned (.bool true) ∧ Below w.heap.size w w' := by
  go_enter Tryd.func15, Tryd.ntmps15
  go_wp2_with fail
  go_loopg [5] bs.length (fun g t wr => (Lies wr b off bs ∧ Lies wr b2 off2 bs ∧ Below w.heap.size w wr) ∧ ∃ i : Nat, i + g = bs.length ∧ t = .int .i64 i)
  case atStart => exact ⟨⟨hc, hc2, Below.refl _ _⟩, 0, by omega, rfl⟩
  case round =>
    obtain ⟨⟨hr, hr2, hB⟩, i, hig, rfl⟩ := hrel
    clear hc hc2
    have hBs := hB.size
    have hi0 : (0 : Int) ≤ (i : Int) := by omega
    by_cases hi : i < bs.length
    · have hi' : (i : Int) < (bs.length : Int) := by omega
      have c1 := hr i hi
      have c2 := hr2 i hi
      generalize Tx.B bs i = c at *
      go_wp2_with fail
      go_quiet (fail)
      go_wp2_with fail
      go_roundg (gk - 1)
      case measure => omega
      case rel => exact ⟨⟨hr, hr2, hB.grown (grownBy_drewN (grownBy_refl _ none) _) hBs (fun _ e => by cases e)⟩, i + 1, by omega, by go_num⟩
    · have hi' : decide ((i : Int) < (bs.length : Int)) = false := by simp; omega
      go_wp2_with fail
      go_ret
      exact ⟨rfl, hB⟩
end Go.Proofs.YtjddbiabkobfoaaDoor
