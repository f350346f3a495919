/- The document's SpareBytes of an untouched spare. -/
import Derived.Test.YtjddbiabkobfoaaDoorRefEq
namespace Go.Proofs.YtjddbiabkobfoaaDoor
open Go.RowKit
set_option maxRecDepth 100000

/-- The byte that lies at a place of the spare. -/
def spB (i : Nat) : Int := IntKind.u8.wrap (279 + 7 * (i : Int) + 3)
/-- The spare behind n bytes. -/
def Spare (w : World) (b off n : Nat) : Prop := ∀ j, n ≤ j → j < n + 64 → w.cell? ⟨b, off + j, none⟩ = some (.int .u8 (spB j))

set_option maxHeartbeats 2000000 in
theorem spare_any (w : World) (b off cap n : Nat) (hl : n ≤ 2147483647) (hcap : n + 64 ≤ cap) (hc : Spare w b off n) :
    Calls Tryd.prog 16 #[.slice (some ⟨b, off, none⟩) n cap] w fun e w' => e = .returned (.bool true) ∧ w' = w := by
  have hn1 : (n : Int) + 64 ≤ (cap : Int) := by omega
  have hn0 : (0 : Int) ≤ (n : Int) + 64 := by omega
  go_enter Tryd.func16, Tryd.ntmps16
  go_wp2_with fail
  go_loopg [4] 64 (fun g t wr => w = wr ∧ ∃ i : Nat, n ≤ i ∧ i + g = n + 64 ∧ t = .int .i64 i)
  case atStart => exact ⟨rfl, n, by omega, by omega, rfl⟩
  case round =>
    obtain ⟨rfl, i, hni, hig, rfl⟩ := hrel
    have hi0 : (0 : Int) ≤ (i : Int) := by omega
    by_cases hi : i < n + 64
    · have hi' : (i : Int) < ((n + 64 : Nat) : Int) := by omega
      have hi2 : (i : Int) < (n : Int) + 64 := by omega
      have c1 := hc i hni hi
      have he : (spB i == spB i) = true := by simp
      unfold spB at c1 he
      clear hc
      go_wp2_with fail
      go_roundg (gk - 1)
      case measure => omega
      case rel => exact ⟨rfl, i + 1, by omega, by omega, by go_num⟩
    · have hi' : decide ((i : Int) < (n : Int) + 64) = false := by simp; omega
      have hi2 : decide ((i : Int) < ((n + 64 : Nat) : Int)) = false := by simp; omega
      clear hc
      go_wp2_with fail
      go_ret
      exact ⟨rfl, rfl⟩
end Go.Proofs.YtjddbiabkobfoaaDoor
