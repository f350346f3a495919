/- The law's alike of lists that hold the same. -/
import Derived.Test.YtjddbiabkobfoaaDoorRefToks
namespace Go.Proofs.YtjddbiabkobfoaaDoor
open Go.RowKit
set_option maxRecDepth 100000

/-- A row of n pieces of z cells each lies in a world: its first five cells are those of f. -/
def Rows5 (w : World) (z : Nat) (a : Option Addr) (n : Nat) (f : Nat → Int × Int × ByteArray × Int × Int) : Prop :=
  ∀ i, i < n → ∃ g, a = some ⟨g, 0, none⟩ ∧ w.cell? ⟨g, i * z, none⟩ = some (.int .i8 (f i).1) ∧ w.cell? ⟨g, i * z + 1, none⟩ = some (.int .i64 (f i).2.1) ∧ w.cell? ⟨g, i * z + 2, none⟩ = some (.string (f i).2.2.1) ∧ w.cell? ⟨g, i * z + 3, none⟩ = some (.int .i64 (f i).2.2.2.1) ∧ w.cell? ⟨g, i * z + 4, none⟩ = some (.int .i64 (f i).2.2.2.2)

set_option maxHeartbeats 4000000 in
theorem alike_same (w : World) (a c : Option Addr) (ca cc n : Nat) (hn : n ≤ 65536) (f : Nat → Int × Int × ByteArray × Int × Int) (h1 : Rows5 w 5 a n f) (h2 : Rows5 w 7 c n f) :
    Calls Tryd.prog 14 #[.slice a n ca, .slice c n cc] w fun e w' => e = .returned (.bool true) ∧ Below w.heap.size w w' := by
  go_enter Tryd.func14, Tryd.ntmps14
  go_wp2_with fail
  go_loopg [5] n (fun g t wr => (Rows5 wr 5 a n f ∧ Rows5 wr 7 c n f ∧ Below w.heap.size w wr) ∧ ∃ i : Nat, i + g = n ∧ t = .int .i64 i)
  case atStart => exact ⟨⟨h1, h2, Below.refl _ _⟩, 0, by omega, rfl⟩
  case round =>
    obtain ⟨⟨hr, hr2, hB⟩, i, hig, rfl⟩ := hrel
    clear h1 h2
    have hBs := hB.size
    have hi0 : (0 : Int) ≤ (i : Int) := by omega
    by_cases hi : i < n
    · have hi' : (i : Int) < (n : Int) := by omega
      obtain ⟨g1, rfl, a0, a1, a2, a3, a4⟩ := hr i hi
      obtain ⟨g2, rfl, b0, b1, b2, b3, b4⟩ := hr2 i hi
      generalize f i = x at *
      obtain ⟨x0, x1, x2, x3, x4⟩ := x
      simp only at a0 a1 a2 a3 a4 b0 b1 b2 b3 b4
      go_wp2_with fail
      go_quiet (fail)
      go_wp2_with fail
      go_roundg (gk - 1)
      case measure => omega
      case rel => exact ⟨⟨hr, hr2, hB.grown (grownBy_drewN (grownBy_refl _ none) _) hBs (fun _ e => by cases e)⟩, i + 1, by omega, by go_num⟩
    · have hi' : decide ((i : Int) < (n : Int)) = false := by simp; omega
      go_wp2_with fail
      go_ret
      exact ⟨rfl, hB⟩
end Go.Proofs.YtjddbiabkobfoaaDoor
