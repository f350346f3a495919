/- The law's butPlaces of lists that hold the same, their places apart. -/
import Derived.Test.YtjddbiabkobfoaaDoorRefLike
namespace Go.Proofs.YtjddbiabkobfoaaDoor
open Go.RowKit
set_option maxRecDepth 100000

set_option maxHeartbeats 4000000 in
theorem butPlaces_same (w : World) (a c : Option Addr) (ca cc n : Nat) (hn : n ≤ 65536) (f g : Nat → Int × Int × ByteArray × Int × Int) (h1 : Rows5 w 5 a n f) (h2 : Rows5 w 5 c n g)
    (hs : ∀ i, i < n → (f i).1 = (g i).1 ∧ (f i).2.1 = (g i).2.1 ∧ (f i).2.2.1 = (g i).2.2.1) :
    Calls Tryd.prog 21 #[.slice a n ca, .slice c n cc] w fun e w' => e = .returned (.bool true) ∧ Below w.heap.size w w' := by
  go_enter Tryd.func21, Tryd.ntmps21
  go_wp2_with fail
  go_loopg [5] n (fun q t wr => (Rows5 wr 5 a n f ∧ Rows5 wr 5 c n g ∧ Below w.heap.size w wr) ∧ ∃ i : Nat, i + q = n ∧ t = .int .i64 i)
  case atStart => exact ⟨⟨h1, h2, Below.refl _ _⟩, 0, by omega, rfl⟩
  case round =>
    obtain ⟨⟨hr, hr2, hB⟩, i, hig, rfl⟩ := hrel
    clear h1 h2
    have hBs := hB.size
    have hi0 : (0 : Int) ≤ (i : Int) := by omega
    by_cases hi : i < n
    · have hi' : (i : Int) < (n : Int) := by omega
      obtain ⟨g1, rfl, a0, a1, a2, -, -⟩ := hr i hi
      obtain ⟨g2, rfl, b0, b1, b2, -, -⟩ := hr2 i hi
      obtain ⟨s0, s1, s2⟩ := hs i hi
      rw [← s0] at b0
      rw [← s1] at b1
      rw [← s2] at b2
      clear s0 s1 s2
      generalize f i = x at *
      obtain ⟨x0, x1, x2, x3, x4⟩ := x
      simp only at a0 a1 a2 b0 b1 b2
      go_wp2_with fail
      go_quiet (fail)
      go_wp2_with fail
      go_roundg (gk - 1)
      case measure => omega
      case rel => exact ⟨⟨hr, hr2, hB.grown (grownBy_drewN (grownBy_refl _ none) _) hBs (fun _ e => by cases e)⟩, i + 1, by omega, by go_num⟩
    · have hi' : decide ((i : Int) < (n : Int)) = false := by simp; omega
      go_wp2_with fail
      go_ret
      exact ⟨rfl, hB⟩
end Go.Proofs.YtjddbiabkobfoaaDoor
