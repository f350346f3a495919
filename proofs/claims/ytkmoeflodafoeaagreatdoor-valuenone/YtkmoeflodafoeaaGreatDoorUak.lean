/- What the program's Height answers. -/
import Derived.Test.YtkmoeflodafoeaaGreatDoorUah
namespace Go.Proofs.YtkmoeflodafoeaaGreatDoor.T3
set_option maxRecDepth 100000
open Go.RowKit

namespace Tp
def mx : List Ty → Nat
  | [] => 0
  | a :: r => max (high a) (mx r)
theorem mx_app : ∀ (a b : List Ty), mx (a ++ b) = max (mx a) (mx b)
  | [], b => by simp [mx]
  | x :: r, b => by rw [List.cons_append, mx, mx, mx_app r b]; omega
theorem high_mx (t : Ty) : high t = mx (kids t) + 1 := by cases t <;> simp [high, kids, mx]
theorem mx_take {ks : List Ty} {k : Nat} {u : Ty} (h : ks[k]? = some u) : mx (ks.take (k + 1)) = max (mx (ks.take k)) (high u) := by
  rw [List.take_add_one, h, mx_app]; simp [mx]
theorem high_le : ∀ t : Ty, high t ≤ (enc t).length
  | .ti | .tb | .tt | .tq => by decide
  | .tl a => by have := high_le a; simp [high, enc]; omega
  | .tx a => by have := high_le a; simp [high, enc]; omega
  | .tf a b => by have := high_le a; have := high_le b; simp [high, enc]; omega
  | .tp a b => by have := high_le a; have := high_le b; simp [high, enc]; omega
end Tp

theorem own_at {W : World} {base n : Nat} {v : Value} {ps : List (List UInt8)} (h : W.ownsRow base 9 1 v n (tcells ps)) (hn : n = ps.length) : IsTexts W v ps := by subst hn; exact IsTexts.own h

end Go.Proofs.YtkmoeflodafoeaaGreatDoor.T3
