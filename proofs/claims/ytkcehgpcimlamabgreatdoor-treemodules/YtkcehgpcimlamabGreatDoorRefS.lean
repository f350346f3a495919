/- The statements' own helpers on lists of nodes: how much there is. -/
import Derived.Test.YtkcehgpcimlamabGreatDoorRefI
namespace Go.Proofs.YtkcehgpcimlamabGreatDoor
open Go.RowKit
set_option maxRecDepth 100000
set_option linter.unusedSimpArgs false

/-- The texts of a list are no longer than what fits into memory. -/
def Texts (l : List Tr.Nd) : Prop := ∀ x ∈ l, x.s.size ≤ 140737488355328 ∧ x.t.size ≤ 140737488355328 ∧ x.u.size ≤ 140737488355328

set_option maxHeartbeats 2000000 in
theorem sizeNodes_any (l : List Tr.Nd) (hlen : l.length ≤ 2199023255552) (hT : Texts l) (v : Value) (w : World) (hl : IsNodes w v l) :
    Calls Tryz.prog 18 #[v] w fun e w' => ∃ z : Nat, e = .returned (.int .i64 (z : Int)) ∧ l.length ≤ z ∧ z ≤ 4611686018427387904 ∧ ∃ n, w' = w.drewN n := by
  obtain ⟨a, c, rfl⟩ := hl.form
  go_enter Tryz.func18, Tryz.ntmps18
  go_wp2_with fail
  go_loopg [3, 4] l.length (fun g s t wr => ∃ k z n : Nat, k + g = l.length ∧ t = .int .i64 (k : Int) ∧ s = .int .i64 (z : Int) ∧ l.length ≤ z ∧ z ≤ 4611686018427387904 ∧ wr = w.drewN n)
  case atStart => exact ⟨0, l.length, 0, by omega, rfl, rfl, by omega, by omega, rfl⟩
  case round =>
    obtain ⟨k, z, n, hkg, rfl, rfl, hlz, hz, rfl⟩ := hrel
    by_cases hk : k < l.length
    · have hk' : (k : Int) < (l.length : Int) := by omega
      have hk0 : (0 : Int) ≤ (k : Int) := by omega
      by_cases hz2 : z ≤ 2147483647
      · have hz2' : (z : Int) ≤ 2147483647 := by omega
        obtain ⟨x, hx, hdx⟩ := getc hk
        obtain ⟨b1, o1, rfl, hc1, hl1, hcx⟩ := hl.at hx
        obtain ⟨p0, p1, p2, p3, p4, p5, p6, p7⟩ := agg_cells (o := o1 + k * 8) hcx
        obtain ⟨t1, t2, t3⟩ := hT x (List.mem_of_getElem? hx)
        have e1 : IntKind.i64.wrap ((z : Int) + (x.s.size : Int)) = (z : Int) + (x.s.size : Int) := IntWalk.i64_in _ (by omega)
        have e2 : IntKind.i64.wrap ((z : Int) + (x.s.size : Int) + (x.t.size : Int)) = (z : Int) + (x.s.size : Int) + (x.t.size : Int) := IntWalk.i64_in _ (by omega)
        have e3 : IntKind.i64.wrap ((z : Int) + (x.s.size : Int) + (x.t.size : Int) + (x.u.size : Int)) = (z : Int) + (x.s.size : Int) + (x.t.size : Int) + (x.u.size : Int) := IntWalk.i64_in _ (by omega)
        clear hcx hdx hx hl hT
        go_wp2_with fail
        go_quiet (fail)
        go_wp2_with fail
        go_roundg (l.length - (k + 1))
        case measure => omega
        case rel => exact ⟨k + 1, z + x.s.size + x.t.size + x.u.size, _, by omega, by go_num, by go_num, by omega, by omega, by first | rfl | exact World.drewN_drewN⟩
      · have hz2' : decide ((z : Int) ≤ 2147483647) = false := by simp; omega
        go_wp2_with fail
        go_ret
        exact ⟨z, rfl, hlz, hz, n, rfl⟩
    · have hk' : ¬ (k : Int) < (l.length : Int) := by omega
      have hk2 : decide ((k : Int) < (l.length : Int)) = false := by simpa using hk'
      go_wp2_with fail
      go_ret
      exact ⟨z, rfl, hlz, hz, n, rfl⟩

end Go.Proofs.YtkcehgpcimlamabGreatDoor
