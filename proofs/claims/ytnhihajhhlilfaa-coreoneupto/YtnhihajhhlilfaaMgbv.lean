/- The statements' own helpers on lists of nodes: likeness, the marks. The statements' own helpers on lists of nodes: how much there is. -/
import Derived.Test.YtnhihajhhlilfaaMgal
namespace Go.Proofs.Ytnhihajhhlilfaa
open Go.RowKit
set_option maxRecDepth 100000
set_option linter.unusedSimpArgs false

set_option maxHeartbeats 4000000 in
theorem eqNodes_same (l : List Tr.Nd) (hlen : l.length ≤ 2199023255552) (va vb : Value) (w : World) (hla : IsNodes w va l) (hlb : IsNodes w vb l) :
    Calls Try.prog 11 #[va, vb] w fun e w' => e = .returned (.bool true) ∧ ∃ n, w' = w.drewN n := by
  obtain ⟨a, c, rfl⟩ := hla.form
  obtain ⟨a2, c2, rfl⟩ := hlb.form
  have hne : ((l.length : Int) != (l.length : Int)) = false := by simp
  go_enter Try.func11, Try.ntmps11
  go_wp2_with fail
  clear hne
  go_loopg [5] l.length (fun g t wr => ∃ k n : Nat, k + g = l.length ∧ t = .int .i64 (k : Int) ∧ wr = w.drewN n)
  case atStart => exact ⟨0, 0, by omega, rfl, rfl⟩
  case round =>
    obtain ⟨k, n, hkg, rfl, rfl⟩ := hrel
    by_cases hk : k < l.length
    · have hk' : (k : Int) < (l.length : Int) := by omega
      have hk0 : (0 : Int) ≤ (k : Int) := by omega
      obtain ⟨x, hx, hdx⟩ := getc hk
      obtain ⟨b1, o1, rfl, hc1, hl1, hcx⟩ := hla.at hx
      obtain ⟨b2, o2, rfl, hc2, hl2, hcy⟩ := hlb.at hx
      obtain ⟨p0, p1, p2, p3, p4, p5, p6, p7⟩ := agg_cells (o := o1 + k * 8) hcx
      obtain ⟨q0, q1, q2, q3, q4, q5, q6, q7⟩ := agg_cells (o := o2 + k * 8) hcy
      clear hcx hcy hdx hx hla hlb
      go_wp2_with fail
      go_quiet (fail)
      go_wp2_with fail
      go_roundg (l.length - (k + 1))
      case measure => omega
      case rel => exact ⟨k + 1, _, by omega, by go_num, by first | rfl | exact World.drewN_drewN⟩
    · have hk' : ¬ (k : Int) < (l.length : Int) := by omega
      go_wp2_with fail
      go_ret
      exact ⟨rfl, n, rfl⟩

set_option maxHeartbeats 4000000 in
theorem spareNodes_any (l : List Tr.Nd) (hlen : l.length ≤ 2147483647) (g : Nat) (w : World) (hW : Wide w g l) :
    Calls Try.prog 12 #[.slice (some ⟨g, 0, none⟩) l.length (l.length + 64)] w fun e w' => e = .returned (.bool true) ∧ Below w.heap.size w w' := by
  have hn64 : (l.length : Int) + 64 ≤ ((l.length + 64 : Nat) : Int) := by omega
  have hn0 : (0 : Int) ≤ (l.length : Int) + 64 := by omega
  have hcast : ((l.length : Int) + 64).toNat = l.length + 64 := by omega
  go_enter Try.func12, Try.ntmps12
  go_wp2_with fail
  go_loopg [4] 64 (fun gg t wr => ∃ k : Nat, k + gg = l.length + 64 ∧ l.length ≤ k ∧ t = .int .i64 (k : Int) ∧ Below w.heap.size w wr)
  case atStart => exact ⟨l.length, by omega, by omega, rfl, Below.refl _ _⟩
  case round =>
    obtain ⟨k, hkg, hlk, rfl, hB⟩ := hrel
    by_cases hk : k < l.length + 64
    · have hk' : (k : Int) < ((l.length : Int) + 64) := by omega
      have hk0 : (0 : Int) ≤ (k : Int) := by omega
      have hcx := (hW.below hB).cells hk
      rw [wdN_out hlk] at hcx
      have p0 : wr.cell? ⟨g, k * 8, none⟩ = some (.int .i8 0) := hcx 0 _ rfl
      have p1 : wr.cell? ⟨g, k * 8 + 1, none⟩ = some (.int .i64 (1048576 * 9 + (k : Int) + 1)) := hcx 1 _ rfl
      have p2 : wr.cell? ⟨g, k * 8 + 2, none⟩ = some (.int .i64 0) := hcx 2 _ rfl
      have p3 : wr.cell? ⟨g, k * 8 + 3, none⟩ = some (.string ⟨#[]⟩) := hcx 3 _ rfl
      have p4 : wr.cell? ⟨g, k * 8 + 4, none⟩ = some (.string ⟨#[]⟩) := hcx 4 _ rfl
      have p5 : wr.cell? ⟨g, k * 8 + 5, none⟩ = some (.string ⟨#[]⟩) := hcx 5 _ rfl
      have p6 : wr.cell? ⟨g, k * 8 + 6, none⟩ = some (.int .i64 0) := hcx 6 _ rfl
      have p7 : wr.cell? ⟨g, k * 8 + 7, none⟩ = some (.int .i64 0) := hcx 7 _ rfl
      have hnum : ∀ w, Calls Try.prog 23 #[.int .i64 9, .int .i64 k] w fun e w' => e = .returned (.int .i64 (9437184 + (k : Int) + 1)) ∧ w' = w := num_any 9 k (by omega) (by omega)
      have hws := hB.size
      clear hcx hW
      go_wp2_with fail
      go_quiet ((go_at_call 23; exact Calls.quiet_of_same (hnum _)))
      go_wp2_with fail
      go_roundg (l.length + 64 - (k + 1))
      case measure => omega
      case rel => exact ⟨k + 1, by omega, by omega, by go_num, below_drewN (hB.alloc hws _) _⟩
    · have hk' : ¬ (k : Int) < ((l.length : Int) + 64) := by omega
      go_wp2_with fail
      go_ret
      exact ⟨rfl, hB⟩
end Go.Proofs.Ytnhihajhhlilfaa
namespace Go.Proofs.Ytnhihajhhlilfaa
open Go.RowKit
set_option maxRecDepth 100000
set_option linter.unusedSimpArgs false

set_option maxHeartbeats 400000 in
theorem long_any (z : Int) (w : World) : Calls Try.prog 20 #[.int .i64 z] w fun e w' => e = .returned (.bool (decide (2147483647 < z))) ∧ w' = w := by
  go_enter Try.func20, Try.ntmps20
  go_wp2
  go_ret
  exact ⟨rfl, rfl⟩

/-- The texts of a list are no longer than what fits into memory. -/
def Texts (l : List Tr.Nd) : Prop := ∀ x ∈ l, x.s.size ≤ 140737488355328 ∧ x.t.size ≤ 140737488355328 ∧ x.u.size ≤ 140737488355328

set_option maxHeartbeats 2000000 in
theorem sizeNodes_any (l : List Tr.Nd) (hlen : l.length ≤ 2199023255552) (hT : Texts l) (v : Value) (w : World) (hl : IsNodes w v l) :
    Calls Try.prog 21 #[v] w fun e w' => ∃ z : Nat, e = .returned (.int .i64 (z : Int)) ∧ l.length ≤ z ∧ ∃ n, w' = w.drewN n := by
  obtain ⟨a, c, rfl⟩ := hl.form
  go_enter Try.func21, Try.ntmps21
  go_wp2_with fail
  go_loopg [3, 4] l.length (fun g s t wr => ∃ k z n : Nat, k + g = l.length ∧ t = .int .i64 (k : Int) ∧ s = .int .i64 (z : Int) ∧ l.length ≤ z ∧ z ≤ 4611686018427387904 ∧ wr = w.drewN n)
  case atStart => exact ⟨0, l.length, 0, by omega, rfl, rfl, by omega, by omega, rfl⟩
  case round =>
    obtain ⟨k, z, n, hkg, rfl, rfl, hlz, hz, rfl⟩ := hrel
    by_cases hk : k < l.length
    · have hk' : (k : Int) < (l.length : Int) := by omega
      have hk0 : (0 : Int) ≤ (k : Int) := by omega
      by_cases hz2 : z ≤ 2147483647
      · have hz2' : (z : Int) ≤ 2147483647 := by omega
        obtain ⟨x, hx, hdx⟩ := getc hk
        obtain ⟨b1, o1, rfl, hc1, hl1, hcx⟩ := hl.at hx
        obtain ⟨p0, p1, p2, p3, p4, p5, p6, p7⟩ := agg_cells (o := o1 + k * 8) hcx
        obtain ⟨t1, t2, t3⟩ := hT x (List.mem_of_getElem? hx)
        have e1 : IntKind.i64.wrap ((z : Int) + (x.s.size : Int)) = (z : Int) + (x.s.size : Int) := IntWalk.i64_in _ (by omega)
        have e2 : IntKind.i64.wrap ((z : Int) + (x.s.size : Int) + (x.t.size : Int)) = (z : Int) + (x.s.size : Int) + (x.t.size : Int) := IntWalk.i64_in _ (by omega)
        have e3 : IntKind.i64.wrap ((z : Int) + (x.s.size : Int) + (x.t.size : Int) + (x.u.size : Int)) = (z : Int) + (x.s.size : Int) + (x.t.size : Int) + (x.u.size : Int) := IntWalk.i64_in _ (by omega)
        clear hcx hdx hx hl hT
        go_wp2_with fail
        go_quiet (fail)
        go_wp2_with fail
        go_roundg (l.length - (k + 1))
        case measure => omega
        case rel => exact ⟨k + 1, z + x.s.size + x.t.size + x.u.size, _, by omega, by go_num, by go_num, by omega, by omega, by first | rfl | exact World.drewN_drewN⟩
      · have hz2' : decide ((z : Int) ≤ 2147483647) = false := by simp; omega
        go_wp2_with fail
        go_ret
        exact ⟨z, rfl, hlz, n, rfl⟩
    · have hk' : ¬ (k : Int) < (l.length : Int) := by omega
      have hk2 : decide ((k : Int) < (l.length : Int)) = false := by simpa using hk'
      go_wp2_with fail
      go_ret
      exact ⟨z, rfl, hlz, n, rfl⟩

end Go.Proofs.Ytnhihajhhlilfaa
