/- The statements' own helpers on lists of sites: likeness, the marks. -/
import Derived.Test.YteaolcfpdhlohaaDoorLbC
namespace Go.Proofs.YteaolcfpdhlohaaDoor
open Go.RowKit
set_option maxRecDepth 100000
set_option linter.unusedSimpArgs false

set_option maxHeartbeats 4000000 in
theorem eqSites_same (l : List Lb.Si) (hlen : l.length ≤ 2199023255552) (va vb : Value) (w : World) (hla : IsSites w va l) (hlb : IsSites w vb l) :
    Calls Tryd.prog 21 #[va, vb] w fun e w' => e = .returned (.bool true) ∧ ∃ n, w' = w.drewN n := by
  obtain ⟨a, c, rfl⟩ := hla.form
  obtain ⟨a2, c2, rfl⟩ := hlb.form
  have hne : ((l.length : Int) != (l.length : Int)) = false := by simp
  go_enter Tryd.func21, Tryd.ntmps21
  go_wp2_with fail
  clear hne
  go_loopg [5] l.length (fun g t wr => ∃ k n : Nat, k + g = l.length ∧ t = .int .i64 (k : Int) ∧ wr = w.drewN n)
  case atStart => exact ⟨0, 0, by omega, rfl, rfl⟩
  case round =>
    obtain ⟨k, n, hkg, rfl, rfl⟩ := hrel
    by_cases hk : k < l.length
    · have hk' : (k : Int) < (l.length : Int) := by omega
      have hk0 : (0 : Int) ≤ (k : Int) := by omega
      obtain ⟨x, hx, hdx⟩ := getc hk
      obtain ⟨b1, o1, rfl, hc1, hl1, hcx⟩ := hla.at hx
      obtain ⟨b2, o2, rfl, hc2, hl2, hcy⟩ := hlb.at hx
      obtain ⟨p0, p1, p2, p3, p4⟩ := agg_cells (o := o1 + k * 5) hcx
      obtain ⟨q0, q1, q2, q3, q4⟩ := agg_cells (o := o2 + k * 5) hcy
      clear hcx hcy hdx hx hla hlb
      go_wp2_with fail
      go_quiet (fail)
      go_wp2_with fail
      go_roundg (l.length - (k + 1))
      case measure => omega
      case rel => exact ⟨k + 1, _, by omega, by go_num, by first | rfl | exact World.drewN_drewN⟩
    · have hk' : ¬ (k : Int) < (l.length : Int) := by omega
      go_wp2_with fail
      go_ret
      exact ⟨rfl, n, rfl⟩

set_option maxHeartbeats 4000000 in
theorem spareSites_any (l : List Lb.Si) (hlen : l.length ≤ 2147483647) (g : Nat) (w : World) (hW : Wide w g l) :
    Calls Tryd.prog 22 #[.slice (some ⟨g, 0, none⟩) l.length (l.length + 64)] w fun e w' => e = .returned (.bool true) ∧ Below w.heap.size w w' := by
  have hn64 : (l.length : Int) + 64 ≤ ((l.length + 64 : Nat) : Int) := by omega
  have hn0 : (0 : Int) ≤ (l.length : Int) + 64 := by omega
  have hcast : ((l.length : Int) + 64).toNat = l.length + 64 := by omega
  go_enter Tryd.func22, Tryd.ntmps22
  go_wp2_with fail
  go_loopg [4] 64 (fun gg t wr => ∃ k : Nat, k + gg = l.length + 64 ∧ l.length ≤ k ∧ t = .int .i64 (k : Int) ∧ Below w.heap.size w wr)
  case atStart => exact ⟨l.length, by omega, by omega, rfl, Below.refl _ _⟩
  case round =>
    obtain ⟨k, hkg, hlk, rfl, hB⟩ := hrel
    by_cases hk : k < l.length + 64
    · have hk' : (k : Int) < ((l.length : Int) + 64) := by omega
      have hk0 : (0 : Int) ≤ (k : Int) := by omega
      have hcx := (hW.below hB).cells hk
      rw [wdS_out hlk] at hcx
      have p0 : wr.cell? ⟨g, k * 5, none⟩ = some (.string ⟨#[]⟩) := hcx 0 _ rfl
      have p1 : wr.cell? ⟨g, k * 5 + 1, none⟩ = some (.string ⟨#[]⟩) := hcx 1 _ rfl
      have p2 : wr.cell? ⟨g, k * 5 + 2, none⟩ = some (.int .i64 0) := hcx 2 _ rfl
      have p3 : wr.cell? ⟨g, k * 5 + 3, none⟩ = some (.int .i64 0) := hcx 3 _ rfl
      have p4 : wr.cell? ⟨g, k * 5 + 4, none⟩ = some (.int .i64 (1048576 * 9 + (k : Int) + 1)) := hcx 4 _ rfl
      have hnum : ∀ w, Calls Tryd.prog 29 #[.int .i64 9, .int .i64 k] w fun e w' => e = .returned (.int .i64 (9437184 + (k : Int) + 1)) ∧ w' = w := num_any 9 k (by omega) (by omega)
      have hws := hB.size
      clear hcx hW
      go_wp2_with fail
      go_quiet ((go_at_call 29; exact Calls.quiet_of_same (hnum _)))
      go_wp2_with fail
      go_roundg (l.length + 64 - (k + 1))
      case measure => omega
      case rel => exact ⟨k + 1, by omega, by omega, by go_num, below_drewN (hB.alloc hws _) _⟩
    · have hk' : ¬ (k : Int) < ((l.length : Int) + 64) := by omega
      go_wp2_with fail
      go_ret
      exact ⟨rfl, hB⟩
end Go.Proofs.YteaolcfpdhlohaaDoor
