/- The statements' own helpers on lists of nodes: likeness, the marks. The marks of the document's own packages, and lists of texts: text, num, EqTexts. -/
import Derived.Test.YtpikfdkgblghhaaGreatDoorXba
import Derived.Test.YtpikfdkgblghhaaGreatDoorXaj
import Derived.Lib.AppendIntMem
import Derived.Lib.ItoaLen
namespace Go.Proofs.YtpikfdkgblghhaaGreatDoor
open Go.RowKit
set_option maxRecDepth 100000
set_option linter.unusedSimpArgs false

set_option maxHeartbeats 4000000 in
theorem eqNodes_same (l : List Tr.Nd) (hlen : l.length ≤ 2199023255552) (va vb : Value) (w : World) (hla : IsNodes w va l) (hlb : IsNodes w vb l) :
    Calls Tryz.prog 11 #[va, vb] w fun e w' => e = .returned (.bool true) ∧ ∃ n, w' = w.drewN n := by
  obtain ⟨a, c, rfl⟩ := hla.form
  obtain ⟨a2, c2, rfl⟩ := hlb.form
  have hne : ((l.length : Int) != (l.length : Int)) = false := by simp
  go_enter Tryz.func11, Tryz.ntmps11
  go_wp2_with fail
  clear hne
  go_loopg [5] l.length (fun g t wr => ∃ k n : Nat, k + g = l.length ∧ t = .int .i64 (k : Int) ∧ wr = w.drewN n)
  case atStart => exact ⟨0, 0, by omega, rfl, rfl⟩
  case round =>
    obtain ⟨k, n, hkg, rfl, rfl⟩ := hrel
    by_cases hk : k < l.length
    · have hk' : (k : Int) < (l.length : Int) := by omega
      have hk0 : (0 : Int) ≤ (k : Int) := by omega
      obtain ⟨x, hx, hdx⟩ := getc hk
      obtain ⟨b1, o1, rfl, hc1, hl1, hcx⟩ := hla.at hx
      obtain ⟨b2, o2, rfl, hc2, hl2, hcy⟩ := hlb.at hx
      obtain ⟨p0, p1, p2, p3, p4, p5, p6, p7⟩ := agg_cells (o := o1 + k * 8) hcx
      obtain ⟨q0, q1, q2, q3, q4, q5, q6, q7⟩ := agg_cells (o := o2 + k * 8) hcy
      clear hcx hcy hdx hx hla hlb
      go_wp2_with fail
      go_quiet (fail)
      go_wp2_with fail
      go_roundg (l.length - (k + 1))
      case measure => omega
      case rel => exact ⟨k + 1, _, by omega, by go_num, by first | rfl | exact World.drewN_drewN⟩
    · have hk' : ¬ (k : Int) < (l.length : Int) := by omega
      go_wp2_with fail
      go_ret
      exact ⟨rfl, n, rfl⟩

set_option maxHeartbeats 4000000 in
theorem spareNodes_any (l : List Tr.Nd) (hlen : l.length ≤ 2147483647) (g : Nat) (w : World) (hW : Wide w g l) :
    Calls Tryz.prog 12 #[.slice (some ⟨g, 0, none⟩) l.length (l.length + 64)] w fun e w' => e = .returned (.bool true) ∧ Below w.heap.size w w' := by
  have hn64 : (l.length : Int) + 64 ≤ ((l.length + 64 : Nat) : Int) := by omega
  have hn0 : (0 : Int) ≤ (l.length : Int) + 64 := by omega
  have hcast : ((l.length : Int) + 64).toNat = l.length + 64 := by omega
  go_enter Tryz.func12, Tryz.ntmps12
  go_wp2_with fail
  go_loopg [4] 64 (fun gg t wr => ∃ k : Nat, k + gg = l.length + 64 ∧ l.length ≤ k ∧ t = .int .i64 (k : Int) ∧ Below w.heap.size w wr)
  case atStart => exact ⟨l.length, by omega, by omega, rfl, Below.refl _ _⟩
  case round =>
    obtain ⟨k, hkg, hlk, rfl, hB⟩ := hrel
    by_cases hk : k < l.length + 64
    · have hk' : (k : Int) < ((l.length : Int) + 64) := by omega
      have hk0 : (0 : Int) ≤ (k : Int) := by omega
      have hcx := (hW.below hB).cells hk
      rw [wdN_out hlk] at hcx
      have p0 : wr.cell? ⟨g, k * 8, none⟩ = some (.int .i8 0) := hcx 0 _ rfl
      have p1 : wr.cell? ⟨g, k * 8 + 1, none⟩ = some (.int .i64 (1048576 * 9 + (k : Int) + 1)) := hcx 1 _ rfl
      have p2 : wr.cell? ⟨g, k * 8 + 2, none⟩ = some (.int .i64 0) := hcx 2 _ rfl
      have p3 : wr.cell? ⟨g, k * 8 + 3, none⟩ = some (.string ⟨#[]⟩) := hcx 3 _ rfl
      have p4 : wr.cell? ⟨g, k * 8 + 4, none⟩ = some (.string ⟨#[]⟩) := hcx 4 _ rfl
      have p5 : wr.cell? ⟨g, k * 8 + 5, none⟩ = some (.string ⟨#[]⟩) := hcx 5 _ rfl
      have p6 : wr.cell? ⟨g, k * 8 + 6, none⟩ = some (.int .i64 0) := hcx 6 _ rfl
      have p7 : wr.cell? ⟨g, k * 8 + 7, none⟩ = some (.int .i64 0) := hcx 7 _ rfl
      have hnum : ∀ w, Calls Tryz.prog 24 #[.int .i64 9, .int .i64 k] w fun e w' => e = .returned (.int .i64 (9437184 + (k : Int) + 1)) ∧ w' = w := num_any 9 k (by omega) (by omega)
      have hws := hB.size
      clear hcx hW
      go_wp2_with fail
      go_quiet ((go_at_call 24; exact Calls.quiet_of_same (hnum _)))
      go_wp2_with fail
      go_roundg (l.length + 64 - (k + 1))
      case measure => omega
      case rel => exact ⟨k + 1, by omega, by omega, by go_num, below_drewN (hB.alloc hws _) _⟩
    · have hk' : ¬ (k : Int) < ((l.length : Int) + 64) := by omega
      go_wp2_with fail
      go_ret
      exact ⟨rfl, hB⟩
end Go.Proofs.YtpikfdkgblghhaaGreatDoor
namespace Go.Proofs.YtpikfdkgblghhaaGreatDoor.Tb
open Go.RowKit

/-- The table of powers lies as the program's text lays it. -/
def Tab (w : World) : Prop := Lib.TabIs Tryz.prog w "internal/strconv.uint64pow10" .u64 Lib.pow10Tab
theorem Tab.on {w w' : World} (h : Tab w) (hB : Below w.heap.size w w') : Tab w' := Lib.tabBelow_of_tabIs h w' hB

/-- The mark of a place of a list. -/
def mk (n i : Nat) : ByteArray := S (33 :: Lib.itoa ((1048576 * n + i + 1 : Nat) : Int))

set_option maxRecDepth 100000 in
set_option maxHeartbeats 1000000 in
theorem num_any (n i : Nat) (hn : n ≤ 4294967296) (hi : i ≤ 4294967296) (w : World) :
    Calls Tryz.prog 24 #[.int .i64 n, .int .i64 i] w fun e w' => e = .returned (.int .i64 ((1048576 * n + i + 1 : Nat) : Int)) ∧ w' = w := by
  go_enter Tryz.func24, Tryz.ntmps24
  go_wp2_with fail
  go_ret
  exact ⟨ret_int (by omega), rfl⟩

set_option maxRecDepth 100000 in
set_option maxHeartbeats 1000000 in
theorem text_any (n i : Nat) (hn : n ≤ 4294967296) (hi : i ≤ 4294967296) (w : World) (ht : Tab w) :
    Calls Tryz.prog 32 #[.int .i64 n, .int .i64 i] w fun e w' => e = .returned (.string (mk n i)) ∧ Below w.heap.size w w' := by
  have hI := Tryz.strconv_Itoa ((1048576 * n + i + 1 : Nat) : Int) (by omega) (by omega) w ht
  have hl := Lib.itoa_length_le ((1048576 * n + i + 1 : Nat) : Int) (by omega) (by omega)
  have hcc : (⟨#[33]⟩ : ByteArray) ++ (⟨(Lib.itoa ((1048576 * n + i + 1 : Nat) : Int)).toArray⟩ : ByteArray) = mk n i := by apply ByteArray.ext; simp [mk, S]
  have hsz : (⟨(Lib.itoa ((1048576 * n + i + 1 : Nat) : Int)).toArray⟩ : ByteArray).size ≤ 21 := by simpa [ByteArray.size] using hl
  generalize (⟨(Lib.itoa ((1048576 * n + i + 1 : Nat) : Int)).toArray⟩ : ByteArray) = st at *
  obtain ⟨x, hx⟩ : ∃ x : Int, x = ((1048576 * n + i + 1 : Nat) : Int) := ⟨_, rfl⟩
  have hN := num_any n i hn hi w
  rw [← hx] at hI hN
  clear hx hl ht
  go_enter Tryz.func32, Tryz.ntmps32
  go_wp2_with (first | (go_at_call 24; refine hN.mono ?_; rintro e w' ⟨rfl, hw'⟩; replace hw' := hw'.symm; subst hw') | (go_at_call 65; refine hI.mono ?_; rintro e w1 ⟨rfl, k, os, rfl⟩))
  go_ret
  exact ⟨rfl, Lib.below_grow _ _ (Nat.le_refl _) _ _⟩
theorem cell_of {w : World} {g : Nat} {C : Array Value} {T : TypeId} {k : Nat} {v : Value} (h : w.heap[g]? = some (.cells C T (0, 0))) (hk : C[k]? = some v) : w.cell? ⟨g, k, none⟩ = some v := ((block_cells h).1 k).trans hk
end Go.Proofs.YtpikfdkgblghhaaGreatDoor.Tb
