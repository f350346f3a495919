/- The marks of the document's own packages, and lists of texts: text, num, EqTexts. -/
import Derived.Test.YtkcehgpcimlamabGreatDoorRefI
import Derived.Test.YtkcehgpcimlamabGreatDoorShelf
import Derived.Lib.AppendIntMem
import Derived.Lib.ItoaLen
namespace Go.Proofs.YtkcehgpcimlamabGreatDoor.Tb
open Go.RowKit

/-- The table of powers lies as the program's text lays it. -/
def Tab (w : World) : Prop := Lib.TabIs Tryz.prog w "internal/strconv.uint64pow10" .u64 Lib.pow10Tab
theorem Tab.on {w w' : World} (h : Tab w) (hB : Below w.heap.size w w') : Tab w' := Lib.tabBelow_of_tabIs h w' hB

/-- The mark of a place of a list. -/
def mk (n i : Nat) : ByteArray := S (33 :: Lib.itoa ((1048576 * n + i + 1 : Nat) : Int))

set_option maxRecDepth 100000 in
set_option maxHeartbeats 1000000 in
theorem num_any (n i : Nat) (hn : n ≤ 4294967296) (hi : i ≤ 4294967296) (w : World) :
    Calls Tryz.prog 40 #[.int .i64 n, .int .i64 i] w fun e w' => e = .returned (.int .i64 ((1048576 * n + i + 1 : Nat) : Int)) ∧ w' = w := by
  go_enter Tryz.func40, Tryz.ntmps40
  go_wp2_with fail
  go_ret
  exact ⟨ret_int (by omega), rfl⟩

set_option maxRecDepth 100000 in
set_option maxHeartbeats 1000000 in
theorem text_any (n i : Nat) (hn : n ≤ 4294967296) (hi : i ≤ 4294967296) (w : World) (ht : Tab w) :
    Calls Tryz.prog 20 #[.int .i64 n, .int .i64 i] w fun e w' => e = .returned (.string (mk n i)) ∧ Below w.heap.size w w' := by
  have hI := Tryz.strconv_Itoa ((1048576 * n + i + 1 : Nat) : Int) (by omega) (by omega) w ht
  have hl := Lib.itoa_length_le ((1048576 * n + i + 1 : Nat) : Int) (by omega) (by omega)
  have hcc : (⟨#[33]⟩ : ByteArray) ++ (⟨(Lib.itoa ((1048576 * n + i + 1 : Nat) : Int)).toArray⟩ : ByteArray) = mk n i := by apply ByteArray.ext; simp [mk, S]
  have hsz : (⟨(Lib.itoa ((1048576 * n + i + 1 : Nat) : Int)).toArray⟩ : ByteArray).size ≤ 21 := by simpa [ByteArray.size] using hl
  generalize (⟨(Lib.itoa ((1048576 * n + i + 1 : Nat) : Int)).toArray⟩ : ByteArray) = st at *
  obtain ⟨x, hx⟩ : ∃ x : Int, x = ((1048576 * n + i + 1 : Nat) : Int) := ⟨_, rfl⟩
  have hN := num_any n i hn hi w
  rw [← hx] at hI hN
  clear hx hl ht
  go_enter Tryz.func20, Tryz.ntmps20
  go_wp2_with (first | (go_at_call 40; refine hN.mono ?_; rintro e w' ⟨rfl, hw'⟩; replace hw' := hw'.symm; subst hw') | (go_at_call 39; refine hI.mono ?_; rintro e w1 ⟨rfl, k, os, rfl⟩))
  go_ret
  exact ⟨rfl, Lib.below_grow _ _ (Nat.le_refl _) _ _⟩
theorem cell_of {w : World} {g : Nat} {C : Array Value} {T : TypeId} {k : Nat} {v : Value} (h : w.heap[g]? = some (.cells C T (0, 0))) (hk : C[k]? = some v) : w.cell? ⟨g, k, none⟩ = some v := ((block_cells h).1 k).trans hk
end Go.Proofs.YtkcehgpcimlamabGreatDoor.Tb
