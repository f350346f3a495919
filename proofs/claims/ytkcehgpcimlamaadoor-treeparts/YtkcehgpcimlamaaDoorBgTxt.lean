/- The marks of rows of ints. -/
import Derived.Test.YtkcehgpcimlamaaDoorRefF
namespace Go.Proofs.YtkcehgpcimlamaaDoor.Bg
open Go.RowKit

/-- No table is wanted for marks of rows of ints. -/
def Tab (_ : World) : Prop := True
/-- The mark of a place of a list. -/
def mk (n i : Nat) : Int := ((1048576 * n + i + 1 : Nat) : Int)
theorem text_any (n i : Nat) (hn : n ≤ 4294967296) (hi : i ≤ 4294967296) (w : World) (_ : Tab w) :
    Calls Tryd.prog 36 #[.int .i64 n, .int .i64 i] w fun e w' => e = .returned (.int .i64 (mk n i)) ∧ Below w.heap.size w w' := by
  have h1 : (n : Int) ≤ 4294967296 := by omega
  have h2 : (i : Int) ≤ 4294967296 := by omega
  have h3 : (0 : Int) ≤ (n : Int) := by omega
  have h4 : (0 : Int) ≤ (i : Int) := by omega
  go_enter Tryd.func36, Tryd.ntmps36
  go_wp2_with fail
  go_ret
  exact ⟨ret_int (by unfold mk; omega), Below.refl _ _⟩
theorem cell_of {w : World} {g : Nat} {C : Array Value} {T : TypeId} {k : Nat} {v : Value} (h : w.heap[g]? = some (.cells C T (0, 0))) (hk : C[k]? = some v) : w.cell? ⟨g, k, none⟩ = some v := ((block_cells h).1 k).trans hk
theorem ty40 : Tryd.prog.underlying 37 = some (.slice 56) := by kernel_rfl
theorem info26 : (Tryd.prog.info? 56).map (fun i => (i.zero, i.size, i.bytes)) = some (some (.slice none 0 0), 1, 24) := by kernel_rfl
end Go.Proofs.YtkcehgpcimlamaaDoor.Bg
