/- The one closed call that every statement of this layer makes last: it answers true. -/
import Derived.Test.YtncnkojbpdemdaaGreatDoorRead
import Derived.Test.YtncnkojbpdemdaaGreatDoorWords
namespace Go.Proofs.YtncnkojbpdemdaaGreatDoor
open Go.RowKit

def tyL : Tp.Ty := .tf .ti (.tl .tq)
theorem live_chk (w : World) : Calls Tryz.prog 5 #[.string ⟨#[62, 105, 108, 63]⟩] w fun e w' => e = .returned (.tuple #[.int .i64 0, .int .i64 0]) ∧ w' = w := check_any ⟨#[62, 105, 108, 63]⟩ w
theorem live_parts (w : World) : Calls Tryz.prog 7 #[.string ⟨#[62, 105, 108, 63]⟩] w fun e w' => ∃ a c, e = .returned (.slice a 2 c) ∧ Below w.heap.size w w' := by
  refine (parts_yes tyL (by decide) w).mono ?_
  rintro e w' ⟨v, rfl, hown, hB⟩
  obtain ⟨a, c, rfl⟩ := own_len hown
  exact ⟨a, c, rfl, hB⟩
theorem live_words (w : World) : Calls Tryz.prog 9 #[.string ⟨#[62, 105, 108, 63]⟩] w fun e w' => e = .returned (.tuple #[.string ⟨#[105, 110, 116, 32, 45, 62, 32, 91, 63, 93]⟩, .int .i64 0]) ∧ Below w.heap.size w w' := words_yes tyL (by decide) w
theorem live_read1V : readV [105, 110, 116, 32, 45, 62, 32, 91, 63, 93] = .tuple #[.string ⟨#[62, 105, 108, 63]⟩, .int .i64 0, .int .i64 0] := by kernel_rfl
theorem live_read2V : readV [105, 110, 116, 32, 45, 62, 32, 93] = .tuple #[.string ⟨#[]⟩, .int .i64 15, .int .i64 7] := by kernel_rfl
theorem live_read1 (w : World) : Calls Tryz.prog 52 #[.string ⟨#[105, 110, 116, 32, 45, 62, 32, 91, 63, 93]⟩] w fun e w' => e = .returned (.tuple #[.string ⟨#[62, 105, 108, 63]⟩, .int .i64 0, .int .i64 0]) ∧ Below w.heap.size w w' := by
  rw [← live_read1V]
  exact (read_any ⟨#[105, 110, 116, 32, 45, 62, 32, 91, 63, 93]⟩ (by decide) w).mono (fun e w' h => ⟨h.1, h.2.1⟩)
theorem live_read2 (w : World) : Calls Tryz.prog 52 #[.string ⟨#[105, 110, 116, 32, 45, 62, 32, 93]⟩] w fun e w' => e = .returned (.tuple #[.string ⟨#[]⟩, .int .i64 15, .int .i64 7]) ∧ Below w.heap.size w w' := by
  rw [← live_read2V]
  exact (read_any ⟨#[105, 110, 116, 32, 45, 62, 32, 93]⟩ (by decide) w).mono (fun e w' h => ⟨h.1, h.2.1⟩)

set_option maxRecDepth 100000 in
set_option maxHeartbeats 2000000 in
theorem lives_any (w : World) : Calls Tryz.prog 22 #[] w fun e w' => e = .returned (.bool true) ∧ Below w.heap.size w w' := by
  go_enter Tryz.func22, Tryz.ntmps22
  go_wp2_with fail
  refine (live_chk _).mono ?_
  rintro e w0 ⟨rfl, hw⟩
  replace hw := hw.symm
  subst hw
  go_wp2_with fail
  refine (live_parts _).mono ?_
  rintro e w1 ⟨a, c, rfl, hB1⟩
  go_wp2_with fail
  refine (live_words _).mono ?_
  rintro e w2 ⟨rfl, hB2⟩
  go_wp2_with fail
  refine (live_read1 _).mono ?_
  rintro e w3 ⟨rfl, hB3⟩
  go_wp2_with fail
  refine (live_read2 _).mono ?_
  rintro e w4 ⟨rfl, hB4⟩
  go_wp2_with fail
  go_ret
  have h12 := hB1.trans (hB2.mono hB1.size)
  have h13 := h12.trans (hB3.mono h12.size)
  exact ⟨rfl, h13.trans (hB4.mono h13.size)⟩
end Go.Proofs.YtncnkojbpdemdaaGreatDoor
